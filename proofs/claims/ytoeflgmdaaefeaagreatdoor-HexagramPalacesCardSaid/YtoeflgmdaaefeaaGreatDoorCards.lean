/-
  DERIVED. GIVEN WITH THE SEED: THE CARDS: each row of YtoeflgmdaaefeaaGreatDoorRows.lean that lists a variable, with what it lists TIED to the program's text (the seventh form; the later family's looks); each row that meets fmt, with fmt's text TOLD by the authors' own Lean function (tested against real Go, not proved from fmt's source: count such statements apart). THE CARD IS WHAT COUNTS. Prove the row's statement (the work); the ties are given (YtoeflgmdaaefeaaGreatDoorTie.lean); close each card by the builder's one call (the guide's Derived/Test/ToyasCard.lean, 'card_holds'). Laid BY PROGRAM, IN A SANDBOX (cutbox-door.mjs). By AI agents, Wed Nov 11 2026. No macro, syntax, notation, axiom, sorry.
-/
import Derived.Test.YtoeflgmdaaefeaaGreatDoorRows
import GoSem.ClaimSeven
namespace Go.Proofs.YtoeflgmdaaefeaaGreatDoor
namespace Rows

/-- THE TIED CARD OF 'astragallaw04.HexagramOrders'. -/
def hexagramOrdersCard : Claim7 := { stood := { row := hexagramOrdersRow, standIns := [], harness := (true, "ca4d2ce5e233049a8fb7986b551c650519934c3868b9592dbcd4daae682f36a1"), looks := false }, kinds := [], alts := [], laidByText := true, laidKinds := [.data, .data, .data, .data, .pinned], laidTests := true, laidLooks := .later }
def HexagramOrdersCardSaid : Prop := Claim7.holds Tryz.pinned (.plain (OpenSpec.ofChange hexagramOrdersSpec)) hexagramOrdersCard

/-- THE TIED CARD OF 'astragallaw04.HexagramWeighs'. -/
def hexagramWeighsCard : Claim7 := { stood := { row := hexagramWeighsRow, standIns := [], harness := (true, "ca4d2ce5e233049a8fb7986b551c650519934c3868b9592dbcd4daae682f36a1"), looks := false }, kinds := [], alts := [], laidByText := true, laidKinds := [.data, .data, .data, .pinned], laidTests := true, laidLooks := .later }
def HexagramWeighsCardSaid : Prop := Claim7.holds Tryz.pinned (.plain (OpenSpec.ofChange hexagramWeighsSpec)) hexagramWeighsCard

/-- THE TIED CARD OF 'astragallaw04.HexagramPalaces'. -/
def hexagramPalacesCard : Claim7 := { stood := { row := hexagramPalacesRow, standIns := [], harness := (true, "ca4d2ce5e233049a8fb7986b551c650519934c3868b9592dbcd4daae682f36a1"), looks := false }, kinds := [], alts := [], laidByText := true, laidKinds := [.data, .data, .data, .data, .pinned], laidTests := true, laidLooks := .later }
def HexagramPalacesCardSaid : Prop := Claim7.holds Tryz.pinned (.plain (OpenSpec.ofChange hexagramPalacesSpec)) hexagramPalacesCard

/-- THE TIED CARD OF 'astragallaw04.HexagramChances'. -/
def hexagramChancesCard : Claim7 := { stood := { row := hexagramChancesRow, standIns := [], harness := (true, "ca4d2ce5e233049a8fb7986b551c650519934c3868b9592dbcd4daae682f36a1"), looks := false }, kinds := [], alts := [], laidByText := true, laidKinds := [.data, .data, .data, .pinned], laidTests := true, laidLooks := .later }
def HexagramChancesCardSaid : Prop := Claim7.holds Tryz.pinned (.plain (OpenSpec.ofChange hexagramChancesSpec)) hexagramChancesCard

/-- THE SECOND FORM's CARD OF 'astragallaw04.HexagramOrders'. -/
def hexagramOrdersUptoCard : Claim7 := { stood := { row := hexagramOrdersUptoRow, standIns := [], harness := (true, "ca4d2ce5e233049a8fb7986b551c650519934c3868b9592dbcd4daae682f36a1"), looks := false }, kinds := [], alts := [], laidByText := true, laidKinds := [.data, .data, .data, .data, .pinned], laidTests := true, laidLooks := .later }
def HexagramOrdersUptoCardSaid : Prop := Claim7.holds Tryz.pinned (.plain (OpenSpec.upto hexagramOrdersSpec)) hexagramOrdersUptoCard

/-- THE SECOND FORM's CARD OF 'astragallaw04.HexagramWeighs'. -/
def hexagramWeighsUptoCard : Claim7 := { stood := { row := hexagramWeighsUptoRow, standIns := [], harness := (true, "ca4d2ce5e233049a8fb7986b551c650519934c3868b9592dbcd4daae682f36a1"), looks := false }, kinds := [], alts := [], laidByText := true, laidKinds := [.data, .data, .data, .pinned], laidTests := true, laidLooks := .later }
def HexagramWeighsUptoCardSaid : Prop := Claim7.holds Tryz.pinned (.plain (OpenSpec.upto hexagramWeighsSpec)) hexagramWeighsUptoCard

/-- THE SECOND FORM's CARD OF 'astragallaw04.HexagramPalaces'. -/
def hexagramPalacesUptoCard : Claim7 := { stood := { row := hexagramPalacesUptoRow, standIns := [], harness := (true, "ca4d2ce5e233049a8fb7986b551c650519934c3868b9592dbcd4daae682f36a1"), looks := false }, kinds := [], alts := [], laidByText := true, laidKinds := [.data, .data, .data, .data, .pinned], laidTests := true, laidLooks := .later }
def HexagramPalacesUptoCardSaid : Prop := Claim7.holds Tryz.pinned (.plain (OpenSpec.upto hexagramPalacesSpec)) hexagramPalacesUptoCard

/-- THE SECOND FORM's CARD OF 'astragallaw04.HexagramChances'. -/
def hexagramChancesUptoCard : Claim7 := { stood := { row := hexagramChancesUptoRow, standIns := [], harness := (true, "ca4d2ce5e233049a8fb7986b551c650519934c3868b9592dbcd4daae682f36a1"), looks := false }, kinds := [], alts := [], laidByText := true, laidKinds := [.data, .data, .data, .pinned], laidTests := true, laidLooks := .later }
def HexagramChancesUptoCardSaid : Prop := Claim7.holds Tryz.pinned (.plain (OpenSpec.upto hexagramChancesSpec)) hexagramChancesUptoCard
end Rows
end Go.Proofs.YtoeflgmdaaefeaaGreatDoor
