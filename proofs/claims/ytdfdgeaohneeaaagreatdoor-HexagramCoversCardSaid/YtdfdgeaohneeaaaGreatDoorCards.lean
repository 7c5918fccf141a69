/-
  DERIVED. GIVEN WITH THE SEED: THE CARDS: each row of YtdfdgeaohneeaaaGreatDoorRows.lean that lists a variable, with what it lists TIED to the program's text (the seventh form; the later family's looks); each row that meets fmt, with fmt's text TOLD by the authors' own Lean function (tested against real Go, not proved from fmt's source: count such statements apart). THE CARD IS WHAT COUNTS. Prove the row's statement (the work); the ties are given (YtdfdgeaohneeaaaGreatDoorTie.lean); close each card by the builder's one call (the guide's Derived/Test/ToyasCard.lean, 'card_holds'). Laid BY PROGRAM, IN A SANDBOX (cutbox-door.mjs). By AI agents, Wed Nov 11 2026. No macro, syntax, notation, axiom, sorry.
-/
import Derived.Test.YtdfdgeaohneeaaaGreatDoorRows
import GoSem.ClaimSeven
namespace Go.Proofs.YtdfdgeaohneeaaaGreatDoor
namespace Rows

/-- THE TIED CARD OF 'astragallaw04.HexagramOrbits'. -/
def hexagramOrbitsCard : Claim7 := { stood := { row := hexagramOrbitsRow, standIns := [], harness := (true, "ec773340b235d37dd9420b493a64bb987a2dda5aff82210df923b2dc2ccaf78d"), looks := false }, kinds := [], alts := [], laidByText := true, laidKinds := [.data, .data, .data, .pinned], laidTests := true, laidLooks := .later }
def HexagramOrbitsCardSaid : Prop := Claim7.holds Tryz.pinned (.plain (OpenSpec.ofChange hexagramOrbitsSpec)) hexagramOrbitsCard

/-- THE TIED CARD OF 'astragallaw04.HexagramAsks'. -/
def hexagramAsksCard : Claim7 := { stood := { row := hexagramAsksRow, standIns := [], harness := (true, "ec773340b235d37dd9420b493a64bb987a2dda5aff82210df923b2dc2ccaf78d"), looks := false }, kinds := [], alts := [], laidByText := true, laidKinds := [.data, .data, .data, .pinned], laidTests := true, laidLooks := .later }
def HexagramAsksCardSaid : Prop := Claim7.holds Tryz.pinned (.plain (OpenSpec.ofChange hexagramAsksSpec)) hexagramAsksCard

/-- THE TIED CARD OF 'astragallaw04.HexagramGroups'. -/
def hexagramGroupsCard : Claim7 := { stood := { row := hexagramGroupsRow, standIns := [], harness := (true, "ec773340b235d37dd9420b493a64bb987a2dda5aff82210df923b2dc2ccaf78d"), looks := false }, kinds := [], alts := [], laidByText := true, laidKinds := [.data, .data, .data, .pinned], laidTests := true, laidLooks := .later }
def HexagramGroupsCardSaid : Prop := Claim7.holds Tryz.pinned (.plain (OpenSpec.ofChange hexagramGroupsSpec)) hexagramGroupsCard

/-- THE TIED CARD OF 'astragallaw04.HexagramChances'. -/
def hexagramChancesCard : Claim7 := { stood := { row := hexagramChancesRow, standIns := [], harness := (true, "ec773340b235d37dd9420b493a64bb987a2dda5aff82210df923b2dc2ccaf78d"), looks := false }, kinds := [], alts := [], laidByText := true, laidKinds := [.data, .data, .data, .pinned], laidTests := true, laidLooks := .later }
def HexagramChancesCardSaid : Prop := Claim7.holds Tryz.pinned (.plain (OpenSpec.ofChange hexagramChancesSpec)) hexagramChancesCard

/-- THE TIED CARD OF 'astragallaw04.HexagramCovers'. -/
def hexagramCoversCard : Claim7 := { stood := { row := hexagramCoversRow, standIns := [], harness := (true, "ec773340b235d37dd9420b493a64bb987a2dda5aff82210df923b2dc2ccaf78d"), looks := false }, kinds := [], alts := [], laidByText := true, laidKinds := [.data, .data, .data, .pinned], laidTests := true, laidLooks := .later }
def HexagramCoversCardSaid : Prop := Claim7.holds Tryz.pinned (.plain (OpenSpec.ofChange hexagramCoversSpec)) hexagramCoversCard

/-- THE SECOND FORM's CARD OF 'astragallaw04.HexagramOrbits'. -/
def hexagramOrbitsUptoCard : Claim7 := { stood := { row := hexagramOrbitsUptoRow, standIns := [], harness := (true, "ec773340b235d37dd9420b493a64bb987a2dda5aff82210df923b2dc2ccaf78d"), looks := false }, kinds := [], alts := [], laidByText := true, laidKinds := [.data, .data, .data, .pinned], laidTests := true, laidLooks := .later }
def HexagramOrbitsUptoCardSaid : Prop := Claim7.holds Tryz.pinned (.plain (OpenSpec.upto hexagramOrbitsSpec)) hexagramOrbitsUptoCard

/-- THE SECOND FORM's CARD OF 'astragallaw04.HexagramAsks'. -/
def hexagramAsksUptoCard : Claim7 := { stood := { row := hexagramAsksUptoRow, standIns := [], harness := (true, "ec773340b235d37dd9420b493a64bb987a2dda5aff82210df923b2dc2ccaf78d"), looks := false }, kinds := [], alts := [], laidByText := true, laidKinds := [.data, .data, .data, .pinned], laidTests := true, laidLooks := .later }
def HexagramAsksUptoCardSaid : Prop := Claim7.holds Tryz.pinned (.plain (OpenSpec.upto hexagramAsksSpec)) hexagramAsksUptoCard

/-- THE SECOND FORM's CARD OF 'astragallaw04.HexagramGroups'. -/
def hexagramGroupsUptoCard : Claim7 := { stood := { row := hexagramGroupsUptoRow, standIns := [], harness := (true, "ec773340b235d37dd9420b493a64bb987a2dda5aff82210df923b2dc2ccaf78d"), looks := false }, kinds := [], alts := [], laidByText := true, laidKinds := [.data, .data, .data, .pinned], laidTests := true, laidLooks := .later }
def HexagramGroupsUptoCardSaid : Prop := Claim7.holds Tryz.pinned (.plain (OpenSpec.upto hexagramGroupsSpec)) hexagramGroupsUptoCard

/-- THE SECOND FORM's CARD OF 'astragallaw04.HexagramChances'. -/
def hexagramChancesUptoCard : Claim7 := { stood := { row := hexagramChancesUptoRow, standIns := [], harness := (true, "ec773340b235d37dd9420b493a64bb987a2dda5aff82210df923b2dc2ccaf78d"), looks := false }, kinds := [], alts := [], laidByText := true, laidKinds := [.data, .data, .data, .pinned], laidTests := true, laidLooks := .later }
def HexagramChancesUptoCardSaid : Prop := Claim7.holds Tryz.pinned (.plain (OpenSpec.upto hexagramChancesSpec)) hexagramChancesUptoCard

/-- THE SECOND FORM's CARD OF 'astragallaw04.HexagramCovers'. -/
def hexagramCoversUptoCard : Claim7 := { stood := { row := hexagramCoversUptoRow, standIns := [], harness := (true, "ec773340b235d37dd9420b493a64bb987a2dda5aff82210df923b2dc2ccaf78d"), looks := false }, kinds := [], alts := [], laidByText := true, laidKinds := [.data, .data, .data, .pinned], laidTests := true, laidLooks := .later }
def HexagramCoversUptoCardSaid : Prop := Claim7.holds Tryz.pinned (.plain (OpenSpec.upto hexagramCoversSpec)) hexagramCoversUptoCard
end Rows
end Go.Proofs.YtdfdgeaohneeaaaGreatDoor
