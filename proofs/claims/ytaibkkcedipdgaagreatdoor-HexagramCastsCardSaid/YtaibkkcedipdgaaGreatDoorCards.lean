/-
  DERIVED. GIVEN WITH THE SEED: THE CARDS: each row of YtaibkkcedipdgaaGreatDoorRows.lean that lists a variable, with what it lists TIED to the program's text (the seventh form; the later family's looks); each row that meets fmt, with fmt's text TOLD by the authors' own Lean function (tested against real Go, not proved from fmt's source: count such statements apart). THE CARD IS WHAT COUNTS. Prove the row's statement (the work); the ties are given (YtaibkkcedipdgaaGreatDoorTie.lean); close each card by the builder's one call (the guide's Derived/Test/ToyasCard.lean, 'card_holds'). Laid BY PROGRAM, IN A SANDBOX (cutbox-door.mjs). By AI agents, Wed Nov 11 2026. No macro, syntax, notation, axiom, sorry.
-/
import Derived.Test.YtaibkkcedipdgaaGreatDoorRows
import GoSem.ClaimSeven
namespace Go.Proofs.YtaibkkcedipdgaaGreatDoor
namespace Rows

/-- THE TIED CARD OF 'astragallaw04.HexagramCasts'. -/
def hexagramCastsCard : Claim7 := { stood := { row := hexagramCastsRow, standIns := [], harness := (true, "a97849228c63c4b4fb6c52a457cad5ea422bed06d53aac0859c35ef0ab536dc4"), looks := false }, kinds := [], alts := [], laidByText := true, laidKinds := [.data, .data, .data, .pinned], laidTests := true, laidLooks := .later }
def HexagramCastsCardSaid : Prop := Claim7.holds Tryz.pinned (.plain (OpenSpec.ofChange hexagramCastsSpec)) hexagramCastsCard

/-- THE TIED CARD OF 'astragallaw04.HexagramApplies'. -/
def hexagramAppliesCard : Claim7 := { stood := { row := hexagramAppliesRow, standIns := [], harness := (true, "a97849228c63c4b4fb6c52a457cad5ea422bed06d53aac0859c35ef0ab536dc4"), looks := false }, kinds := [], alts := [], laidByText := true, laidKinds := [.data, .data, .data, .pinned], laidTests := true, laidLooks := .later }
def HexagramAppliesCardSaid : Prop := Claim7.holds Tryz.pinned (.plain (OpenSpec.ofChange hexagramAppliesSpec)) hexagramAppliesCard

/-- THE TIED CARD OF 'astragallaw04.HexagramChains'. -/
def hexagramChainsCard : Claim7 := { stood := { row := hexagramChainsRow, standIns := [], harness := (true, "a97849228c63c4b4fb6c52a457cad5ea422bed06d53aac0859c35ef0ab536dc4"), looks := false }, kinds := [], alts := [], laidByText := true, laidKinds := [.data, .data, .data, .data, .pinned], laidTests := true, laidLooks := .later }
def HexagramChainsCardSaid : Prop := Claim7.holds Tryz.pinned (.plain (OpenSpec.ofChange hexagramChainsSpec)) hexagramChainsCard

/-- THE TIED CARD OF 'astragallaw04.HexagramOrbits'. -/
def hexagramOrbitsCard : Claim7 := { stood := { row := hexagramOrbitsRow, standIns := [], harness := (true, "a97849228c63c4b4fb6c52a457cad5ea422bed06d53aac0859c35ef0ab536dc4"), looks := false }, kinds := [], alts := [], laidByText := true, laidKinds := [.data, .data, .data, .pinned], laidTests := true, laidLooks := .later }
def HexagramOrbitsCardSaid : Prop := Claim7.holds Tryz.pinned (.plain (OpenSpec.ofChange hexagramOrbitsSpec)) hexagramOrbitsCard

/-- THE TIED CARD OF 'astragallaw04.HexagramOrders'. -/
def hexagramOrdersCard : Claim7 := { stood := { row := hexagramOrdersRow, standIns := [], harness := (true, "a97849228c63c4b4fb6c52a457cad5ea422bed06d53aac0859c35ef0ab536dc4"), looks := false }, kinds := [], alts := [], laidByText := true, laidKinds := [.data, .data, .data, .data, .pinned], laidTests := true, laidLooks := .later }
def HexagramOrdersCardSaid : Prop := Claim7.holds Tryz.pinned (.plain (OpenSpec.ofChange hexagramOrdersSpec)) hexagramOrdersCard

/-- THE TIED CARD OF 'astragallaw04.HexagramWeighs'. -/
def hexagramWeighsCard : Claim7 := { stood := { row := hexagramWeighsRow, standIns := [], harness := (true, "a97849228c63c4b4fb6c52a457cad5ea422bed06d53aac0859c35ef0ab536dc4"), looks := false }, kinds := [], alts := [], laidByText := true, laidKinds := [.data, .data, .data, .pinned], laidTests := true, laidLooks := .later }
def HexagramWeighsCardSaid : Prop := Claim7.holds Tryz.pinned (.plain (OpenSpec.ofChange hexagramWeighsSpec)) hexagramWeighsCard

/-- THE TIED CARD OF 'astragallaw04.HexagramAsks'. -/
def hexagramAsksCard : Claim7 := { stood := { row := hexagramAsksRow, standIns := [], harness := (true, "a97849228c63c4b4fb6c52a457cad5ea422bed06d53aac0859c35ef0ab536dc4"), looks := false }, kinds := [], alts := [], laidByText := true, laidKinds := [.data, .data, .data, .pinned], laidTests := true, laidLooks := .later }
def HexagramAsksCardSaid : Prop := Claim7.holds Tryz.pinned (.plain (OpenSpec.ofChange hexagramAsksSpec)) hexagramAsksCard

/-- THE TIED CARD OF 'astragallaw04.HexagramGroups'. -/
def hexagramGroupsCard : Claim7 := { stood := { row := hexagramGroupsRow, standIns := [], harness := (true, "a97849228c63c4b4fb6c52a457cad5ea422bed06d53aac0859c35ef0ab536dc4"), looks := false }, kinds := [], alts := [], laidByText := true, laidKinds := [.data, .data, .data, .pinned], laidTests := true, laidLooks := .later }
def HexagramGroupsCardSaid : Prop := Claim7.holds Tryz.pinned (.plain (OpenSpec.ofChange hexagramGroupsSpec)) hexagramGroupsCard

/-- THE TIED CARD OF 'astragallaw04.HexagramPalaces'. -/
def hexagramPalacesCard : Claim7 := { stood := { row := hexagramPalacesRow, standIns := [], harness := (true, "a97849228c63c4b4fb6c52a457cad5ea422bed06d53aac0859c35ef0ab536dc4"), looks := false }, kinds := [], alts := [], laidByText := true, laidKinds := [.data, .data, .data, .data, .pinned], laidTests := true, laidLooks := .later }
def HexagramPalacesCardSaid : Prop := Claim7.holds Tryz.pinned (.plain (OpenSpec.ofChange hexagramPalacesSpec)) hexagramPalacesCard

/-- THE TIED CARD OF 'astragallaw04.HexagramChances'. -/
def hexagramChancesCard : Claim7 := { stood := { row := hexagramChancesRow, standIns := [], harness := (true, "a97849228c63c4b4fb6c52a457cad5ea422bed06d53aac0859c35ef0ab536dc4"), looks := false }, kinds := [], alts := [], laidByText := true, laidKinds := [.data, .data, .data, .pinned], laidTests := true, laidLooks := .later }
def HexagramChancesCardSaid : Prop := Claim7.holds Tryz.pinned (.plain (OpenSpec.ofChange hexagramChancesSpec)) hexagramChancesCard

/-- THE TIED CARD OF 'astragallaw04.HexagramCovers'. -/
def hexagramCoversCard : Claim7 := { stood := { row := hexagramCoversRow, standIns := [], harness := (true, "a97849228c63c4b4fb6c52a457cad5ea422bed06d53aac0859c35ef0ab536dc4"), looks := false }, kinds := [], alts := [], laidByText := true, laidKinds := [.data, .data, .data, .pinned], laidTests := true, laidLooks := .later }
def HexagramCoversCardSaid : Prop := Claim7.holds Tryz.pinned (.plain (OpenSpec.ofChange hexagramCoversSpec)) hexagramCoversCard

/-- THE SECOND FORM's CARD OF 'astragallaw04.HexagramCasts'. -/
def hexagramCastsUptoCard : Claim7 := { stood := { row := hexagramCastsUptoRow, standIns := [], harness := (true, "a97849228c63c4b4fb6c52a457cad5ea422bed06d53aac0859c35ef0ab536dc4"), looks := false }, kinds := [], alts := [], laidByText := true, laidKinds := [.data, .data, .data, .pinned], laidTests := true, laidLooks := .later }
def HexagramCastsUptoCardSaid : Prop := Claim7.holds Tryz.pinned (.plain (OpenSpec.upto hexagramCastsSpec)) hexagramCastsUptoCard

/-- THE SECOND FORM's CARD OF 'astragallaw04.HexagramApplies'. -/
def hexagramAppliesUptoCard : Claim7 := { stood := { row := hexagramAppliesUptoRow, standIns := [], harness := (true, "a97849228c63c4b4fb6c52a457cad5ea422bed06d53aac0859c35ef0ab536dc4"), looks := false }, kinds := [], alts := [], laidByText := true, laidKinds := [.data, .data, .data, .pinned], laidTests := true, laidLooks := .later }
def HexagramAppliesUptoCardSaid : Prop := Claim7.holds Tryz.pinned (.plain (OpenSpec.upto hexagramAppliesSpec)) hexagramAppliesUptoCard

/-- THE SECOND FORM's CARD OF 'astragallaw04.HexagramChains'. -/
def hexagramChainsUptoCard : Claim7 := { stood := { row := hexagramChainsUptoRow, standIns := [], harness := (true, "a97849228c63c4b4fb6c52a457cad5ea422bed06d53aac0859c35ef0ab536dc4"), looks := false }, kinds := [], alts := [], laidByText := true, laidKinds := [.data, .data, .data, .data, .pinned], laidTests := true, laidLooks := .later }
def HexagramChainsUptoCardSaid : Prop := Claim7.holds Tryz.pinned (.plain (OpenSpec.upto hexagramChainsSpec)) hexagramChainsUptoCard

/-- THE SECOND FORM's CARD OF 'astragallaw04.HexagramOrbits'. -/
def hexagramOrbitsUptoCard : Claim7 := { stood := { row := hexagramOrbitsUptoRow, standIns := [], harness := (true, "a97849228c63c4b4fb6c52a457cad5ea422bed06d53aac0859c35ef0ab536dc4"), looks := false }, kinds := [], alts := [], laidByText := true, laidKinds := [.data, .data, .data, .pinned], laidTests := true, laidLooks := .later }
def HexagramOrbitsUptoCardSaid : Prop := Claim7.holds Tryz.pinned (.plain (OpenSpec.upto hexagramOrbitsSpec)) hexagramOrbitsUptoCard

/-- THE SECOND FORM's CARD OF 'astragallaw04.HexagramOrders'. -/
def hexagramOrdersUptoCard : Claim7 := { stood := { row := hexagramOrdersUptoRow, standIns := [], harness := (true, "a97849228c63c4b4fb6c52a457cad5ea422bed06d53aac0859c35ef0ab536dc4"), looks := false }, kinds := [], alts := [], laidByText := true, laidKinds := [.data, .data, .data, .data, .pinned], laidTests := true, laidLooks := .later }
def HexagramOrdersUptoCardSaid : Prop := Claim7.holds Tryz.pinned (.plain (OpenSpec.upto hexagramOrdersSpec)) hexagramOrdersUptoCard

/-- THE SECOND FORM's CARD OF 'astragallaw04.HexagramWeighs'. -/
def hexagramWeighsUptoCard : Claim7 := { stood := { row := hexagramWeighsUptoRow, standIns := [], harness := (true, "a97849228c63c4b4fb6c52a457cad5ea422bed06d53aac0859c35ef0ab536dc4"), looks := false }, kinds := [], alts := [], laidByText := true, laidKinds := [.data, .data, .data, .pinned], laidTests := true, laidLooks := .later }
def HexagramWeighsUptoCardSaid : Prop := Claim7.holds Tryz.pinned (.plain (OpenSpec.upto hexagramWeighsSpec)) hexagramWeighsUptoCard

/-- THE SECOND FORM's CARD OF 'astragallaw04.HexagramAsks'. -/
def hexagramAsksUptoCard : Claim7 := { stood := { row := hexagramAsksUptoRow, standIns := [], harness := (true, "a97849228c63c4b4fb6c52a457cad5ea422bed06d53aac0859c35ef0ab536dc4"), looks := false }, kinds := [], alts := [], laidByText := true, laidKinds := [.data, .data, .data, .pinned], laidTests := true, laidLooks := .later }
def HexagramAsksUptoCardSaid : Prop := Claim7.holds Tryz.pinned (.plain (OpenSpec.upto hexagramAsksSpec)) hexagramAsksUptoCard

/-- THE SECOND FORM's CARD OF 'astragallaw04.HexagramGroups'. -/
def hexagramGroupsUptoCard : Claim7 := { stood := { row := hexagramGroupsUptoRow, standIns := [], harness := (true, "a97849228c63c4b4fb6c52a457cad5ea422bed06d53aac0859c35ef0ab536dc4"), looks := false }, kinds := [], alts := [], laidByText := true, laidKinds := [.data, .data, .data, .pinned], laidTests := true, laidLooks := .later }
def HexagramGroupsUptoCardSaid : Prop := Claim7.holds Tryz.pinned (.plain (OpenSpec.upto hexagramGroupsSpec)) hexagramGroupsUptoCard

/-- THE SECOND FORM's CARD OF 'astragallaw04.HexagramPalaces'. -/
def hexagramPalacesUptoCard : Claim7 := { stood := { row := hexagramPalacesUptoRow, standIns := [], harness := (true, "a97849228c63c4b4fb6c52a457cad5ea422bed06d53aac0859c35ef0ab536dc4"), looks := false }, kinds := [], alts := [], laidByText := true, laidKinds := [.data, .data, .data, .data, .pinned], laidTests := true, laidLooks := .later }
def HexagramPalacesUptoCardSaid : Prop := Claim7.holds Tryz.pinned (.plain (OpenSpec.upto hexagramPalacesSpec)) hexagramPalacesUptoCard

/-- THE SECOND FORM's CARD OF 'astragallaw04.HexagramChances'. -/
def hexagramChancesUptoCard : Claim7 := { stood := { row := hexagramChancesUptoRow, standIns := [], harness := (true, "a97849228c63c4b4fb6c52a457cad5ea422bed06d53aac0859c35ef0ab536dc4"), looks := false }, kinds := [], alts := [], laidByText := true, laidKinds := [.data, .data, .data, .pinned], laidTests := true, laidLooks := .later }
def HexagramChancesUptoCardSaid : Prop := Claim7.holds Tryz.pinned (.plain (OpenSpec.upto hexagramChancesSpec)) hexagramChancesUptoCard

/-- THE SECOND FORM's CARD OF 'astragallaw04.HexagramCovers'. -/
def hexagramCoversUptoCard : Claim7 := { stood := { row := hexagramCoversUptoRow, standIns := [], harness := (true, "a97849228c63c4b4fb6c52a457cad5ea422bed06d53aac0859c35ef0ab536dc4"), looks := false }, kinds := [], alts := [], laidByText := true, laidKinds := [.data, .data, .data, .pinned], laidTests := true, laidLooks := .later }
def HexagramCoversUptoCardSaid : Prop := Claim7.holds Tryz.pinned (.plain (OpenSpec.upto hexagramCoversSpec)) hexagramCoversUptoCard
end Rows
end Go.Proofs.YtaibkkcedipdgaaGreatDoor
