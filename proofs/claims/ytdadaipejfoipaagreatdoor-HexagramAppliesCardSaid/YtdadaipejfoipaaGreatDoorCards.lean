/-
  DERIVED. GIVEN WITH THE SEED: THE CARDS: each row of YtdadaipejfoipaaGreatDoorRows.lean that lists a variable, with what it lists TIED to the program's text (the seventh form; the later family's looks); each row that meets fmt, with fmt's text TOLD by the authors' own Lean function (tested against real Go, not proved from fmt's source: count such statements apart). THE CARD IS WHAT COUNTS. Prove the row's statement (the work); the ties are given (YtdadaipejfoipaaGreatDoorTie.lean); close each card by the builder's one call (the guide's Derived/Test/ToyasCard.lean, 'card_holds'). Laid BY PROGRAM, IN A SANDBOX (cutbox-door.mjs). By AI agents, Wed Nov 11 2026. No macro, syntax, notation, axiom, sorry.
-/
import Derived.Test.YtdadaipejfoipaaGreatDoorRows
import GoSem.ClaimSeven
namespace Go.Proofs.YtdadaipejfoipaaGreatDoor
namespace Rows

/-- THE TIED CARD OF 'astragallaw04.HexagramApplies'. -/
def hexagramAppliesCard : Claim7 := { stood := { row := hexagramAppliesRow, standIns := [], harness := (true, "18400529264afaf5cf32d7ae72816eb4c03cc34720cca361b5946c2a5bc6ce6d"), looks := false }, kinds := [], alts := [], laidByText := true, laidKinds := [.data, .data, .data, .pinned], laidTests := true, laidLooks := .later }
def HexagramAppliesCardSaid : Prop := Claim7.holds Tryz.pinned (.plain (OpenSpec.ofChange hexagramAppliesSpec)) hexagramAppliesCard

/-- THE TIED CARD OF 'astragallaw04.HexagramChains'. -/
def hexagramChainsCard : Claim7 := { stood := { row := hexagramChainsRow, standIns := [], harness := (true, "18400529264afaf5cf32d7ae72816eb4c03cc34720cca361b5946c2a5bc6ce6d"), looks := false }, kinds := [], alts := [], laidByText := true, laidKinds := [.data, .data, .data, .data, .pinned], laidTests := true, laidLooks := .later }
def HexagramChainsCardSaid : Prop := Claim7.holds Tryz.pinned (.plain (OpenSpec.ofChange hexagramChainsSpec)) hexagramChainsCard

/-- THE TIED CARD OF 'astragallaw04.HexagramOrbits'. -/
def hexagramOrbitsCard : Claim7 := { stood := { row := hexagramOrbitsRow, standIns := [], harness := (true, "18400529264afaf5cf32d7ae72816eb4c03cc34720cca361b5946c2a5bc6ce6d"), looks := false }, kinds := [], alts := [], laidByText := true, laidKinds := [.data, .data, .data, .pinned], laidTests := true, laidLooks := .later }
def HexagramOrbitsCardSaid : Prop := Claim7.holds Tryz.pinned (.plain (OpenSpec.ofChange hexagramOrbitsSpec)) hexagramOrbitsCard

/-- THE TIED CARD OF 'astragallaw04.HexagramOrders'. -/
def hexagramOrdersCard : Claim7 := { stood := { row := hexagramOrdersRow, standIns := [], harness := (true, "18400529264afaf5cf32d7ae72816eb4c03cc34720cca361b5946c2a5bc6ce6d"), looks := false }, kinds := [], alts := [], laidByText := true, laidKinds := [.data, .data, .data, .data, .pinned], laidTests := true, laidLooks := .later }
def HexagramOrdersCardSaid : Prop := Claim7.holds Tryz.pinned (.plain (OpenSpec.ofChange hexagramOrdersSpec)) hexagramOrdersCard

/-- THE TIED CARD OF 'astragallaw04.HexagramWeighs'. -/
def hexagramWeighsCard : Claim7 := { stood := { row := hexagramWeighsRow, standIns := [], harness := (true, "18400529264afaf5cf32d7ae72816eb4c03cc34720cca361b5946c2a5bc6ce6d"), looks := false }, kinds := [], alts := [], laidByText := true, laidKinds := [.data, .data, .data, .pinned], laidTests := true, laidLooks := .later }
def HexagramWeighsCardSaid : Prop := Claim7.holds Tryz.pinned (.plain (OpenSpec.ofChange hexagramWeighsSpec)) hexagramWeighsCard

/-- THE TIED CARD OF 'astragallaw04.HexagramAsks'. -/
def hexagramAsksCard : Claim7 := { stood := { row := hexagramAsksRow, standIns := [], harness := (true, "18400529264afaf5cf32d7ae72816eb4c03cc34720cca361b5946c2a5bc6ce6d"), looks := false }, kinds := [], alts := [], laidByText := true, laidKinds := [.data, .data, .data, .pinned], laidTests := true, laidLooks := .later }
def HexagramAsksCardSaid : Prop := Claim7.holds Tryz.pinned (.plain (OpenSpec.ofChange hexagramAsksSpec)) hexagramAsksCard

/-- THE TIED CARD OF 'astragallaw04.HexagramGroups'. -/
def hexagramGroupsCard : Claim7 := { stood := { row := hexagramGroupsRow, standIns := [], harness := (true, "18400529264afaf5cf32d7ae72816eb4c03cc34720cca361b5946c2a5bc6ce6d"), looks := false }, kinds := [], alts := [], laidByText := true, laidKinds := [.data, .data, .data, .pinned], laidTests := true, laidLooks := .later }
def HexagramGroupsCardSaid : Prop := Claim7.holds Tryz.pinned (.plain (OpenSpec.ofChange hexagramGroupsSpec)) hexagramGroupsCard

/-- THE SECOND FORM's CARD OF 'astragallaw04.HexagramApplies'. -/
def hexagramAppliesUptoCard : Claim7 := { stood := { row := hexagramAppliesUptoRow, standIns := [], harness := (true, "18400529264afaf5cf32d7ae72816eb4c03cc34720cca361b5946c2a5bc6ce6d"), looks := false }, kinds := [], alts := [], laidByText := true, laidKinds := [.data, .data, .data, .pinned], laidTests := true, laidLooks := .later }
def HexagramAppliesUptoCardSaid : Prop := Claim7.holds Tryz.pinned (.plain (OpenSpec.upto hexagramAppliesSpec)) hexagramAppliesUptoCard

/-- THE SECOND FORM's CARD OF 'astragallaw04.HexagramChains'. -/
def hexagramChainsUptoCard : Claim7 := { stood := { row := hexagramChainsUptoRow, standIns := [], harness := (true, "18400529264afaf5cf32d7ae72816eb4c03cc34720cca361b5946c2a5bc6ce6d"), looks := false }, kinds := [], alts := [], laidByText := true, laidKinds := [.data, .data, .data, .data, .pinned], laidTests := true, laidLooks := .later }
def HexagramChainsUptoCardSaid : Prop := Claim7.holds Tryz.pinned (.plain (OpenSpec.upto hexagramChainsSpec)) hexagramChainsUptoCard

/-- THE SECOND FORM's CARD OF 'astragallaw04.HexagramOrbits'. -/
def hexagramOrbitsUptoCard : Claim7 := { stood := { row := hexagramOrbitsUptoRow, standIns := [], harness := (true, "18400529264afaf5cf32d7ae72816eb4c03cc34720cca361b5946c2a5bc6ce6d"), looks := false }, kinds := [], alts := [], laidByText := true, laidKinds := [.data, .data, .data, .pinned], laidTests := true, laidLooks := .later }
def HexagramOrbitsUptoCardSaid : Prop := Claim7.holds Tryz.pinned (.plain (OpenSpec.upto hexagramOrbitsSpec)) hexagramOrbitsUptoCard

/-- THE SECOND FORM's CARD OF 'astragallaw04.HexagramOrders'. -/
def hexagramOrdersUptoCard : Claim7 := { stood := { row := hexagramOrdersUptoRow, standIns := [], harness := (true, "18400529264afaf5cf32d7ae72816eb4c03cc34720cca361b5946c2a5bc6ce6d"), looks := false }, kinds := [], alts := [], laidByText := true, laidKinds := [.data, .data, .data, .data, .pinned], laidTests := true, laidLooks := .later }
def HexagramOrdersUptoCardSaid : Prop := Claim7.holds Tryz.pinned (.plain (OpenSpec.upto hexagramOrdersSpec)) hexagramOrdersUptoCard

/-- THE SECOND FORM's CARD OF 'astragallaw04.HexagramWeighs'. -/
def hexagramWeighsUptoCard : Claim7 := { stood := { row := hexagramWeighsUptoRow, standIns := [], harness := (true, "18400529264afaf5cf32d7ae72816eb4c03cc34720cca361b5946c2a5bc6ce6d"), looks := false }, kinds := [], alts := [], laidByText := true, laidKinds := [.data, .data, .data, .pinned], laidTests := true, laidLooks := .later }
def HexagramWeighsUptoCardSaid : Prop := Claim7.holds Tryz.pinned (.plain (OpenSpec.upto hexagramWeighsSpec)) hexagramWeighsUptoCard

/-- THE SECOND FORM's CARD OF 'astragallaw04.HexagramAsks'. -/
def hexagramAsksUptoCard : Claim7 := { stood := { row := hexagramAsksUptoRow, standIns := [], harness := (true, "18400529264afaf5cf32d7ae72816eb4c03cc34720cca361b5946c2a5bc6ce6d"), looks := false }, kinds := [], alts := [], laidByText := true, laidKinds := [.data, .data, .data, .pinned], laidTests := true, laidLooks := .later }
def HexagramAsksUptoCardSaid : Prop := Claim7.holds Tryz.pinned (.plain (OpenSpec.upto hexagramAsksSpec)) hexagramAsksUptoCard

/-- THE SECOND FORM's CARD OF 'astragallaw04.HexagramGroups'. -/
def hexagramGroupsUptoCard : Claim7 := { stood := { row := hexagramGroupsUptoRow, standIns := [], harness := (true, "18400529264afaf5cf32d7ae72816eb4c03cc34720cca361b5946c2a5bc6ce6d"), looks := false }, kinds := [], alts := [], laidByText := true, laidKinds := [.data, .data, .data, .pinned], laidTests := true, laidLooks := .later }
def HexagramGroupsUptoCardSaid : Prop := Claim7.holds Tryz.pinned (.plain (OpenSpec.upto hexagramGroupsSpec)) hexagramGroupsUptoCard
end Rows
end Go.Proofs.YtdadaipejfoipaaGreatDoor
