/-
  DERIVED. GIVEN WITH THE SEED: THE CARDS: each row of YtojlopfjhhiilaaGreatDoorRows.lean that lists a variable, with what it lists TIED to the program's text (the seventh form; the later family's looks); each row that meets fmt, with fmt's text TOLD by the authors' own Lean function (tested against real Go, not proved from fmt's source: count such statements apart). THE CARD IS WHAT COUNTS. Prove the row's statement (the work); the ties are given (YtojlopfjhhiilaaGreatDoorTie.lean); close each card by the builder's one call (the guide's Derived/Test/ToyasCard.lean, 'card_holds'). Laid BY PROGRAM, IN A SANDBOX (cutbox-door.mjs). By AI agents, Wed Nov 11 2026. No macro, syntax, notation, axiom, sorry.
-/
import Derived.Test.YtojlopfjhhiilaaGreatDoorRows
import GoSem.ClaimSeven
namespace Go.Proofs.YtojlopfjhhiilaaGreatDoor
namespace Rows

/-- THE TIED CARD OF 'astragallaw04.HexagramOrbits'. -/
def hexagramOrbitsCard : Claim7 := { stood := { row := hexagramOrbitsRow, standIns := [], harness := (true, "63ca343dc9ed51c5e283856f37e6a5fba387c1499ee3e3f2be2cc83f86486acb"), looks := false }, kinds := [], alts := [], laidByText := true, laidKinds := [.data, .data, .data, .pinned], laidTests := true, laidLooks := .later }
def HexagramOrbitsCardSaid : Prop := Claim7.holds Tryz.pinned (.plain (OpenSpec.ofChange hexagramOrbitsSpec)) hexagramOrbitsCard

/-- THE TIED CARD OF 'astragallaw04.HexagramGroups'. -/
def hexagramGroupsCard : Claim7 := { stood := { row := hexagramGroupsRow, standIns := [], harness := (true, "63ca343dc9ed51c5e283856f37e6a5fba387c1499ee3e3f2be2cc83f86486acb"), looks := false }, kinds := [], alts := [], laidByText := true, laidKinds := [.data, .data, .data, .pinned], laidTests := true, laidLooks := .later }
def HexagramGroupsCardSaid : Prop := Claim7.holds Tryz.pinned (.plain (OpenSpec.ofChange hexagramGroupsSpec)) hexagramGroupsCard

/-- THE SECOND FORM's CARD OF 'astragallaw04.HexagramOrbits'. -/
def hexagramOrbitsUptoCard : Claim7 := { stood := { row := hexagramOrbitsUptoRow, standIns := [], harness := (true, "63ca343dc9ed51c5e283856f37e6a5fba387c1499ee3e3f2be2cc83f86486acb"), looks := false }, kinds := [], alts := [], laidByText := true, laidKinds := [.data, .data, .data, .pinned], laidTests := true, laidLooks := .later }
def HexagramOrbitsUptoCardSaid : Prop := Claim7.holds Tryz.pinned (.plain (OpenSpec.upto hexagramOrbitsSpec)) hexagramOrbitsUptoCard

/-- THE SECOND FORM's CARD OF 'astragallaw04.HexagramGroups'. -/
def hexagramGroupsUptoCard : Claim7 := { stood := { row := hexagramGroupsUptoRow, standIns := [], harness := (true, "63ca343dc9ed51c5e283856f37e6a5fba387c1499ee3e3f2be2cc83f86486acb"), looks := false }, kinds := [], alts := [], laidByText := true, laidKinds := [.data, .data, .data, .pinned], laidTests := true, laidLooks := .later }
def HexagramGroupsUptoCardSaid : Prop := Claim7.holds Tryz.pinned (.plain (OpenSpec.upto hexagramGroupsSpec)) hexagramGroupsUptoCard
end Rows
end Go.Proofs.YtojlopfjhhiilaaGreatDoor
