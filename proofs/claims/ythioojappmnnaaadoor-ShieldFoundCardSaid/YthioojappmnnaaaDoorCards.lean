/-
  DERIVED. GIVEN WITH THE SEED: THE CARDS: each row of YthioojappmnnaaaDoorRows.lean that lists a variable, with what it lists TIED to the program's text (the seventh form; the later family's looks); each row that meets fmt, with fmt's text TOLD by the authors' own Lean function (tested against real Go, not proved from fmt's source: count such statements apart). THE CARD IS WHAT COUNTS. Prove the row's statement (the work); the ties are given (YthioojappmnnaaaDoorTie.lean); close each card by the builder's one call (the guide's Derived/Test/ToyasCard.lean, 'card_holds'). Laid BY PROGRAM, IN A SANDBOX (cutbox-door.mjs). By AI agents, Wed Nov 11 2026. No macro, syntax, notation, axiom, sorry.
-/
import Derived.Test.YthioojappmnnaaaDoorRows
import GoSem.ClaimSeven
namespace Go.Proofs.YthioojappmnnaaaDoor
namespace Rows

/-- THE TIED CARD OF 'astragallaw03.ShieldFound'. -/
def shieldFoundCard : Claim7 := { stood := { row := shieldFoundRow, standIns := [], harness := (true, "32ea9699112471f2c439df9cc150b2ff208a453039e8c73d0d69f5ebbae6367d"), looks := false }, kinds := [], alts := [], laidByText := true, laidKinds := [.data, .data], laidTests := true, laidLooks := .later }
def ShieldFoundCardSaid : Prop := Claim7.holds Tryd.pinned (.plain (OpenSpec.ofChange shieldFoundSpec)) shieldFoundCard

/-- THE SECOND FORM's CARD OF 'astragallaw03.ShieldFound'. -/
def shieldFoundUptoCard : Claim7 := { stood := { row := shieldFoundUptoRow, standIns := [], harness := (true, "32ea9699112471f2c439df9cc150b2ff208a453039e8c73d0d69f5ebbae6367d"), looks := false }, kinds := [], alts := [], laidByText := true, laidKinds := [.data, .data], laidTests := true, laidLooks := .later }
def ShieldFoundUptoCardSaid : Prop := Claim7.holds Tryd.pinned (.plain (OpenSpec.upto shieldFoundSpec)) shieldFoundUptoCard
end Rows
end Go.Proofs.YthioojappmnnaaaDoor
