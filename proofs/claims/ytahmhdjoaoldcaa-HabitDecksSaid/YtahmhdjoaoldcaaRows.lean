/-
  No cell of these rows narrows 'for every input' (looked for: loops, veiled, ifaces, maps, wideKeys, modest, calm, conditions, laid).
  DERIVED. THE GIVEN ROWS OF THIS SEAT. 2 by the template 'for every input the law returns true; each argument reads behind the call as it read before'; 0 by the template 'total and deterministic' (their statements: YtahmhdjoaoldcaaTotals.lean).
  GIVEN WITH THE SEED: the statements are not yours to turn. If you find one false, say at which input.
  Laid BY PROGRAM, IN A SANDBOX (cutbox-rows.mjs): the forced cells as the released guide's own fill.sh prints them over the translation 6276da24cc06fc51… (all of the seat's roots in one cut). By AI agents, Wed Nov 11 2026. No macro, syntax, notation, axiom, sorry.
-/
import Derived.Test.YtahmhdjoaoldcaaChecked
import GoSem.Claim
import GoSem.ClaimJoined
import GoSem.ClaimMapViews
import Derived.JoinedTies
import Derived.KernelRfl
namespace Go.Proofs.Ytahmhdjoaoldcaa
/- THE CELL 'sum', in the pinned program and in every row, IS THE sha256 OF THE DUMP (.gsa) THAT YtahmhdjoaoldcaaProg.lean LOADS. Nothing in Lean hashes anything: it is a label: what it is worth is what the hold of that sum in a sandbox is worth. -/
noncomputable def Try.pinned : Pinned := { name := "ytahmhdjoaoldcaa", sum := "6276da24cc06fc512a13bd114ebb6ae4f916fb183cd46a72e88ef1204671138c", checked := Try.checked }
namespace Rows
def none {H : Type} : Left H := { results := [], args := [] }

/-- 'astragallaw09.HabitCounts': WHATEVER THE INPUT: true; the input reads as it did. -/
def habitCountsSpec : ChangeSpec := { name := "habitCounts", fn := fun _ => fun
  | [d1, d2, d3] => { results := [.lit (.bool true)], args := [d1, d2, d3] }
  | _ => none }
def habitCountsRow : OpenClaim := { program := "ytahmhdjoaoldcaa", sum := "6276da24cc06fc512a13bd114ebb6ae4f916fb183cd46a72e88ef1204671138c", func := "astragal/astragallaw09.HabitCounts", spec := "habitCounts", inPlace := ["math/bits.Add64"], unfollowed := true, recurses := true, apart := false }
def HabitCountsSaid : Prop := habitCountsRow.holds Try.pinned (OpenSpec.ofChange habitCountsSpec)

/-- ITS FALSE NEIGHBOUR: 'it returns false'. Refute it at one input. -/
def habitCountsWrong : ChangeSpec := { name := "habitCounts", fn := fun _ => fun
  | [d1, d2, d3] => { results := [.lit (.bool false)], args := [d1, d2, d3] }
  | _ => none }
def HabitCountsWrongFalsely : Prop := habitCountsRow.holds Try.pinned (OpenSpec.ofChange habitCountsWrong)

/-- 'astragallaw09.HabitDecks': WHATEVER THE INPUT: true; the input reads as it did. -/
def habitDecksSpec : ChangeSpec := { name := "habitDecks", fn := fun _ => fun
  | [d1, d2, d3] => { results := [.lit (.bool true)], args := [d1, d2, d3] }
  | _ => none }
def habitDecksRow : OpenClaim := { program := "ytahmhdjoaoldcaa", sum := "6276da24cc06fc512a13bd114ebb6ae4f916fb183cd46a72e88ef1204671138c", func := "astragal/astragallaw09.HabitDecks", spec := "habitDecks", inPlace := ["math/bits.Add64"], unfollowed := true, recurses := true, apart := false }
def HabitDecksSaid : Prop := habitDecksRow.holds Try.pinned (OpenSpec.ofChange habitDecksSpec)

/-- ITS FALSE NEIGHBOUR: 'it returns false'. Refute it at one input. -/
def habitDecksWrong : ChangeSpec := { name := "habitDecks", fn := fun _ => fun
  | [d1, d2, d3] => { results := [.lit (.bool false)], args := [d1, d2, d3] }
  | _ => none }
def HabitDecksWrongFalsely : Prop := habitDecksRow.holds Try.pinned (OpenSpec.ofChange habitDecksWrong)

/- THE SECOND FORM. 'bulk': how many values and letters a reading holds, each counted each time it is reached (what is shared counts as often as it is met; a slice's spare places count too). A statement '..UptoSaid' is the law's where the arguments, and the package variables that the reading takes, are together of bulk at most 1048576: NARROWER than '..Said'. Prove '..Said' where nothing that the law and all that it calls make is longer than what came in: it says more and counts as full. Else prove '..UptoSaid'. A law counts once. -/
mutual
def uptoBulk {H : Type} : DataW H → Nat
  | .lit (.string bytes) => bytes.length + 1
  | .lit _ => 1
  | .nil => 1
  | .ptr d => uptoBulk d + 1
  | .slice elems spare => uptoBulkAll elems + uptoBulkAll spare + 1
  | .agg parts => uptoBulkAll parts + 1
  | .iface _ d => uptoBulk d + 1
  | .map entries => uptoBulkEntries entries + 1
  | .held _ => 1
def uptoBulkAll {H : Type} : List (DataW H) → Nat
  | [] => 0
  | d :: r => uptoBulk d + uptoBulkAll r
def uptoBulkEntries {H : Type} : List (Lit × DataW H) → Nat
  | [] => 0
  | x :: r => uptoBulkEntry x + uptoBulkEntries r
def uptoBulkEntry {H : Type} : Lit × DataW H → Nat
  | (.string bytes, d) => bytes.length + uptoBulk d + 1
  | (_, d) => uptoBulk d + 1
 end
def uptoSmall : (H : Type) → List (DataW H) → Bool := fun _ ds => decide (uptoBulkAll ds ≤ 1048576)
def OpenSpec.upto (s : _root_.Go.ChangeSpec) : _root_.Go.OpenSpec := { _root_.Go.OpenSpec.ofChange s with cond := some uptoSmall }

/-- 'astragallaw09.HabitCounts', WHERE WHAT IT READS IS OF BULK AT MOST 1048576: true; the input reads as it did. -/
def habitCountsUptoRow : OpenClaim := { program := "ytahmhdjoaoldcaa", sum := "6276da24cc06fc512a13bd114ebb6ae4f916fb183cd46a72e88ef1204671138c", func := "astragal/astragallaw09.HabitCounts", spec := "habitCounts", inPlace := ["math/bits.Add64"], unfollowed := true, recurses := true, apart := false, narrowed := true }
def HabitCountsUptoSaid : Prop := habitCountsUptoRow.holds Try.pinned (OpenSpec.upto habitCountsSpec)

/-- 'astragallaw09.HabitDecks', WHERE WHAT IT READS IS OF BULK AT MOST 1048576: true; the input reads as it did. -/
def habitDecksUptoRow : OpenClaim := { program := "ytahmhdjoaoldcaa", sum := "6276da24cc06fc512a13bd114ebb6ae4f916fb183cd46a72e88ef1204671138c", func := "astragal/astragallaw09.HabitDecks", spec := "habitDecks", inPlace := ["math/bits.Add64"], unfollowed := true, recurses := true, apart := false, narrowed := true }
def HabitDecksUptoSaid : Prop := habitDecksUptoRow.holds Try.pinned (OpenSpec.upto habitDecksSpec)

end Rows
end Go.Proofs.Ytahmhdjoaoldcaa
