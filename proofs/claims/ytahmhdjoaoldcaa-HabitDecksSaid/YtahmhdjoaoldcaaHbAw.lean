/-
  HabitDecks: the helper deck.
-/
import Derived.Test.YtahmhdjoaoldcaaHbAv
import Derived.Handy
namespace Go.Proofs.Ytahmhdjoaoldcaa
open Go Go.RowKit
set_option linter.unusedVariables false
set_option linter.unusedSimpArgs false

set_option maxRecDepth 100000 in
set_option maxHeartbeats 4000000 in
theorem deck_any (A : Int) (p : Option Addr) (n c : Nat) (w : World) :
    Calls Try.prog 16 #[.int .i64 A, .slice p n c] w fun e w' => (∃ pr, e = .returned (.agg #[.int .i64 3, .slice (some ⟨pr, 0, none⟩) 1 1, .int .i64 A]) ∧ w'.cell? ⟨pr, 0, none⟩ = some (.slice p n c) ∧ pr < w'.heap.size) ∧ Below w.heap.size w w' := by
  go_enter Try.func16, Try.ntmps16
  go_wp2
  go_returns
  refine ⟨⟨w.heap.size + 1, rfl, by go_simp, by simp⟩, ?_⟩
  go_grown
end Go.Proofs.Ytahmhdjoaoldcaa
