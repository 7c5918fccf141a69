/-
  The document's examples of chapter 9: known returns true, in whatever world.
-/
import Derived.Test.YtahmhdjoaoldcaaRows
import Derived.Test.YtahmhdjoaoldcaaEvE
import Derived.ProofKit
import Derived.Laws.AppendOwnNone
import Derived.Below
namespace Go.Proofs.Ytahmhdjoaoldcaa
open Go Go.RowKit
set_option linter.unusedVariables false

theorem follows_mixed : Try.prog.follows .mixedOrders = true := by kernel_rfl
theorem known_run : Ev.isTrue (Ev.lstartT Try.prog 0 [] 30000 5 []) = true := by kernel_rfl
theorem known_any (w : World) : Calls Try.prog 5 #[] w (fun e w' => e = .returned (.bool true) ∧ Below w.heap.size w w') :=
  (Ev.call_runsT follows_mixed known_run (by decide) (Nat.zero_le _) (fun t ht => by simp at ht)).mono fun e w' h => ⟨h.1, ⟨h.2.1.1, h.2.1.2.1, h.2.1.2.2, h.2.2.1, h.2.2.2⟩⟩
end Go.Proofs.Ytahmhdjoaoldcaa
