/-
  The reference of chapter 3: charts, copies and ways.
-/
import Derived.Test.YtjhjgkocoghgfaaDoorShRc
import Derived.Test.YtjhjgkocoghgfaaDoorShH
namespace Go.Proofs.YtjhjgkocoghgfaaDoor
open Go Go.RowKit
set_option linter.unusedVariables false

/-- The four figures of a number, as the reference has them. -/
theorem refMothers_any (n : Int) (h0 : 0 ≤ n) (h1 : n ≤ 65535) (w : World) :
    Calls Tryd.prog 32 #[.int .i64 n] w fun e w' => e = .returned (.agg (arr (nibs n))) ∧ Below w.heap.size w w' := by
  have HR := Lib.hid (Blk.new w 41 (arr [0, 0, 0, 0]))
  have e1 : n / 4096 % 16 = n / 4096 := by omega
  have E1 := Lib.hid (show arr (nibs n) = #[.int .i64 (n / 4096), .int .i64 (n / 256 % 16), .int .i64 (n / 16 % 16), .int .i64 (n % 16)] by unfold nibs; rw [e1]; rfl)
  clear e1
  go_enter Tryd.func32, Tryd.ntmps32
  go_wp2
  exact bodyPost_ret (v := .agg (arr (nibs n))) (results_cell_row Tryd.results32 _ _ w.heap.size 41 _ (0, 0) _ rfl (by rw [E1.out]; exact newAt rfl) Tryd.underlying41 rfl (by rw [arr_size]; exact info_moth)) rfl ⟨rfl, (Below.refl _ _).alloc (Nat.le_refl _) _⟩
end Go.Proofs.YtjhjgkocoghgfaaDoor
