/-
  Package shield: marks of figures, figures of marks, figures of names.
-/
import Derived.Test.YtjhjgkocoghgfaaDoorShK
import Derived.Test.YtjhjgkocoghgfaaDoorShM
namespace Go.Proofs.YtjhjgkocoghgfaaDoor
open Go Go.RowKit
set_option linter.unusedVariables false

/-- The marks of a line. -/
def markF (f : Int) (k : Nat) : Int := if bitB f k = true then 1 else 2
def markTo (f : Int) (k : Nat) : List Int := (List.range 4).map fun j => if j < k then markF f j else 0
theorem markTo_len (f : Int) (k : Nat) : (markTo f k).length = 4 := by simp [markTo]
theorem markTo_succ (f : Int) {k : Nat} (hk : k < 4) : (markTo f k).set k (markF f k) = markTo f (k + 1) := by
  have e : k = 0 ∨ k = 1 ∨ k = 2 ∨ k = 3 := by omega
  rcases e with rfl | rfl | rfl | rfl <;> rfl
theorem markTo_set2 (f v : Int) {k : Nat} (hk : k < 4) : ((markTo f k).set k v).set k (markF f k) = markTo f (k + 1) := by rw [List.set_set, markTo_succ f hk]
/-- What Marks returns. -/
def marksV (f : Int) : List Int := if chkF [f] = 0 then markTo f 4 else [0, 0, 0, 0]
theorem marksV_len (f : Int) : (marksV f).length = 4 := by unfold marksV; split; exact markTo_len f 4; rfl
theorem info_marks : (Tryd.prog.info? 98).map (·.size) = some 4 := by kernel_rfl

end Go.Proofs.YtjhjgkocoghgfaaDoor
