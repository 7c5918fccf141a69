/-
  What Apart of the reference returns: for any two lists.
-/
import Derived.Test.YtnpnnfbmnlgioaaVi
import Derived.Test.YtnpnnfbmnlgioaaVj
namespace Go.Proofs.Ytnpnnfbmnlgioaa
open Go.RowKit

theorem chkL2_first {a b : List Int} (h : chk1 a ≠ 0) : chkL [a, b] = chk1 a := by simp [chkL, h]
theorem chkL2_second {a b : List Int} (h0 : chk1 a = 0) (h : chk1 b ≠ 0) : chkL [a, b] = chk1 b := by simp [chkL, h0, h]
theorem chkL2_ok {a b : List Int} (h0 : chk1 a = 0) (h : chk1 b = 0) : chkL [a, b] = 0 := by simp [chkL, h0, h]

end Go.Proofs.Ytnpnnfbmnlgioaa
