/-
  Package shield: the number of mothers.
-/
import Derived.Test.YtojlopfjhhiilaaDoorShM
namespace Go.Proofs.YtojlopfjhhiilaaDoor
open Go Go.RowKit
set_option linter.unusedVariables false

theorem join_low (x y : Int) (hx : 0 ≤ x) (hx1 : x < 2 ^ 40) (hy : Fig y) : bits .or .i64 (x * 16) y = x * 16 + y := by
  have := bits_join .i64 62 (by decide) wraps_i64_62 4 (x * 16) y (by omega) (by omega) (by omega) hy.1 (by have := hy.2; omega) (by have := hy.2; omega)
  exact this
/-- The number of mothers. -/
def numL (m : List Int) : Int := ((nth m 0 * 16 + nth m 1) * 16 + nth m 2) * 16 + nth m 3
def numTo (m : List Int) : Nat → Int
  | 0 => 0
  | k + 1 => numTo m k * 16 + nth m k
theorem numTo_bd {m : List Int} (hm : ∀ k, k < 4 → Fig (nth m k)) {k : Nat} (hk : k ≤ 4) : 0 ≤ numTo m k ∧ numTo m k < 65536 ∧ (k ≤ 3 → numTo m k < 4096) := by
  have f0 := hm 0 (by omega); have f1 := hm 1 (by omega); have f2 := hm 2 (by omega); have f3 := hm 3 (by omega)
  obtain ⟨a0, b0⟩ := f0
  obtain ⟨a1, b1⟩ := f1
  obtain ⟨a2, b2⟩ := f2
  obtain ⟨a3, b3⟩ := f3
  have e : k = 0 ∨ k = 1 ∨ k = 2 ∨ k = 3 ∨ k = 4 := by omega
  rcases e with rfl | rfl | rfl | rfl | rfl <;> simp only [numTo] <;> omega
theorem numL_nibs {n : Int} (h0 : 0 ≤ n) (h1 : n ≤ 65535) : numL (nibs n) = n := by
  show ((n / 4096 % 16 * 16 + n / 256 % 16) * 16 + n / 16 % 16) * 16 + n % 16 = n
  omega

end Go.Proofs.YtojlopfjhhiilaaDoor
