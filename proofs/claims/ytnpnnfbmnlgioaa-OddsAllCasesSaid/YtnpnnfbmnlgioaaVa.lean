/-
  What Pick and Map of the reference, and Map of package odds, return, for every list and number.
-/
import Derived.Test.YtnpnnfbmnlgioaaJ
import Derived.Test.YtnpnnfbmnlgioaaV
namespace Go.Proofs.Ytnpnnfbmnlgioaa
open Go.RowKit

theorem pickAt_some {xs : List Int} {v : Int} {k : Nat} (hk : k < xs.length) (h : v < psum xs (k + 1)) (h1 : ∀ i, i < k → psum xs (i + 1) ≤ v) : pickAt xs v = some k := by
  unfold pickAt
  rw [List.find?_range_eq_some]
  exact ⟨by simpa using h, by simpa using hk, fun j hj => by have := h1 j hj; simp; omega⟩
theorem pickAt_none {xs : List Int} {v : Int} (h1 : ∀ i, i < xs.length → psum xs (i + 1) ≤ v) : pickAt xs v = none := by
  unfold pickAt
  rw [List.find?_eq_none]
  intro k hk
  have := h1 k (by simpa using hk)
  simp; omega
theorem sPick_neg {xs : List Int} {v : Int} (h0 : chk1 xs = 0) (hv : v < 0) : sPick xs v = (0, 3) := by
  unfold sPick; rw [if_neg (by simpa using h0), if_pos hv]
theorem sPick_over {xs : List Int} {v : Int} (h0 : chk1 xs = 0) (hv : lsum xs ≤ v) : sPick xs v = (0, 3) := by
  obtain ⟨a1, a2, a3, a4⟩ := chk1_ok h0
  have hn := pickAt_none (xs := xs) (v := v) (fun i hi => by have := psum_le a2.pos (show i + 1 ≤ xs.length by omega); omega)
  unfold sPick; rw [if_neg (by simpa using h0), if_neg (by omega), hn]
theorem sPick_at {xs : List Int} {v : Int} {k : Nat} (h0 : chk1 xs = 0) (hv : 0 ≤ v) (hk : k < xs.length) (h : v < psum xs (k + 1)) (h1 : ∀ i, i < k → psum xs (i + 1) ≤ v) : sPick xs v = ((k : Int), 0) := by
  unfold sPick; rw [if_neg (by simpa using h0), if_neg (by omega), pickAt_some hk h h1]

end Go.Proofs.Ytnpnnfbmnlgioaa
