/-
  Plain facts: a number times another one divided by a third one, bit by bit of the second one; what the reference makes of chances is what the program makes.
-/
import Derived.Test.YtnpnnfbmnlgioaaLib
namespace Go.Proofs.Ytnpnnfbmnlgioaa
open Go.RowKit
set_option linter.unusedVariables false

/-- The k lowest binary digits of b, the greatest first. -/
def bitsL (b : Nat) : Nat → List Int
  | 0 => []
  | k + 1 => ((b / 2 ^ k % 2 : Nat) : Int) :: bitsL b k
theorem bitsL_length (b k : Nat) : (bitsL b k).length = k := by
  induction k with
  | zero => rfl
  | succ k ih => simp [bitsL, ih]
theorem bitsL_nth (b : Nat) {k j : Nat} (h : j < k) : nth (bitsL b k) j = ((b / 2 ^ (k - 1 - j) % 2 : Nat) : Int) := by
  induction k generalizing j with
  | zero => omega
  | succ k ih =>
    rcases j with _ | j
    · simp [bitsL, nth]
    · have := ih (j := j) (by omega)
      have e : k + 1 - 1 - (j + 1) = k - 1 - j := by omega
      rw [e, ← this]
      simp [bitsL, nth]
/-- What is left of b after i digits of k. -/
def headN (b k i : Nat) : Int := ((b / 2 ^ (k - i) : Nat) : Int)
theorem headN_zero {b k : Nat} (h : b / 2 ^ k = 0) : headN b k 0 = 0 := by simp [headN, h]
theorem headN_all (b k : Nat) : headN b k k = b := by simp [headN]
theorem headN_succ (b : Nat) {k i : Nat} (h : i < k) : headN b k (i + 1) = 2 * headN b k i + nth (bitsL b k) i := by
  rw [bitsL_nth b h]
  unfold headN
  have e : k - i = (k - (i + 1)) + 1 := by omega
  have e2 : k - 1 - i = k - (i + 1) := by omega
  rw [e2, e, Nat.pow_succ, ← Nat.div_div_eq_div_mul]
  omega
theorem headN_le (b k i : Nat) : 0 ≤ headN b k i ∧ headN b k i ≤ b := by
  unfold headN
  exact ⟨Int.natCast_nonneg _, Int.ofNat_le.2 (Nat.div_le_self _ _)⟩
theorem bit_01 (b : Nat) {k i : Nat} (h : i < k) : nth (bitsL b k) i = 0 ∨ nth (bitsL b k) i = 1 := by
  rw [bitsL_nth b h]; omega

/-- One digit more. -/
theorem digit_0 {a c W R v : Int} (h : W * c + R = a * v) : 2 * W * c + 2 * R = a * (2 * v + 0) := by
  rw [Int.add_zero, Int.mul_assoc, ← Int.mul_add, h, ← Int.mul_assoc, ← Int.mul_assoc, Int.mul_comm a 2]
theorem digit_1 {a c W R v : Int} (h : W * c + R = a * v) : (2 * W + a / c) * c + (2 * R + a % c) = a * (2 * v + 1) := by
  have h1 : a / c * c + a % c = a := by rw [Int.mul_comm]; exact Int.mul_ediv_add_emod a c
  have h2 := digit_0 h
  rw [Int.add_zero] at h2
  rw [Int.add_mul, Int.mul_add, Int.mul_one, ← h2]
  omega
theorem take_1 {c W R N : Int} (h : W * c + R = N) : (W + 1) * c + (R - c) = N := by rw [Int.add_mul, Int.one_mul]; omega
theorem quo_le {c W R N M : Int} (hc : 1 ≤ c) (h : W * c + R = N) (hR : 0 ≤ R) (hN : N ≤ M * c) : W ≤ M := by
  refine Int.le_of_mul_le_mul_right (show W * c ≤ M * c by omega) (by omega)
theorem quo_is {c W R N : Int} (hc : 1 ≤ c) (h : W * c + R = N) (hR : 0 ≤ R) (hR2 : R < c) : N / c = W ∧ N % c = R := by
  have e : N = R + W * c := by omega
  rw [e, Int.add_mul_ediv_right _ _ (by omega), Int.add_mul_emod_self_right, Int.ediv_eq_zero_of_lt hR hR2, Int.emod_eq_of_lt hR hR2]
  omega
theorem quo_mono {a b v c M : Int} (ha : 0 ≤ a) (hv : v ≤ b) (h : a * b ≤ M * c) : a * v ≤ M * c := Int.le_trans (Int.mul_le_mul_of_nonneg_left hv ha) h

/-- What Compare of the reference asks. -/
theorem cmp_by_parts {an ad bn bd n r : Int} (hbd : 1 ≤ bd) (hn : n = bn * ad / bd) (hr : r = bn * ad % bd) :
    (an < n ∨ (an = n ∧ 0 < r) ↔ an * bd < bn * ad) ∧ (n < an ↔ bn * ad < an * bd) := by
  have h1 : bd * n + r = bn * ad := by rw [hn, hr]; exact Int.mul_ediv_add_emod _ _
  have h2 : 0 ≤ r := by rw [hr]; exact Int.emod_nonneg _ (by omega)
  have h3 : r < bd := by rw [hr]; exact Int.emod_lt_of_pos _ (by omega)
  rw [← h1, Int.mul_comm an bd]
  clear h1 hn hr
  constructor
  · constructor
    · rintro (h | ⟨rfl, h⟩)
      · have : bd * (an + 1) ≤ bd * n := Int.mul_le_mul_of_nonneg_left (by omega) (by omega)
        rw [Int.mul_add] at this
        omega
      · omega
    · intro h
      by_cases h5 : an < n
      · exact .inl h5
      · have : bd * n ≤ bd * an := Int.mul_le_mul_of_nonneg_left (by omega) (by omega)
        by_cases h6 : an = n
        · subst h6; exact .inr ⟨rfl, by omega⟩
        · have : bd * (n + 1) ≤ bd * an := Int.mul_le_mul_of_nonneg_left (by omega) (by omega)
          rw [Int.mul_add] at this
          omega
  · constructor
    · intro h
      have : bd * (n + 1) ≤ bd * an := Int.mul_le_mul_of_nonneg_left (by omega) (by omega)
      rw [Int.mul_add] at this
      omega
    · intro h
      by_cases h5 : n < an
      · exact h5
      · have : bd * an ≤ bd * n := Int.mul_le_mul_of_nonneg_left (by omega) (by omega)
        omega

/-- A sum of quotients, rounded down, and what is left of both. -/
theorem sum_quo {x y d : Int} (hd : 1 ≤ d) (h : d ∣ x + y) : (x + y) / d = x / d + y / d + (if 0 < x % d ∨ 0 < y % d then 1 else 0) := by
  have hx := Int.mul_ediv_add_emod x d
  have hy := Int.mul_ediv_add_emod y d
  have x0 := Int.emod_nonneg x (show d ≠ 0 by omega)
  have y0 := Int.emod_nonneg y (show d ≠ 0 by omega)
  have x1 := Int.emod_lt_of_pos x (show 0 < d by omega)
  have y1 := Int.emod_lt_of_pos y (show 0 < d by omega)
  obtain ⟨z, hz⟩ := h
  rw [hz, Int.mul_ediv_cancel_left _ (show d ≠ 0 by omega)]
  generalize x / d = X at *
  generalize y / d = Y at *
  generalize x % d = r at *
  generalize y % d = s at *
  have e : d * (z - X - Y) = r + s := by rw [Int.mul_sub, Int.mul_sub]; omega
  obtain ⟨t, ht⟩ : ∃ t, z - X - Y = t := ⟨_, rfl⟩
  rw [ht] at e
  have t0 : 0 ≤ t := by
    by_cases h : 0 ≤ t
    · exact h
    · have : d * t ≤ d * (-1) := Int.mul_le_mul_of_nonneg_left (by omega) (by omega)
      omega
  have t2 : t < 2 := by
    by_cases h : t < 2
    · exact h
    · have : d * 2 ≤ d * t := Int.mul_le_mul_of_nonneg_left (by omega) (by omega)
      omega
  have t3 : t = 0 ∨ t = 1 := by omega
  rcases t3 with rfl | rfl
  · rw [if_neg (by omega)]; omega
  · rw [if_pos (by omega)]; omega

theorem cut_quo {x k d : Int} (hk : 1 ≤ k) : x * k / (d * k) = x / d ∧ x * k % (d * k) = x % d * k := by
  refine ⟨Int.mul_ediv_mul_of_pos_left x d (by omega), ?_⟩
  rw [Int.mul_comm x k, Int.mul_comm d k, Int.mul_emod_mul_of_pos x d (by omega), Int.mul_comm]
/-- Whether a fraction is no valid chance. -/
def badC (n d : Int) : Bool := outB 1 1000000000000000 d || outB 0 d n || decide (1 < (Int.gcd n d : Int))

theorem badC_ok {n d : Int} (h : badC n d = false) : 1 ≤ d ∧ d ≤ 1000000000000000 ∧ 0 ≤ n ∧ n ≤ d ∧ (Int.gcd n d : Int) ≤ 1 := by
  simp [badC, outB] at h
  omega

/-- What a cell holds, behind whatever leaves it alone. -/
theorem cell_tr {w w' : World} (hb : Below w.heap.size w w') {a : Addr} {v : Value} (h : w.cell? a = some v) : w'.cell? a = some v := (hb.cell (World.block_lt_of_cell? w _ h)).trans h
/-- A word is free, behind whatever leaves it alone. -/
theorem free_tr {w w' : World} (hb : Below w.heap.size w w') {a : Addr} {v : Value} (h : w.cell? a = some v) (hf : w.frozen? a = false) : w'.frozen? a = false := (hb.frozen (World.block_lt_of_cell? w _ h)).trans hf

end Go.Proofs.Ytnpnnfbmnlgioaa
