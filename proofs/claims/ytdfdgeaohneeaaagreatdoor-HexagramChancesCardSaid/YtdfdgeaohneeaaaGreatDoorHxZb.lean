/-
  Plain facts for HexagramChances: what is added up of weights in lowest terms, and the chances that come of it; like weights of lines; lines of each kind.
-/
import Derived.Test.YtdfdgeaohneeaaaGreatDoorHxZa
namespace Go.Proofs.YtdfdgeaohneeaaaGreatDoor
open Go Go.RowKit
set_option linter.unusedVariables false

theorem nth_map2 {xs : List Int} {f : Int → Int} {k : Nat} (h : k < xs.length) : nth (xs.map f) k = f (nth xs k) := by
  rw [nth_eq (by simpa using h), nth_eq h]; simp
theorem low_len2 (xs : List Int) : (low xs).length = xs.length := by simp [low]
theorem nth_low {xs : List Int} {i : Nat} (hi : i < xs.length) : gcdl xs * nth (low xs) i = nth xs i := by
  unfold low; rw [nth_map2 hi]; exact Int.mul_ediv_cancel' (gcdl_dvd hi)
theorem dvd_gcdTo {xs : List Int} {d : Int} (h : ∀ i, i < xs.length → d ∣ nth xs i) {k : Nat} (hk : k ≤ xs.length) : d ∣ gcdTo xs k := by
  induction k with
  | zero => rw [gcdTo_zero]; exact Int.dvd_zero d
  | succ k ih => rw [gcdTo_succ (by omega)]; exact Int.dvd_coe_gcd (ih (by omega)) (h k (by omega))
theorem dvd_gcdl {xs : List Int} {d : Int} (h : ∀ i, i < xs.length → d ∣ nth xs i) : d ∣ gcdl xs := by rw [← gcdTo_all]; exact dvd_gcdTo h (Nat.le_refl _)
theorem low_pos {xs : List Int} (hg : 1 ≤ gcdl xs) (h : ∀ k, 0 ≤ nth xs k) (k : Nat) : 0 ≤ nth (low xs) k ∧ nth (low xs) k ≤ nth xs k := by
  by_cases hk : k < xs.length
  · unfold low
    rw [nth_map2 hk]
    exact ⟨Int.ediv_nonneg (h k) (by omega), Int.ediv_le_self _ (h k)⟩
  · rw [nth_out (by rw [low_len2]; exact hk), nth_out hk]; omega
theorem lsum_low2 (xs : List Int) : gcdl xs * lsum (low xs) = lsum xs := by
  have key : ∀ k, k ≤ xs.length → gcdl xs * psum (low xs) k = psum xs k := fun k => by
    induction k with
    | zero => intro _; rw [psum_zero, psum_zero, Int.mul_zero]
    | succ k ih =>
      intro hk
      rw [psum_succ (by rw [low_len2]; omega), psum_succ (by omega), Int.mul_add, ih (by omega), nth_low (by omega)]
  have := key xs.length (Nat.le_refl _)
  rw [psum_all] at this
  rw [← this, ← psum_all (low xs), low_len2]

/-- Chances of places by lists in lowest terms: L is what P adds up to, place by place; B is P in lowest terms, S what B adds up to. -/
structure Fold (P L S : List Int) (all : Int) : Prop where
  len : S.length = L.length
  gp : 1 ≤ gcdl P
  gl : 1 ≤ gcdl L
  pos : ∀ k, 0 ≤ nth L k
  scale : ∀ k, k < L.length → gcdl P * nth S k = nth L k
  sum : lsum L = lsum P
  all_ : all = lsum (low P)
/-- Both lists tell the same chances. -/
theorem Fold.alike {P L S : List Int} {all : Int} (h : Fold P L S all) (h1 : 1 ≤ lsum L) : ∃ q, 1 ≤ q ∧ all = lsum (low L) * q ∧ 1 ≤ lsum (low L) ∧ lsum (low L) ≤ lsum L ∧ ∀ k, k < L.length → nth S k = nth (low L) k * q := by
  have hg := h.gp
  have hd : gcdl P ∣ gcdl L := dvd_gcdl fun i hi => ⟨nth S i, (h.scale i hi).symm⟩
  obtain ⟨q, hq⟩ := hd
  have hl := h.gl
  have hq1 : 1 ≤ q := by
    by_cases hq0 : q ≤ 0
    · have := Int.mul_nonpos_of_nonneg_of_nonpos (show 0 ≤ gcdl P by omega) hq0
      omega
    · omega
  have e1 := lsum_low2 L
  have e2 := lsum_low2 P
  rw [h.sum, ← e2, hq, Int.mul_assoc, Int.mul_comm q] at e1
  have e3 : lsum (low L) * q = lsum (low P) := Int.eq_of_mul_eq_mul_left (show gcdl P ≠ 0 by omega) e1
  have e4 := lsum_low2 L
  have hp : 1 ≤ lsum (low L) := by
    by_cases h0 : lsum (low L) ≤ 0
    · have := Int.mul_nonpos_of_nonneg_of_nonpos (show 0 ≤ gcdl L by omega) h0
      omega
    · omega
  refine ⟨q, hq1, by rw [h.all_, e3], hp, ?_, fun k hk => ?_⟩
  · have : 1 * lsum (low L) ≤ gcdl L * lsum (low L) := Int.mul_le_mul_of_nonneg_right hl (by omega)
    omega
  · have s1 := h.scale k hk
    have s2 := nth_low hk
    rw [← s2, hq, Int.mul_assoc, Int.mul_comm q] at s1
    exact Int.eq_of_mul_eq_mul_left (show gcdl P ≠ 0 by omega) s1
theorem low_ones {L : List Int} {v : Int} (hv : 1 ≤ v) (h0 : 0 < L.length) (h : ∀ k, k < L.length → nth L k = v) : ∀ k, k < L.length → nth (low L) k = 1 := fun k hk => by
  have hd : v ∣ gcdl L := dvd_gcdl fun i hi => by rw [h i hi]; exact Int.dvd_refl v
  have hg := gcdl_dvd (xs := L) h0
  rw [h 0 h0] at hg
  have h1 := gcdl_pos h0 (by rw [h 0 h0]; omega)
  have e : gcdl L = v := by
    have a := Int.le_of_dvd (by omega) hd
    have b := Int.le_of_dvd (by omega) hg
    omega
  have := nth_low hk
  rw [h k hk, e] at this
  exact Int.eq_of_mul_eq_mul_left (show v ≠ 0 by omega) (by rw [this, Int.mul_one])

theorem bit_at {x i : Nat} (hx : x < 64) (hi : i < 6) : bitB (x : Nat) (i : Nat) = decide (x / 2 ^ i % 2 = 1) := bit_nat ⟨x, hx⟩ ⟨i, hi⟩
/-- The weights of one first hexagram. -/
theorem sum_seconds {W : List Int} (h6 : nth W 9 = nth W 6) (h7 : nth W 8 = nth W 7) (x : Int) (k : Nat) (hk : k ≤ 6) : sumN (fun y => weightTo W x (y : Nat) k) (2 ^ k) = powI (nth W 6 + nth W 7) k := by
  induction k with
  | zero => simp [sumN, weightTo, powI]
  | succ k ih =>
    have lowb : ∀ y d : Nat, y < 2 ^ k → d < 2 → ∀ j, j < k → bitB ((2 ^ k * d + y : Nat) : Int) (j : Nat) = bitB ((y : Nat) : Int) (j : Nat) := fun y d hy hd j hj => by
      have hp : 2 ^ k ≤ 32 := Nat.pow_le_pow_right (n := 2) (by omega) (show k ≤ 5 by omega)
      have hd2 : 2 ^ k * d ≤ 2 ^ k := by
        have : d = 0 ∨ d = 1 := by omega
        rcases this with rfl | rfl <;> omega
      rw [bit_at (by omega) (by omega), bit_at (by omega) (by omega)]
      have e : (2 ^ k * d + y) / 2 ^ j % 2 = y / 2 ^ j % 2 := by
        obtain ⟨e, rfl⟩ : ∃ e, k = j + 1 + e := ⟨k - j - 1, by omega⟩
        rw [show 2 ^ (j + 1 + e) * d + y = y + 2 ^ j * (2 * (2 ^ e * d)) by
          rw [Nat.add_comm, Nat.pow_add, Nat.pow_succ]; congr 1; simp [Nat.mul_assoc, Nat.mul_comm, Nat.mul_left_comm], Nat.add_mul_div_left _ _ (Nat.pow_pos (by omega)), Nat.add_mul_mod_self_left]
      rw [e]
    have hib : ∀ y d : Nat, y < 2 ^ k → d < 2 → bitB ((2 ^ k * d + y : Nat) : Int) (k : Nat) = decide (d = 1) := fun y d hy hd => by
      have hp : 2 ^ k ≤ 32 := Nat.pow_le_pow_right (n := 2) (by omega) (show k ≤ 5 by omega)
      have hd2 : 2 ^ k * d ≤ 2 ^ k := by
        have : d = 0 ∨ d = 1 := by omega
        rcases this with rfl | rfl <;> omega
      rw [bit_at (by omega) (by omega)]
      have e : (2 ^ k * d + y) / 2 ^ k % 2 = d % 2 := by
        rw [Nat.add_comm, Nat.add_mul_div_left _ _ (Nat.pow_pos (by omega)), Nat.div_eq_of_lt hy, Nat.zero_add]
      rw [e]
      have : d = 0 ∨ d = 1 := by omega
      rcases this with rfl | rfl <;> simp
    have same : ∀ y d : Nat, y < 2 ^ k → d < 2 → ∀ j, j ≤ k → weightTo W x ((2 ^ k * d + y : Nat) : Int) j = weightTo W x ((y : Nat) : Int) j := fun y d hy hd j => by
      induction j with
      | zero => intro _; rfl
      | succ j ihj =>
        intro hj
        unfold weightTo
        rw [ihj (by omega)]
        unfold castV
        rw [lowb y d hy hd j (by omega)]
    have blk : ∀ d : Nat, d < 2 → sumN (fun y => weightTo W x ((2 ^ k * d + y : Nat) : Int) (k + 1)) (2 ^ k) = powI (nth W 6 + nth W 7) k * nth W (castV x (if d = 1 then ((2 ^ k : Nat) : Int) else 0) (k : Nat)).toNat := fun d hd => by
      rw [← ih (by omega), ← sumN_mul]
      refine sumN_congr fun y hy => ?_
      show weightTo W x ((2 ^ k * d + y : Nat) : Int) k * nth W (castV x ((2 ^ k * d + y : Nat) : Int) (k : Nat)).toNat = _
      rw [same y d hy hd k (Nat.le_refl _)]
      congr 2
      unfold castV
      rw [hib y d hy hd]
      have z0 := hib 0 0 (Nat.pow_pos (by omega)) (by omega)
      have z1 := hib 0 1 (Nat.pow_pos (by omega)) (by omega)
      simp only [Nat.mul_zero, Nat.mul_one, Nat.add_zero] at z0 z1
      have : d = 0 ∨ d = 1 := by omega
      rcases this with rfl | rfl
      · rw [if_neg (show ¬ (0 : Nat) = 1 by omega)]
        have z0' : bitB 0 (k : Nat) = decide ((0 : Nat) = 1) := z0
        rw [z0']
      · rw [if_pos rfl, z1]; simp
    have b0 := blk 0 (by omega)
    have b1 := blk 1 (by omega)
    rw [if_neg (show ¬ (0 : Nat) = 1 by omega)] at b0
    rw [if_pos rfl] at b1
    simp only [Nat.mul_zero, Nat.zero_add, Nat.mul_one] at b0 b1
    rw [show 2 ^ (k + 1) = 2 ^ k + 2 ^ k by rw [Nat.pow_succ]; omega, sumN_add, b0, b1]
    show _ = powI (nth W 6 + nth W 7) k * (nth W 6 + nth W 7)
    have z0 := hib 0 0 (Nat.pow_pos (by omega)) (by omega)
    have z1 := hib 0 1 (Nat.pow_pos (by omega)) (by omega)
    simp only [Nat.mul_zero, Nat.mul_one, Nat.add_zero] at z0 z1
    have z0' : bitB 0 (k : Nat) = false := z0
    rw [← Int.mul_add]
    congr 1
    unfold castV
    rw [z0', z1]
    cases bitB x (k : Nat)
    · first | (simp [h7]; done) | (simp [h7]; omega)
    · first | (simp [h6]; done) | (simp [h6]; omega)
end Go.Proofs.YtdfdgeaohneeaaaGreatDoor
