/-
  Plain facts for HexagramChances: the weights of all pairs add up to the sixth power of those of the lines; what is added up of weights in lowest terms.
-/
import Derived.Test.YtdfdgeaohneeaaaGreatDoorHxWu0
import Derived.Test.YtdfdgeaohneeaaaGreatDoorHxWx
import Derived.Test.YtdfdgeaohneeaaaGreatDoorHxWm
namespace Go.Proofs.YtdfdgeaohneeaaaGreatDoor
open Go Go.RowKit
set_option linter.unusedVariables false

/-- The sum of the first m. -/
def sumN (f : Nat → Int) : Nat → Int
  | 0 => 0
  | m + 1 => sumN f m + f m
theorem sumN_congr {f g : Nat → Int} {m : Nat} (h : ∀ i, i < m → f i = g i) : sumN f m = sumN g m := by
  induction m with
  | zero => rfl
  | succ m ih => unfold sumN; rw [ih fun i hi => h i (by omega), h m (by omega)]
theorem sumN_add (f : Nat → Int) (a b : Nat) : sumN f (a + b) = sumN f a + sumN (fun i => f (a + i)) b := by
  induction b with
  | zero => simp [sumN]
  | succ b ih => rw [← Nat.add_assoc]; simp only [sumN]; rw [ih]; omega
theorem sumN_mul (f : Nat → Int) (x : Int) (m : Nat) : sumN (fun i => f i * x) m = sumN f m * x := by
  induction m with
  | zero => simp [sumN]
  | succ m ih => simp only [sumN]; rw [ih, Int.add_mul]
theorem sumN_mono {f : Nat → Int} {k m : Nat} (hk : k ≤ m) (h : ∀ i, i < m → 0 ≤ f i) : sumN f k ≤ sumN f m := by
  induction m with
  | zero => obtain rfl : k = 0 := by omega
            exact Int.le_refl _
  | succ m ih =>
    by_cases e : k = m + 1
    · subst e; exact Int.le_refl _
    · have h1 := ih (by omega) fun i hi => h i (by omega)
      have h2 := h m (by omega)
      simp only [sumN]
      omega
theorem sumN_nonneg {f : Nat → Int} {m : Nat} (h : ∀ i, i < m → 0 ≤ f i) : 0 ≤ sumN f m := sumN_mono (k := 0) (Nat.zero_le _) h
theorem sumN_list {xs : List Int} {k : Nat} (h : k ≤ xs.length) : sumN (nth xs) k = psum xs k := by
  induction k with
  | zero => rw [psum_zero]; rfl
  | succ k ih => simp only [sumN]; rw [ih (by omega), psum_succ (by omega)]
theorem lsum_scatter {F : Nat → Int} {pl : Nat → Nat} {n m : Nat} (h : ∀ i, i < m → pl i < n) : lsum (scatter F pl n m) = sumN F m := by
  induction m with
  | zero => simp only [scatter, sumN]; exact lsum_replicate n
  | succ m ih =>
    simp only [scatter, sumN]
    rw [lsum_set (by rw [scatter_length]; exact h m (by omega)), ih fun i hi => h i (by omega)]
    omega
theorem scatter_scale {F : Nat → Int} {pl : Nat → Nat} {n m : Nat} (g : Int) (h : ∀ i, i < m → pl i < n) (p : Nat) (hp : p < n) : g * nth (scatter F pl n m) p = nth (scatter (fun i => g * F i) pl n m) p := by
  rw [scatter_nth hp h, scatter_nth hp h]
  clear h
  induction m with
  | zero => simp [at1]
  | succ m ih => simp only [at1]; rw [Int.mul_add, ih]; split <;> simp

/-- The sum of the weights of the casts of k lines. -/
theorem prod_digits {W : List Int} {k d r : Nat} (hr : r < 4 ^ k) (hd : d < 4) : prodTo W (4 ^ k * d + r) (k + 1) = prodTo W r k * nth W (6 + d) := by
  have low : ∀ j, j < k → Wq.dig (4 ^ k * d + r) j = Wq.dig r j := fun j hj => by
    unfold Wq.dig
    obtain ⟨e, rfl⟩ : ∃ e, k = j + 1 + e := ⟨k - j - 1, by omega⟩
    rw [Nat.pow_add, Nat.pow_succ, show 4 ^ j * 4 * 4 ^ e * d + r = r + 4 ^ j * (4 * (4 ^ e * d)) by
      rw [Nat.add_comm]; congr 1; simp [Nat.mul_assoc, Nat.mul_comm, Nat.mul_left_comm], Nat.add_mul_div_left _ _ (Nat.pow_pos (by omega)), Nat.add_mul_mod_self_left]
  have hi : Wq.dig (4 ^ k * d + r) k = d := by
    unfold Wq.dig
    rw [Nat.add_comm, Nat.add_mul_div_left _ _ (Nat.pow_pos (by omega)), Nat.div_eq_of_lt hr, Nat.zero_add, Nat.mod_eq_of_lt hd]
  have hp : ∀ j, j ≤ k → prodTo W (4 ^ k * d + r) j = prodTo W r j := fun j => by
    induction j with
    | zero => intro _; rfl
    | succ j ih => intro hj; unfold prodTo; rw [ih (by omega), low j (by omega)]
  show prodTo W (4 ^ k * d + r) k * nth W (6 + Wq.dig (4 ^ k * d + r) k) = _
  rw [hp k (Nat.le_refl _), hi]
def linesS (W : List Int) : Int := nth W 6 + nth W 7 + nth W 8 + nth W 9
theorem sum_power (W : List Int) (k : Nat) : sumN (fun n => prodTo W n k) (4 ^ k) = powI (linesS W) k := by
  induction k with
  | zero => simp [sumN, prodTo, powI]
  | succ k ih =>
    have blk : ∀ d, d < 4 → sumN (fun i => prodTo W (4 ^ k * d + i) (k + 1)) (4 ^ k) = powI (linesS W) k * nth W (6 + d) := fun d hd => by
      rw [sumN_congr (g := fun i => prodTo W i k * nth W (6 + d)) fun i hi => prod_digits hi hd, sumN_mul, ih]
    have e : 4 ^ (k + 1) = 4 ^ k + 4 ^ k + 4 ^ k + 4 ^ k := by rw [Nat.pow_succ]; omega
    have b0 := blk 0 (by omega)
    have b1 := blk 1 (by omega)
    have b2 := blk 2 (by omega)
    have b3 := blk 3 (by omega)
    rw [e, sumN_add, sumN_add, sumN_add]
    simp only [Nat.mul_zero, Nat.zero_add, Nat.mul_one] at b0 b1
    rw [show 4 ^ k * 2 = 4 ^ k + 4 ^ k by omega] at b2
    rw [show 4 ^ k * 3 = 4 ^ k + 4 ^ k + 4 ^ k by omega] at b3
    rw [b0, b1, b2, b3]
    show _ = powI (linesS W) k * linesS W
    unfold linesS
    simp only [Int.mul_add, Nat.add_zero]
/-- The weights of all pairs. -/
theorem pairs_sum (W : List Int) {N : Nat} (hN : N = 4096) : lsum (pairsTo W N) = powI (linesS W) 6 := by
  rw [← ref_all W hN, refTo, lsum_scatter (fun i hi => by have := Wq.place_lt (show i < 4096 by omega); omega), ← sum_power, hN]
theorem figures_sum (W : List Int) {N : Nat} (hN : N = 4096) : lsum (weighTo W figuresP 64 N) = powI (linesS W) 6 := by
  rw [← figures_scatter W (Nat.le_refl N), lsum_scatter (fun i hi => by omega), sumN_list (by rw [pairs_length]; exact Nat.le_refl _), ← pairs_sum W hN]
  have := psum_all (pairsTo W N)
  rwa [pairs_length] at this
theorem moving_sum (W : List Int) {N : Nat} (hN : N = 4096) : lsum (weighTo W movingP 7 N) = powI (linesS W) 6 := by
  rw [← moving_scatter W hN (Nat.le_refl N), lsum_scatter (fun i hi => by have := difTo_bd (i / 64 : Nat) (i % 64 : Nat) 6; omega), sumN_list (by rw [pairs_length]; exact Nat.le_refl _), ← pairs_sum W hN]
  have := psum_all (pairsTo W N)
  rwa [pairs_length] at this
theorem lines_sum {W : List Int} (h : linesE W = 0) : 1 ≤ linesS W ∧ linesS W ≤ 316 := by
  have hf := fit_of h
  have h0 := hf.lo
  obtain ⟨d, hd, hw⟩ := some_line h
  have a6 := h0 6; have a7 := h0 7; have a8 := h0 8; have a9 := h0 9
  have hc := castL_eq hf.len
  have hs : lsum (castL W) = linesS W := by rw [hc]; simp [lsum, linesS]; omega
  constructor
  · have : d = 0 ∨ d = 1 ∨ d = 2 ∨ d = 3 := by omega
    unfold linesS
    rcases this with rfl | rfl | rfl | rfl <;> simp at hw <;> omega
  · by_cases hb : 316 < linesS W
    · exfalso
      unfold linesE at h
      rw [hs, if_pos hb] at h
      split at h
      · simp at h
      · split at h
        · simp at h
        · split at h
          · simp at h
          · simp at h
    · omega
end Go.Proofs.YtdfdgeaohneeaaaGreatDoor
