/-
  Plain facts: the error of weights of lines, as the reference finds it.
-/
import Derived.Test.YtdfdgeaohneeaaaGreatDoorHxWs
namespace Go.Proofs.YtdfdgeaohneeaaaGreatDoor
open Go Go.RowKit
set_option linter.unusedVariables false

/-- The sum of the first k, capped at each step. -/
def capTo (W : List Int) : Nat → Int
  | 0 => 0
  | k + 1 => min (capTo W k + min (nth W k) 1000000) 1000000
theorem capTo_bd {W : List Int} (h : ∀ k, 0 ≤ nth W k) (k : Nat) : 0 ≤ capTo W k ∧ capTo W k ≤ 1000000 := by
  induction k with
  | zero => unfold capTo; omega
  | succ k ih => have := h k; unfold capTo; omega
theorem psum_over {xs : List Int} {k : Nat} (h : xs.length ≤ k) : psum xs k = lsum xs := by unfold psum lsum; rw [List.take_of_length_le h]
theorem capTo_sum {W : List Int} (h : ∀ k, 0 ≤ nth W k) {k : Nat} (hk : k ≤ W.length) : capTo W k = min (psum W k) 1000000 := by
  induction k with
  | zero => rw [psum_zero]; rfl
  | succ k ih =>
    have h1 := h k
    have h2 := psum_lo (xs := W) (fun k _ => h k) (show k ≤ W.length by omega)
    unfold capTo
    rw [ih (by omega), psum_succ (by omega)]
    omega
/-- A weight that is not one of a line's. -/
def badB (v : Int) (i : Nat) : Bool := decide (v < 0) || (decide (0 < v) && (decide (i < 6) || decide (9 < i)))
theorem zeros_sum {xs : List Int} (h : ∀ k, k < xs.length → nth xs k = 0) : lsum xs = 0 := by
  induction xs with
  | nil => rfl
  | cons x r ih =>
    rw [lsum_cons, ih fun k hk => by have := h (k + 1) (by simp; omega); simpa [nth] using this]
    have := h 0 (by simp)
    simp [nth] at this
    omega
theorem some_not {xs : List Int} (h : ∀ k, k < xs.length → nth xs k = 0) : anyB someB xs = false := by
  refine anyB_false fun i hi => ?_
  rw [h i hi]; rfl
theorem lsum_append (a b : List Int) : lsum (a ++ b) = lsum a + lsum b := by simp [lsum]
theorem lsum_parts (W : List Int) : lsum W = lsum (W.take 6) + lsum (castL W) + lsum (W.drop 10) := by
  have h1 : W = W.take 6 ++ W.drop 6 := (List.take_append_drop 6 W).symm
  have h2 : W.drop 6 = castL W ++ (W.drop 6).drop 4 := (List.take_append_drop 4 (W.drop 6)).symm
  have h3 : (W.drop 6).drop 4 = W.drop 10 := by rw [List.drop_drop]
  rw [h3] at h2
  have h4 : lsum W = lsum (W.take 6 ++ (castL W ++ W.drop 10)) := by rw [← h2, ← h1]
  rw [h4, lsum_append, lsum_append]
  omega
theorem lines_len {W : List Int} (h : (W.length : Int) < 10 ∨ 20 < (W.length : Int)) : linesE W = 2 := by
  unfold linesE
  rw [if_pos (by simp only [outB, decide_eq_true_eq]; exact h)]
theorem lines_bad {W : List Int} {k : Nat} (hk : k < W.length) (h : badB (nth W k) k = true) : linesE W = 2 := by
  unfold linesE
  by_cases h1 : outB 10 20 W.length = true
  · rw [if_pos h1]
  rw [if_neg h1]
  by_cases h2 : anyB negB W = true
  · rw [if_pos h2]
  rw [if_neg h2]
  have h0 : 0 ≤ nth W k := negB_all (by simpa using h2) k
  have h3 : 0 < nth W k ∧ (k < 6 ∨ 9 < k) := by simp [badB] at h; omega
  have hs : someB (nth W k) = true := by simp [someB]; omega
  refine if_pos ?_
  rcases h3.2 with h4 | h4
  · left
    refine anyB_true (k := k) (by simp; omega) ?_
    rw [nth_take h4]; exact hs
  · right; left
    refine anyB_true (k := k - 10) (by simp; omega) ?_
    rw [nth_drop, show 10 + (k - 10) = k by omega]; exact hs
/-- All weights are those of lines. -/
theorem lines_good {W : List Int} {n : Nat} (hn : W.length = n) (h10 : 10 ≤ n) (h20 : n ≤ 20) (h : ∀ k, k < n → badB (nth W k) k = false) :
    (∀ k, 0 ≤ nth W k) ∧ (capTo W n = 0 → linesE W = 2) ∧ (1 ≤ capTo W n → capTo W n ≤ 316 → linesE W = 0) ∧ (317 ≤ capTo W n → linesE W = 40) := by
  subst hn
  have h0 : ∀ k, 0 ≤ nth W k := fun k => by
    by_cases hk : k < W.length
    · have := h k hk
      simp [badB] at this
      omega
    · rw [nth_out hk]; omega
  have hz : ∀ k, k < 6 ∨ 9 < k → nth W k = 0 := fun k hk => by
    by_cases hlt : k < W.length
    · have h1 := h k hlt
      have h2 := h0 k
      simp only [badB, Bool.or_eq_false_iff, Bool.and_eq_false_iff, decide_eq_false_iff_not] at h1
      omega
    · exact nth_out hlt
  have z6 : ∀ k, k < (W.take 6).length → nth (W.take 6) k = 0 := fun k hk => by
    simp at hk
    rw [nth_take (by omega)]; exact hz k (by omega)
  have z10 : ∀ k, k < (W.drop 10).length → nth (W.drop 10) k = 0 := fun k hk => by
    rw [nth_drop]; exact hz _ (by omega)
  have hc : capTo W W.length = min (lsum (castL W)) 1000000 := by
    rw [capTo_sum h0 (Nat.le_refl _), psum_all, lsum_parts W, zeros_sum z6, zeros_sum z10]
    omega
  have e1 : ¬ outB 10 20 (W.length : Int) = true := by simp [outB]; omega
  have e2 : ¬ anyB negB W = true := fun h1 => by
    rw [anyB_false fun i hi => by have := h0 i; simp [negB]; omega] at h1
    cases h1
  have e3 := castL_eq h10
  have a6 := h0 6; have a7 := h0 7; have a8 := h0 8; have a9 := h0 9
  have hs : lsum (castL W) = nth W 6 + nth W 7 + nth W 8 + nth W 9 := by rw [e3]; simp [lsum]; omega
  have hE : linesE W = if anyB someB (castL W) = false then 2 else if 316 < lsum (castL W) then 40 else 0 := by
    unfold linesE
    rw [if_neg e1, if_neg e2, some_not z6, some_not z10]
    simp
  refine ⟨h0, fun hc0 => ?_, fun hc1 hc2 => ?_, fun hc1 => ?_⟩
  · rw [hE, if_pos]
    rw [e3]
    refine anyB_false fun i hi => ?_
    simp at hi
    have : nth W 6 = 0 ∧ nth W 7 = 0 ∧ nth W 8 = 0 ∧ nth W 9 = 0 := by omega
    obtain ⟨b6, b7, b8, b9⟩ := this
    rw [b6, b7, b8, b9]
    have : i = 0 ∨ i = 1 ∨ i = 2 ∨ i = 3 := by omega
    rcases this with rfl | rfl | rfl | rfl <;> rfl
  · have hne : ¬ anyB someB (castL W) = false := fun h1 => by
      rw [e3] at h1
      simp [anyB, someB] at h1
      omega
    rw [hE, if_neg hne, if_neg (by omega)]
  · have hne : ¬ anyB someB (castL W) = false := fun h1 => by
      rw [e3] at h1
      simp [anyB, someB] at h1
      omega
    rw [hE, if_neg hne, if_pos (by omega)]

/-- The powers of the sum. -/
def powI (s : Int) : Nat → Int
  | 0 => 1
  | k + 1 => powI s k * s
theorem powI_pos {s : Int} (h : 1 ≤ s) (k : Nat) : 1 ≤ powI s k := by
  induction k with
  | zero => exact show (1 : Int) ≤ 1 by omega
  | succ k ih =>
    unfold powI
    have := Int.mul_pos (show 0 < powI s k by omega) (show 0 < s by omega)
    omega
theorem powI_mono {s t : Int} (h : 1 ≤ s) (hst : s ≤ t) (k : Nat) : powI s k ≤ powI t k := by
  induction k with
  | zero => exact Int.le_refl _
  | succ k ih =>
    unfold powI
    exact Int.mul_le_mul ih hst (by omega) (by have := powI_pos (show 1 ≤ t by omega) k; omega)
theorem powI_up {s : Int} (h : 1 ≤ s) {k m : Nat} (hk : k ≤ m) : powI s k ≤ powI s m := by
  induction m with
  | zero =>
    obtain rfl : k = 0 := by omega
    exact Int.le_refl _
  | succ m ih =>
    by_cases e : k = m + 1
    · subst e; exact Int.le_refl _
    · have h1 := ih (by omega)
      have h2 := powI_pos h m
      have h3 : powI s m * 1 ≤ powI s m * s := Int.mul_le_mul_of_nonneg_left h (by omega)
      show powI s k ≤ powI s m * s
      omega
theorem pow_over {s : Int} (h : 1 ≤ s) {k : Nat} (hk : k < 6) (ho : 1000000000000000 / s < powI s k) : 317 ≤ s := by
  by_cases hs : s ≤ 316
  · have h1 := powI_mono h hs (k + 1)
    have h2 := powI_up (s := 316) (by omega) (show k + 1 ≤ 6 by omega)
    have h3 : powI 316 6 = 995686217814016 := by decide
    have h4 : powI s (k + 1) = powI s k * s := rfl
    have h5 := Int.lt_mul_ediv_self_add (x := 1000000000000000) (k := s) (by omega)
    have h6 : s * (1000000000000000 / s + 1) ≤ s * powI s k := Int.mul_le_mul_of_nonneg_left (by omega) (by omega)
    rw [Int.mul_add, Int.mul_one] at h6
    rw [Int.mul_comm s (powI s k)] at h6
    omega
  · omega
theorem pow_under {s : Int} (h : 1 ≤ s) (hp : powI s 6 ≤ 1000000000000000) : s ≤ 316 := by
  by_cases hs : 317 ≤ s
  · have h1 := powI_mono (show (1 : Int) ≤ 317 by omega) hs 6
    have h3 : powI 317 6 = 1014741853230169 := by decide
    omega
  · omega
theorem pow_next {s : Int} (h : 1 ≤ s) {k : Nat} (ho : powI s k ≤ 1000000000000000 / s) : powI s (k + 1) ≤ 1000000000000000 := by
  have h6 : s * powI s k ≤ s * (1000000000000000 / s) := Int.mul_le_mul_of_nonneg_left ho (by omega)
  have h7 := Int.mul_ediv_self_le (x := 1000000000000000) (k := s) (by omega)
  unfold powI
  rw [Int.mul_comm]
  omega
end Go.Proofs.YtdfdgeaohneeaaaGreatDoor
