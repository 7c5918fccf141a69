/-
  What OddsCounts compares: the chances of an outcome, of all others, of a set, and of an outcome given the set. No code.
-/
import Derived.Test.YtnpnnfbmnlgioaaVt
import Derived.Test.YtnpnnfbmnlgioaaVi
namespace Go.Proofs.Ytnpnnfbmnlgioaa

theorem nth_only {xs os : List Int} (ha : asc xs.length os = true) {k i : Nat} (hk : k ≤ os.length) (hi : i < k) : nth (onlyTo xs os k) (nth os i).toNat = nth xs (nth os i).toNat := by
  induction k with
  | zero => omega
  | succ k ih =>
    have h1 := asc_at ha (show k < os.length by omega)
    have h2 := asc_nonneg ha (show k < os.length by omega)
    simp only [onlyTo]
    rw [nth_set (by rw [onlyTo_length]; omega)]
    by_cases e : (nth os k).toNat = (nth os i).toNat
    · rw [if_pos e, e]
    · rw [if_neg e]
      have : i ≠ k := fun h => e (by rw [h])
      exact ih (by omega) (by omega)
theorem lsum_only0 (xs os : List Int) : lsum (onlyTo xs os 0) = 0 := by simp only [onlyTo]; exact lsum_replicate _

/-- The chance of some outcomes whose weights add up to S. -/
theorem sOf_at {xs os : List Int} {S : Int} (h0 : chk1 xs = 0) (ha : asc xs.length os = true) (hS : lsum (onlyL xs os) = S) : sOf xs os = (S / Int.gcd S (lsum xs), lsum xs / Int.gcd S (lsum xs), 0) := by
  have hc : chkS xs os = 0 := by unfold chkS; rw [if_neg (by simpa using h0), if_pos ha]
  unfold sOf
  rw [if_neg (by simpa using hc), hS]
theorem asc_one {n a : Nat} (h : a < n) : asc n [(a : Int)] = true := by
  refine asc_true fun k hk => ?_
  obtain rfl : k = 0 := by simpa using hk
  simp [badO, prevO, nth]
  omega
theorem sum_one {xs : List Int} {a : Nat} (h : a < xs.length) : lsum (onlyL xs [(a : Int)]) = nth xs a := by
  have := lsum_onlyTo (asc_one h) (k := 0) (by simp)
  rw [lsum_only0] at this
  unfold onlyL
  simpa [nth] using this
theorem asc_two {n a b : Nat} (hab : a < b) (h : b < n) : asc n [(a : Int), (b : Int)] = true := by
  refine asc_true fun k hk => ?_
  rcases k with _ | _ | k
  · simp [badO, prevO, nth]; omega
  · simp [badO, prevO, nth]; omega
  · simp at hk; omega
theorem sum_two {xs : List Int} {a b : Nat} (hab : a < b) (h : b < xs.length) : lsum (onlyL xs [(a : Int), (b : Int)]) = nth xs a + nth xs b := by
  have h1 := lsum_onlyTo (asc_two hab h) (k := 0) (by simp)
  have h2 := lsum_onlyTo (asc_two hab h) (k := 1) (by simp)
  rw [lsum_only0] at h1
  rw [show 0 + 1 = 1 from rfl] at h1
  rw [h1] at h2
  unfold onlyL
  simpa [nth] using h2

/-- All outcomes but one. -/
def ix (a j : Nat) : Nat := if j < a then j else j + 1
def oth (a m : Nat) : List Int := upto (fun j => ((ix a j : Nat) : Int)) m
theorem oth_length (a m : Nat) : (oth a m).length = m := upto_length _ _
theorem nth_oth {a m j : Nat} (h : j < m) : nth (oth a m) j = (ix a j : Int) := by
  unfold oth upto nth
  simp [h]
theorem asc_oth {n a : Nat} (h : a < n) : asc n (oth a (n - 1)) = true := by
  refine asc_true fun k hk => ?_
  rw [oth_length] at hk
  have e1 := nth_oth (a := a) hk
  have hlt : ix a k < n := by unfold ix; split <;> omega
  unfold badO
  rw [e1]
  rcases k with _ | k
  · simp [prevO]; omega
  · rw [prevO_succ, nth_oth (by omega)]
    have : ix a k < ix a (k + 1) := by unfold ix; split <;> split <;> omega
    simp; omega
theorem sum_oth {xs : List Int} {a : Nat} (h : a < xs.length) : lsum (onlyL xs (oth a (xs.length - 1))) = lsum xs - nth xs a := by
  have ha := asc_oth h
  have H : ∀ k, k ≤ xs.length - 1 → lsum (onlyTo xs (oth a (xs.length - 1)) k) = if k ≤ a then psum xs k else psum xs (k + 1) - nth xs a := fun k => by
    induction k with
    | zero => intro _; rw [lsum_only0, if_pos (by omega), psum_zero]
    | succ k ih =>
      intro hk
      rw [lsum_onlyTo ha (by rw [oth_length]; omega), ih (by omega), nth_oth (by omega), Int.toNat_natCast]
      by_cases h1 : k + 1 ≤ a
      · rw [if_pos (by omega), if_pos h1, psum_succ (by omega)]
        rw [show ix a k = k by unfold ix; rw [if_pos (by omega)]]
      · rw [if_neg h1, show ix a k = k + 1 by unfold ix; rw [if_neg (by omega)]]
        have e2 := psum_succ (xs := xs) (k := k + 1) (by omega)
        by_cases h2 : k ≤ a
        · have hka : a = k := by omega
          have e1 := psum_succ (xs := xs) (k := k) (by omega)
          rw [if_pos h2, e2, e1, hka]
          omega
        · rw [if_neg h2, e2]
          omega
  unfold onlyL
  rw [oth_length, H _ (Nat.le_refl _)]
  by_cases h1 : xs.length - 1 ≤ a
  · obtain rfl : a = xs.length - 1 := by omega
    rw [if_pos (Nat.le_refl _)]
    have := psum_succ (xs := xs) (k := xs.length - 1) (by omega)
    rw [show xs.length - 1 + 1 = xs.length by omega, psum_all] at this
    omega
  · rw [if_neg h1, show xs.length - 1 + 1 = xs.length by omega, psum_all]

/-- The weights of a set alone, if they are not all 0. -/
theorem only_valid {xs os : List Int} (h0 : chk1 xs = 0) (ha : asc xs.length os = true) (hS : 1 ≤ lsum (onlyL xs os)) : chk1 (onlyL xs os) = 0 ∧ (onlyL xs os).length = xs.length := by
  obtain ⟨a1, a2, a3, a4⟩ := chk1_ok h0
  obtain ⟨f1, f2, f3, f4⟩ := onlyL_facts a2 ha
  refine ⟨?_, f1⟩
  unfold chk1
  rw [if_neg (by omega), if_neg]
  rintro (h | h)
  · exact not_small_of_anyB h f2
  · simp [outB] at h; omega

/-- What is compared at last. -/
theorem counts_facts {xs : List Int} {os : List Int} {a b : Nat} (h0 : chk1 xs = 0) (ha : a < xs.length) (hb : b < xs.length) (hos : os = if a = b then [(a : Int)] else [((min a b : Nat) : Int), ((max a b : Nat) : Int)]) :
    ∃ S : Int, asc xs.length os = true ∧ lsum (onlyL xs os) = S ∧ 0 ≤ S ∧ S ≤ lsum xs ∧ (S = 0 → nth xs a = 0 ∧ nth xs b = 0) ∧ nth (onlyL xs os) a = nth xs a := by
  obtain ⟨a1, a2, a3, a4⟩ := chk1_ok h0
  have p1 := a2.pos a
  have p2 := a2.pos b
  by_cases hab : a = b
  · rw [if_pos hab] at hos
    subst hab hos
    have hasc := asc_one ha
    obtain ⟨_, _, f3, f4⟩ := onlyL_facts a2 hasc
    refine ⟨_, hasc, rfl, f3, f4, fun h => ?_, ?_⟩
    · rw [sum_one ha] at h; exact ⟨h, h⟩
    · have := nth_only hasc (k := 1) (i := 0) (by simp) (by omega)
      simpa [nth, onlyL] using this
  · rw [if_neg hab] at hos
    subst hos
    have hlt : min a b < max a b := by omega
    have hmx : max a b < xs.length := by omega
    have hasc := asc_two hlt hmx
    obtain ⟨_, _, f3, f4⟩ := onlyL_facts a2 hasc
    refine ⟨_, hasc, rfl, f3, f4, fun h => ?_, ?_⟩
    · rw [sum_two hlt hmx] at h
      rcases Nat.lt_or_gt_of_ne hab with h1 | h1
      · rw [Nat.min_eq_left (by omega), Nat.max_eq_right (by omega)] at h
        omega
      · rw [Nat.min_eq_right (by omega), Nat.max_eq_left (by omega)] at h
        omega
    · unfold onlyL
      rcases Nat.lt_or_gt_of_ne hab with h1 | h1
      · have := nth_only hasc (k := 2) (i := 0) (by simp) (by omega)
        rw [Nat.min_eq_left (by omega), Nat.max_eq_right (by omega)] at this ⊢
        simpa [nth] using this
      · have := nth_only hasc (k := 2) (i := 1) (by simp) (by omega)
        rw [Nat.min_eq_right (by omega), Nat.max_eq_left (by omega)] at this ⊢
        simpa [nth] using this
end Go.Proofs.Ytnpnnfbmnlgioaa
