/-
  Plain facts for HexagramCovers: images of unions, how many elements a set has, unions of greatest patterns.
-/
import Derived.Test.YtdfdgeaohneeaaaGreatDoorHxYb
import Derived.Test.YtdfdgeaohneeaaaGreatDoorHxIr
namespace Go.Proofs.YtdfdgeaohneeaaaGreatDoor
open Go Go.RowKit
set_option linter.unusedVariables false

theorem isSet_img {s : Nat} {f : Nat → Int} (hf : ∀ h, h < 64 → 0 ≤ f h ∧ f h ≤ 63) (k : Nat) (hk : k ≤ 64) : IsSet (imgTo s f k) (fun g => (List.range k).any fun h => s.testBit h && decide ((f h).toNat = g)) := by
  induction k with
  | zero => exact isSet_zero.congr fun g _ => by simp
  | succ k ih =>
    have ih := ih (by omega)
    unfold imgTo
    cases hb : s.testBit k
    · rw [if_neg (by simp)]
      refine ih.congr fun g hg => ?_
      rw [List.range_succ, List.any_append]
      simp [hb]
    · rw [if_pos rfl]
      have h1 := hf k (by omega)
      refine (ih.or (isSet_one (k := (f k).toNat) (by omega))).congr fun g hg => ?_
      rw [List.range_succ, List.any_append]
      simp [hb]
theorem img_union {s t : Nat} {f : Nat → Int} (hf : ∀ h, h < 64 → 0 ≤ f h ∧ f h ≤ 63) : imgTo (s ||| t) f 64 = bits BinOp.or IntKind.u64 (imgTo s f 64) (imgTo t f 64) := by
  refine (isSet_img hf 64 (Nat.le_refl _)).ext ((isSet_img hf 64 (Nat.le_refl _)).or (isSet_img hf 64 (Nat.le_refl _))) fun g hg => ?_
  rw [Bool.eq_iff_iff, Bool.or_eq_true, List.any_eq_true, List.any_eq_true, List.any_eq_true]
  simp only [Nat.testBit_or, Bool.and_eq_true, Bool.or_eq_true]
  constructor
  · rintro ⟨h, hh, h1 | h1, h2⟩
    · exact .inl ⟨h, hh, h1, h2⟩
    · exact .inr ⟨h, hh, h1, h2⟩
  · rintro (⟨h, hh, h1, h2⟩ | ⟨h, hh, h1, h2⟩)
    · exact ⟨h, hh, .inl h1, h2⟩
    · exact ⟨h, hh, .inr h1, h2⟩
theorem or_comm64 {a b : Int} {p q : Nat → Bool} (ha : IsSet a p) (hb : IsSet b q) : bits BinOp.or IntKind.u64 a b = bits BinOp.or IntKind.u64 b a :=
  (ha.or hb).ext (hb.or ha) fun g _ => Bool.or_comm ..

/-- How many elements a set has. -/
def cntP (p : Nat → Bool) (k : Nat) : Nat := (List.range k).countP p
theorem cntP_congr {p q : Nat → Bool} {k : Nat} (h : ∀ i, i < k → p i = q i) : cntP p k = cntP q k := by
  unfold cntP
  refine List.countP_congr fun i hi => ?_
  rw [h i (by simpa using hi)]
theorem cntP_succ (p : Nat → Bool) (k : Nat) : cntP p (k + 1) = cntP p k + if p k = true then 1 else 0 := by
  unfold cntP
  rw [List.range_succ, List.countP_append]
  simp [List.countP_cons]
theorem cntP_le (p : Nat → Bool) (k : Nat) : cntP p k ≤ k := by
  induction k with
  | zero => exact Nat.le_refl _
  | succ k ih => rw [cntP_succ]; split <;> omega
/-- One element more, at most. -/
theorem cntP_or (p : Nat → Bool) (j k : Nat) : cntP (fun i => p i || decide (j = i)) k ≤ cntP p k + if j < k then 1 else 0 := by
  induction k with
  | zero => simp [cntP]
  | succ k ih =>
    rw [cntP_succ, cntP_succ]
    by_cases e : j = k
    · subst e
      simp at ih
      simp
      split <;> omega
    · have e2 : (j < k + 1) = (j < k) := by simp; omega
      simp only [e2, e, decide_false, Bool.or_false]
      omega
/-- One element less. -/
theorem cntP_less (p : Nat → Bool) {j : Nat} (hp : p j = true) (k : Nat) : cntP (fun i => p i && !decide (j = i)) k + (if j < k then 1 else 0) = cntP p k := by
  induction k with
  | zero => simp [cntP]
  | succ k ih =>
    rw [cntP_succ, cntP_succ]
    by_cases e : j = k
    · subst e
      simp at ih
      simp [hp]
      exact ih
    · have e2 : (j < k + 1) = (j < k) := by simp; omega
      simp only [e2, e, decide_false, Bool.not_false, Bool.and_true]
      omega
theorem IsSet.cnt {v : Int} {p q : Nat → Bool} (h : IsSet v p) (h' : IsSet v q) : cntP p 64 = cntP q 64 := by
  obtain ⟨m, m1, rfl, m2⟩ := h
  obtain ⟨n, n1, e, n2⟩ := h'
  have : m = n := by omega
  subst this
  exact cntP_congr fun i hi => by rw [← m2 i hi, n2 i hi]
theorem img_cnt {s : Nat} {f : Nat → Int} (hf : ∀ h, h < 64 → 0 ≤ f h ∧ f h ≤ 63) (k : Nat) (hk : k ≤ 64) : cntP (fun g => (List.range k).any fun h => s.testBit h && decide ((f h).toNat = g)) 64 ≤ cntP s.testBit k := by
  induction k with
  | zero =>
    have : cntP (fun g => (List.range 0).any fun h => s.testBit h && decide ((f h).toNat = g)) 64 = cntP (fun _ => false) 64 := cntP_congr fun i _ => by simp
    rw [this]
    show cntP (fun _ => false) 64 ≤ 0
    decide +kernel
  | succ k ih =>
    have ih := ih (by omega)
    rw [cntP_succ s.testBit k]
    have e : cntP (fun g => (List.range (k + 1)).any fun h => s.testBit h && decide ((f h).toNat = g)) 64 = cntP (fun g => ((List.range k).any fun h => s.testBit h && decide ((f h).toNat = g)) || (s.testBit k && decide ((f k).toNat = g))) 64 := cntP_congr fun i _ => by
      rw [List.range_succ, List.any_append]; simp
    rw [e]
    cases hb : s.testBit k
    · simp only [Bool.false_and, Bool.or_false]
      simpa using ih
    · simp only [Bool.true_and]
      have := cntP_or (fun g => (List.range k).any fun h => s.testBit h && decide ((f h).toNat = g)) (f k).toNat 64
      have h2 : (f k).toNat < 64 := by have := hf k (by omega); omega
      rw [if_pos h2] at this
      simp only [if_pos]
      omega

/-- A set that is not empty, without its least element. -/
theorem least_bit {s : Nat} (h : s ≠ 0) : ∃ j t, s = 2 ^ j * (2 * t + 1) := by
  induction s using Nat.strongRecOn with
  | ind s ih =>
    by_cases hp : s % 2 = 1
    · exact ⟨0, s / 2, by omega⟩
    · obtain ⟨j, t, e⟩ := ih (s / 2) (by omega) (by omega)
      refine ⟨j + 1, t, ?_⟩
      rw [Nat.pow_succ, Nat.mul_comm (2 ^ j) 2, Nat.mul_assoc, ← e]
      omega
theorem testBit_one (i : Nat) : Nat.testBit 1 i = decide (i = 0) := by
  have := @Nat.testBit_two_pow 0 i
  rw [Nat.pow_zero] at this
  rw [this]
  by_cases e : i = 0 <;> simp [e]; omega
theorem drop_least {s : Nat} (h : s ≠ 0) : ∃ j, s.testBit j = true ∧ ∀ i, (s &&& (s - 1)).testBit i = (s.testBit i && !decide (j = i)) := by
  obtain ⟨j, t, rfl⟩ := least_bit h
  have e1 : 2 ^ j * (2 * t + 1) - 1 = 2 ^ (j + 1) * t + (2 ^ j - 1) := by
    have : 1 ≤ 2 ^ j := Nat.one_le_two_pow
    rw [Nat.mul_add, Nat.mul_one, Nat.pow_succ, Nat.mul_assoc]
    omega
  have e2 : 2 ^ j * (2 * t + 1) = 2 ^ (j + 1) * t + 2 ^ j := by rw [Nat.mul_add, Nat.mul_one, Nat.pow_succ, Nat.mul_assoc]
  have hlt : 2 ^ j - 1 < 2 ^ (j + 1) := by
    have : 2 ^ (j + 1) = 2 ^ j * 2 := Nat.pow_succ ..
    omega
  have hlt2 : 2 ^ j < 2 ^ (j + 1) := Nat.pow_lt_pow_right (by decide) (by omega)
  refine ⟨j, ?_, fun i => ?_⟩
  · rw [e2, Nat.testBit_two_pow_mul_add _ hlt2, if_pos (by omega), Nat.testBit_two_pow_self]
  · rw [Nat.testBit_and, e1, e2, Nat.testBit_two_pow_mul_add _ hlt2, Nat.testBit_two_pow_mul_add _ hlt]
    by_cases hi : i < j + 1
    · rw [if_pos hi, if_pos hi, Nat.testBit_two_pow, Nat.testBit_two_pow_sub_one]
      by_cases e : j = i
      · subst e; simp
      · simp [e]
    · rw [if_neg hi, if_neg hi]
      have : j ≠ i := by omega
      simp [this]
/-- How many elements a number of 64 bits has, as a set. -/
def sizeV (s : Nat) : Nat := cntP s.testBit 64
theorem size_zero : sizeV 0 = 0 := by decide +kernel
theorem size_le (s : Nat) : sizeV s ≤ 64 := cntP_le _ _
theorem size_less {s : Nat} (h : s ≠ 0) (hs : s < 2 ^ 64) : sizeV (s &&& (s - 1)) + 1 = sizeV s := by
  obtain ⟨j, hj, hb⟩ := drop_least h
  have j64 : j < 64 := by
    by_cases e : j < 64
    · exact e
    · rw [Nat.testBit_lt_two_pow (Nat.lt_of_lt_of_le hs (Nat.pow_le_pow_right (by decide) (by omega)))] at hj
      cases hj
  have := cntP_less s.testBit hj 64
  rw [if_pos j64] at this
  unfold sizeV
  rw [cntP_congr (fun i _ => hb i)]
  exact this

/-- The union of the greatest patterns is the set. -/
theorem union_to (set : Int) (ks : List Nat) (h : ∀ k ∈ ks, k < 729) : IsSet (whereTo (greatL set ks)) (fun g => ks.any fun k => greatB set k && okTo (patS k) 6 g) := by
  unfold whereTo greatL
  have key : ∀ (ks : List Nat) (v : Int) (p : Nat → Bool), IsSet v p → IsSet (List.foldl (fun v s => bits BinOp.or IntKind.u64 v (matchTo s 6)) v ((ks.filter (greatB set)).map patS)) (fun g => p g || ks.any fun k => greatB set k && okTo (patS k) 6 g) := by
    intro ks
    induction ks with
    | nil => intro v p hv; exact hv.congr fun g _ => by simp
    | cons k ks ih =>
      intro v p hv
      cases hg : greatB set k
      · rw [List.filter_cons_of_neg (by rw [hg]; simp)]
        refine (ih v p hv).congr fun g _ => ?_
        rw [List.any_cons, hg]
        simp
      · rw [List.filter_cons_of_pos hg, List.map_cons, List.foldl_cons]
        refine (ih _ _ (hv.or (isSet_match (patS k) 6 (Nat.le_refl _)))).congr fun g _ => ?_
        rw [List.any_cons, hg]
        simp [Bool.or_assoc]
  exact (key ks 0 _ isSet_zero).congr fun g _ => by simp
theorem union_all {set : Int} {q : Nat → Bool} (hq : IsSet set q) : whereTo (greatL set (upto id 729)) = set := by
  refine (union_to set _ fun k hk => by simpa [upto] using hk).ext hq fun g hg => ?_
  rw [Bool.eq_iff_iff, List.any_eq_true]
  constructor
  · rintro ⟨k, hk, h⟩
    rw [Bool.and_eq_true] at h
    exact (within_iff (isSet_match (patS k) 6 (Nat.le_refl _)) hq).1 (great_within h.1).1 g hg h.2
  · intro h
    obtain ⟨k, h1, h2, h3⟩ := cover hq hg h
    exact ⟨k, by simpa [upto] using h1, by rw [h2, h3]; rfl⟩
end Go.Proofs.YtdfdgeaohneeaaaGreatDoor
