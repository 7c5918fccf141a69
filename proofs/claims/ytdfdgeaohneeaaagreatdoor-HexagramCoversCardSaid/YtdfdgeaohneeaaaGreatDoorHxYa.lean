/-
  Sets of hexagrams as predicates: what patterns match, sets with a line turned, unions.
-/
import Derived.Test.YtdfdgeaohneeaaaGreatDoorHxM
import Derived.Test.YtdfdgeaohneeaaaGreatDoorHxBt
namespace Go.Proofs.YtdfdgeaohneeaaaGreatDoor
open Go Go.RowKit
set_option linter.unusedVariables false

/-- A number of 64 bits that is the set of the hexagrams with a property. -/
def IsSet (v : Int) (p : Nat → Bool) : Prop := ∃ m : Nat, m < 2 ^ 64 ∧ v = (m : Int) ∧ ∀ h, h < 64 → m.testBit h = p h
theorem IsSet.ext {v v' : Int} {p q : Nat → Bool} (h : IsSet v p) (h' : IsSet v' q) (e : ∀ h, h < 64 → p h = q h) : v = v' := by
  obtain ⟨m, m1, rfl, m2⟩ := h
  obtain ⟨n, n1, rfl, n2⟩ := h'
  have : m = n := by
    apply Nat.eq_of_testBit_eq
    intro i
    by_cases hi : i < 64
    · rw [m2 i hi, n2 i hi, e i hi]
    · rw [Nat.testBit_lt_two_pow (Nat.lt_of_lt_of_le m1 (Nat.pow_le_pow_right (by decide) (by omega))), Nat.testBit_lt_two_pow (Nat.lt_of_lt_of_le n1 (Nat.pow_le_pow_right (by decide) (by omega)))]
  rw [this]
theorem IsSet.congr {v : Int} {p q : Nat → Bool} (h : IsSet v p) (e : ∀ h, h < 64 → p h = q h) : IsSet v q := by
  obtain ⟨m, m1, rfl, m2⟩ := h
  exact ⟨m, m1, rfl, fun i hi => (m2 i hi).trans (e i hi)⟩
theorem IsSet.bd {v : Int} {p : Nat → Bool} (h : IsSet v p) : 0 ≤ v ∧ v < 18446744073709551616 := by
  obtain ⟨m, m1, rfl, m2⟩ := h
  have : m < 18446744073709551616 := m1
  omega
theorem isSet_nat {s : Nat} (h : s < 2 ^ 64) : IsSet (s : Int) s.testBit := ⟨s, h, rfl, fun _ _ => rfl⟩
theorem isSet_zero : IsSet 0 (fun _ => false) := ⟨0, by decide, rfl, fun h _ => Nat.zero_testBit h⟩
theorem isSet_full : IsSet fullS (fun _ => true) := ⟨2 ^ 64 - 1, by decide, by decide, fun h hh => by rw [Nat.testBit_two_pow_sub_one]; simpa using hh⟩
theorem IsSet.and {v v' : Int} {p q : Nat → Bool} (h : IsSet v p) (h' : IsSet v' q) : IsSet (bits .and .u64 v v') (fun i => p i && q i) := by
  obtain ⟨m, m1, rfl, m2⟩ := h
  obtain ⟨n, n1, rfl, n2⟩ := h'
  exact ⟨m &&& n, Nat.lt_of_le_of_lt Nat.and_le_left m1, u64_and _ _ m1 n1, fun i hi => by rw [Nat.testBit_and, m2 i hi, n2 i hi]⟩
theorem IsSet.or {v v' : Int} {p q : Nat → Bool} (h : IsSet v p) (h' : IsSet v' q) : IsSet (bits .or .u64 v v') (fun i => p i || q i) := by
  obtain ⟨m, m1, rfl, m2⟩ := h
  obtain ⟨n, n1, rfl, n2⟩ := h'
  exact ⟨m ||| n, Nat.or_lt_two_pow m1 n1, u64_or _ _ m1 n1, fun i hi => by rw [Nat.testBit_or, m2 i hi, n2 i hi]⟩
theorem IsSet.andNot {v v' : Int} {p q : Nat → Bool} (h : IsSet v p) (h' : IsSet v' q) : IsSet (bits .andNot .u64 v v') (fun i => p i && !q i) := by
  obtain ⟨m, m1, rfl, m2⟩ := h
  obtain ⟨n, n1, rfl, n2⟩ := h'
  refine ⟨m &&& (2 ^ 64 - 1 - n), Nat.lt_of_le_of_lt Nat.and_le_left m1, u64_andNot _ _ m1 n1, fun i hi => ?_⟩
  rw [Nat.testBit_and, m2 i hi, Nat.sub_sub, Nat.add_comm 1 n, Nat.testBit_two_pow_sub_succ n1, n2 i hi]
  simp [hi]
theorem isSet_one {k : Nat} (hk : k < 64) : IsSet (2 ^ k) (fun i => decide (k = i)) :=
  ⟨2 ^ k, Nat.pow_lt_pow_right (by decide) hk, by simp, fun i hi => by rw [Nat.testBit_two_pow]⟩
theorem isSet_firm {l : Nat} (hl : l < 6) : IsSet (nth firmL l) (fun h => h.testBit l) := by
  have e : l = 0 ∨ l = 1 ∨ l = 2 ∨ l = 3 ∨ l = 4 ∨ l = 5 := by omega
  rcases e with rfl | rfl | rfl | rfl | rfl | rfl
  · exact ⟨12297829382473034410, by decide, rfl, by decide +kernel⟩
  · exact ⟨14757395258967641292, by decide, rfl, by decide +kernel⟩
  · exact ⟨17361641481138401520, by decide, rfl, by decide +kernel⟩
  · exact ⟨18374966859414961920, by decide, rfl, by decide +kernel⟩
  · exact ⟨18446462603027742720, by decide, rfl, by decide +kernel⟩
  · exact ⟨18446744069414584320, by decide, rfl, by decide +kernel⟩

/-- What the sign j of a pattern says of a hexagram. -/
def okL (s : ByteArray) (h j : Nat) : Bool := if byteAt s j = 49 then h.testBit j else if byteAt s j = 48 then !h.testBit j else true
def okTo (s : ByteArray) (k h : Nat) : Bool := (List.range k).all (okL s h)
theorem okTo_succ (s : ByteArray) (k h : Nat) : okTo s (k + 1) h = (okTo s k h && okL s h k) := by simp [okTo, List.range_succ]
theorem okTo_iff {s : ByteArray} {k h : Nat} : okTo s k h = true ↔ ∀ j, j < k → okL s h j = true := by simp [okTo]
theorem isSet_match (s : ByteArray) (k : Nat) (hk : k ≤ 6) : IsSet (matchTo s k) (okTo s k) := by
  induction k with
  | zero => exact isSet_full.congr fun h _ => by simp [okTo]
  | succ k ih =>
    have ih := ih (by omega)
    unfold matchTo
    by_cases h1 : byteAt s k = 49
    · rw [if_pos h1]
      exact (ih.and (isSet_firm (by omega))).congr fun h hh => by rw [okTo_succ]; unfold okL; rw [if_pos h1]
    · rw [if_neg h1]
      by_cases h0 : byteAt s k = 48
      · rw [if_pos h0]
        exact (ih.andNot (isSet_firm (by omega))).congr fun h hh => by rw [okTo_succ]; unfold okL; rw [if_neg h1, if_pos h0]
      · rw [if_neg h0]
        exact ih.congr fun h hh => by rw [okTo_succ]; unfold okL; rw [if_neg h1, if_neg h0, Bool.and_true]

/-- A hexagram with a line turned. -/
def flip (h l : Nat) : Nat := if h.testBit l = true then h - 2 ^ l else h + 2 ^ l
theorem all_flip : ∀ l, l < 6 → ∀ h, h < 64 → flip h l < 64 ∧ flip (flip h l) l = h ∧ (∀ j, j < 6 → (flip h l).testBit j = if j = l then !h.testBit j else h.testBit j) ∧ ((h + 2 ^ l).testBit l = !h.testBit l) ∧ (2 ^ l ≤ h → (h - 2 ^ l).testBit l = !h.testBit l) ∧ (h.testBit l = true → 2 ^ l ≤ h) ∧ (h.testBit l = false → h + 2 ^ l < 64) := by decide +kernel
theorem isSet_turned {s : Int} {p : Nat → Bool} (h : IsSet s p) {l : Nat} (hl : l < 6) : IsSet (turnedV s l) (fun i => p (flip i l)) := by
  have hf := isSet_firm hl
  obtain ⟨a, a1, ea, a2⟩ := h.and hf
  obtain ⟨b, b1, eb, b2⟩ := h.andNot hf
  have a2 : ∀ i, i < 64 → a.testBit i = (p i && i.testBit l) := a2
  have b2 : ∀ i, i < 64 → b.testBit i = (p i && !i.testBit l) := b2
  have pl : 1 ≤ 2 ^ l ∧ 2 ^ l ≤ 32 := by
    have e : l = 0 ∨ l = 1 ∨ l = 2 ∨ l = 3 ∨ l = 4 ∨ l = 5 := by omega
    rcases e with rfl | rfl | rfl | rfl | rfl | rfl <;> decide
  have s1 : IsSet (bits BinOp.and IntKind.u64 s (nth firmL l) / 2 ^ (2 ^ l)) (fun i => a.testBit (i + 2 ^ l)) := by
    rw [ea]
    refine ⟨a / 2 ^ (2 ^ l), Nat.lt_of_le_of_lt (Nat.div_le_self _ _) a1, by simp, fun i hi => ?_⟩
    rw [Nat.testBit_div_two_pow]
  have s2 : IsSet (IntKind.u64.wrap (bits BinOp.andNot IntKind.u64 s (nth firmL l) * 2 ^ (2 ^ l))) (fun i => decide (2 ^ l ≤ i) && b.testBit (i - 2 ^ l)) := by
    rw [eb]
    have e : IntKind.u64.wrap ((b : Int) * 2 ^ (2 ^ l)) = ((b * 2 ^ (2 ^ l) % 2 ^ 64 : Nat) : Int) := by
      have : ((b : Int) * 2 ^ (2 ^ l)) = ((b * 2 ^ (2 ^ l) : Nat) : Int) := by simp
      rw [this]
      simp [IntKind.wrap, IntKind.bits, IntKind.signed]
    rw [e]
    refine ⟨_, Nat.mod_lt _ (by decide), rfl, fun i hi => ?_⟩
    rw [Nat.testBit_mod_two_pow, Nat.mul_comm, Nat.testBit_two_pow_mul]
    simp [hi]
  refine (s1.or s2).congr fun i hi => ?_
  obtain ⟨f1, f2, f3, f4, f5, f6, f7⟩ := all_flip l hl i hi
  cases hb : i.testBit l
  · have h7 := f7 hb
    have e1 : flip i l = i + 2 ^ l := by unfold flip; rw [hb]; rfl
    rw [hb] at f4
    rw [a2 _ h7, f4, e1]
    by_cases hle : 2 ^ l ≤ i
    · have := f5 hle
      rw [hb] at this
      rw [b2 _ (by omega), this]
      simp
    · simp [hle]
  · have h6 := f6 hb
    have e1 : flip i l = i - 2 ^ l := by unfold flip; rw [hb]; rfl
    have := f5 h6
    rw [hb] at this f4
    rw [b2 _ (by omega), this, e1]
    have h0 : a.testBit (i + 2 ^ l) = false := by
      by_cases h64 : i + 2 ^ l < 64
      · rw [a2 _ h64, f4]; simp
      · exact Nat.testBit_lt_two_pow (Nat.lt_of_lt_of_le a1 (Nat.pow_le_pow_right (by decide) (by omega)))
    rw [h0]
    simp [h6]
theorem within_iff {x y : Int} {p q : Nat → Bool} (hx : IsSet x p) (hy : IsSet y q) : withinB x y = true ↔ ∀ h, h < 64 → p h = true → q h = true := by
  have h := hx.andNot hy
  unfold withinB
  rw [beq_iff_eq]
  constructor
  · intro e i hi hp
    rw [e] at h
    obtain ⟨m, m1, e0, m2⟩ := h
    have : m = 0 := by omega
    subst this
    have : Nat.testBit 0 i = (p i && !q i) := m2 i hi
    rw [Nat.zero_testBit, hp] at this
    simpa using this.symm
  · intro hh
    refine h.ext isSet_zero fun i hi => ?_
    cases hp : p i
    · rfl
    · rw [hh i hi hp]; rfl
theorem within_bits {x y : Int} : (bits BinOp.andNot IntKind.u64 x y = 0) ↔ withinB x y = true := by unfold withinB; rw [beq_iff_eq]

/-- The set of the first k hexagrams with a property. -/
def foldTo (p : Nat → Bool) : Nat → Int
  | 0 => 0
  | k + 1 => if p k = true then bits BinOp.or IntKind.u64 (foldTo p k) (2 ^ k) else foldTo p k
theorem isSet_fold (p : Nat → Bool) (k : Nat) (hk : k ≤ 64) : IsSet (foldTo p k) (fun h => decide (h < k) && p h) := by
  induction k with
  | zero => exact isSet_zero.congr fun h _ => by simp
  | succ k ih =>
    have ih := ih (by omega)
    unfold foldTo
    by_cases hp : p k = true
    · rw [if_pos hp]
      refine (ih.or (isSet_one (by omega))).congr fun h hh => ?_
      by_cases e : k = h
      · subst e; simp [hp]
      · have : h < k + 1 ↔ h < k := by omega
        simp [e, this]
    · rw [if_neg hp]
      refine ih.congr fun h hh => ?_
      by_cases e : h = k
      · subst e; simp [hp]
      · have : h < k + 1 ↔ h < k := by omega
        simp [this]
theorem isSet_fold64 (p : Nat → Bool) : IsSet (foldTo p 64) p := (isSet_fold p 64 (Nat.le_refl _)).congr fun h hh => by simp [hh]
theorem fold_match (s : ByteArray) : foldTo (okTo s 6) 64 = matchTo s 6 := (isSet_fold64 _).ext (isSet_match s 6 (Nat.le_refl _)) fun _ _ => rfl

/-- A pattern with a sign that may be any. -/
def OpenAt (s s' : ByteArray) (i : Nat) : Prop := byteAt s' i = 63 ∧ ∀ j, j < 6 → j ≠ i → byteAt s' j = byteAt s j
theorem open_ok {s s' : ByteArray} {i : Nat} (hi : i < 6) (ho : OpenAt s s' i) (hs : byteAt s i = 48 ∨ byteAt s i = 49) {h : Nat} (hh : h < 64) : okTo s' 6 h = (okTo s 6 h || okTo s 6 (flip h i)) := by
  obtain ⟨f1, f2, f3, -⟩ := all_flip i hi h hh
  have key : ∀ x, okTo s x = fun h => (List.range x).all (okL s h) := fun x => rfl
  rw [Bool.eq_iff_iff, Bool.or_eq_true, okTo_iff, okTo_iff, okTo_iff]
  have o1 : ∀ j, j < 6 → j ≠ i → okL s' h j = okL s h j := fun j hj e => by unfold okL; rw [ho.2 j hj e]
  have o2 : ∀ j, j < 6 → j ≠ i → okL s (flip h i) j = okL s h j := fun j hj e => by unfold okL; rw [f3 j hj, if_neg e]
  have o3 : okL s' h i = true := by unfold okL; rw [ho.1]; rfl
  have o4 : okL s h i = true ∨ okL s (flip h i) i = true := by
    unfold okL
    rw [f3 i hi, if_pos rfl]
    rcases hs with e | e <;> rw [e] <;> cases h.testBit i <;> simp
  constructor
  · intro H
    rcases o4 with o | o
    · refine .inl fun j hj => ?_
      by_cases e : j = i
      · subst e; exact o
      · rw [← o1 j hj e]; exact H j hj
    · refine .inr fun j hj => ?_
      by_cases e : j = i
      · subst e; exact o
      · rw [o2 j hj e, ← o1 j hj e]; exact H j hj
  · intro H j hj
    by_cases e : j = i
    · subst e; exact o3
    · rw [o1 j hj e]
      rcases H with H | H
      · exact H j hj
      · rw [← o2 j hj e]; exact H j hj
/-- Opened, a pattern lies in a set just if it did, and the turned one does. -/
theorem open_within {s s' : ByteArray} {i : Nat} (hi : i < 6) (ho : OpenAt s s' i) (hs : byteAt s i = 48 ∨ byteAt s i = 49) {set : Int} {q : Nat → Bool} (hq : IsSet set q) : withinB (matchTo s' 6) set = (withinB (matchTo s 6) set && withinB (turnedV (matchTo s 6) i) set) := by
  have m := isSet_match s 6 (Nat.le_refl _)
  rw [Bool.eq_iff_iff, Bool.and_eq_true, within_iff (isSet_match s' 6 (Nat.le_refl _)) hq, within_iff m hq, within_iff (isSet_turned m hi) hq]
  constructor
  · intro H
    refine ⟨fun h hh hp => H h hh (by rw [open_ok hi ho hs hh, hp]; rfl), fun h hh hp => H h hh (by rw [open_ok hi ho hs hh, hp, Bool.or_true])⟩
  · intro H h hh hp
    rw [open_ok hi ho hs hh, Bool.or_eq_true] at hp
    rcases hp with hp | hp
    · exact H.1 h hh hp
    · exact H.2 h hh hp
end Go.Proofs.YtdfdgeaohneeaaaGreatDoor
