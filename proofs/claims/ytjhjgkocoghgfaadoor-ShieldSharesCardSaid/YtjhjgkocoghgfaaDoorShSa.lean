/-
  Plain facts on counts of charts: the first one is one; four sets at a place add up; how many charts a judge has.
-/
import Derived.Test.YtjhjgkocoghgfaaDoorShCn
import Derived.Test.YtjhjgkocoghgfaaDoorShMa
namespace Go.Proofs.YtjhjgkocoghgfaaDoor
open Go Go.RowKit
set_option linter.unusedVariables false

theorem cnt_first {S : List Int} {k : Nat} (h : cntN S (upto id k) ≠ 0) : ∃ x, x < k ∧ cntF S (upto id k) = nibs x ∧ insC S x = true := by
  unfold cntN cntF at *
  cases e : (upto id k).filter (insC S) with
  | nil => rw [e] at h; exact absurd rfl h
  | cons x r =>
    have hm : x ∈ (upto id k).filter (insC S) := by rw [e]; simp
    rw [List.mem_filter] at hm
    refine ⟨x, ?_, rfl, hm.2⟩
    have := hm.1
    unfold upto at this
    simpa using this

/-- Whether a figure is of a set. -/
def inV (v f : Int) : Bool := !(bits BinOp.and IntKind.i64 (v / 2 ^ f.toNat) 1 == 0)
theorem inB_eq (S s : List Int) (i : Nat) : inB S s i = inV (nth S i) (nth s i) := rfl
theorem insB_iff (S s : List Int) : insB S s = true ↔ ∀ i, i < 16 → inB S s i = true := by
  unfold insB
  rw [List.all_eq_true]
  exact ⟨fun h i hi => h i (by simpa using hi), fun h i hi => h i (by simpa using hi)⟩
/-- All places but one. -/
def restB (S s : List Int) (a : Nat) : Bool := (List.range 16).all fun i => i == a || inB S s i
theorem restB_iff (S s : List Int) (a : Nat) : restB S s a = true ↔ ∀ i, i < 16 → i ≠ a → inB S s i = true := by
  unfold restB
  rw [List.all_eq_true]
  constructor
  · intro h i hi hne
    have := h i (by simpa using hi)
    simpa [hne] using this
  · intro h i hi
    by_cases e : i = a
    · simp [e]
    · simp [h i (by simpa using hi) e]
theorem insB_set {S s : List Int} (hS : S.length = 16) {a : Nat} (ha : a < 16) (v : Int) : insB (S.set a v) s = (restB S s a && inV v (nth s a)) := by
  rw [Bool.eq_iff_iff, Bool.and_eq_true, insB_iff, restB_iff]
  constructor
  · intro h
    refine ⟨fun i hi hne => ?_, ?_⟩
    · have := h i hi
      rw [inB_eq, nth_set (by omega), if_neg (by omega)] at this
      exact this
    · have := h a ha
      rw [inB_eq, nth_set (by omega), if_pos rfl] at this
      exact this
  · rintro ⟨h1, h2⟩ i hi
    rw [inB_eq, nth_set (by omega)]
    by_cases e : i = a
    · subst e; rw [if_pos rfl]; exact h2
    · rw [if_neg (by omega)]; exact h1 i hi e
theorem four_sets : ∀ f : Fin 16, inV 65535 f.val = true ∧ (if inV 15 f.val = true then 1 else 0) + (if inV 240 f.val = true then 1 else 0) + (if inV 3840 f.val = true then 1 else 0) + (if inV 61440 f.val = true then 1 else 0) = 1 := by decide +kernel
theorem cnt_sum {S : List Int} (hS : S.length = 16) {a : Nat} (ha : a < 16) (pre : List Nat) :
    cntN (S.set a 15) pre + cntN (S.set a 240) pre + cntN (S.set a 3840) pre + cntN (S.set a 61440) pre = cntN (S.set a 65535) pre := by
  induction pre with
  | nil => rfl
  | cons x r ih =>
    have hf : Fig (nth (chV x) a) := by
      have hd : Figs (chV x) := dP_figs rfl fun k hk => by
        have e : k = 0 ∨ k = 1 ∨ k = 2 ∨ k = 3 := by omega
        rcases e with rfl | rfl | rfl | rfl
        · show Fig ((x : Int) / 4096 % 16); exact ⟨by omega, by omega⟩
        · show Fig ((x : Int) / 256 % 16); exact ⟨by omega, by omega⟩
        · show Fig ((x : Int) / 16 % 16); exact ⟨by omega, by omega⟩
        · show Fig ((x : Int) % 16); exact ⟨by omega, by omega⟩
      exact hd a ha
    have key := figs1 (P := fun f => inV 65535 f = true ∧ (if inV 15 f = true then 1 else 0) + (if inV 240 f = true then 1 else 0) + (if inV 3840 f = true then 1 else 0) + (if inV 61440 f = true then 1 else 0) = 1) four_sets hf
    obtain ⟨k1, k2⟩ := key
    have st : ∀ v, cntN (S.set a v) (x :: r) = (if (restB S (chV x) a && inV v (nth (chV x) a)) = true then 1 else 0) + cntN (S.set a v) r := fun v => by
      unfold cntN insC
      rw [List.filter_cons, insB_set hS ha]
      split <;> simp <;> omega
    rw [st, st, st, st, st]
    cases restB S (chV x) a
    · simp; omega
    · simp only [Bool.true_and]
      rw [k1, if_pos rfl]
      omega
end Go.Proofs.YtjhjgkocoghgfaaDoor
