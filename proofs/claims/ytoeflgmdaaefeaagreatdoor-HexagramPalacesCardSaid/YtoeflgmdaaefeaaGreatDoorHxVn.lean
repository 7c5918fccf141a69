/-
  Plain facts: a list of 64 numbers that has each number below 64 is sorted to 0 .. 63, and nothing of it goes when neighbours that are equal are struck.
-/
import Derived.Test.YtoeflgmdaaefeaaGreatDoorHxU
import Derived.Lib.SlicesCompact
namespace Go.Proofs.YtoeflgmdaaefeaaGreatDoor
open Go Go.RowKit
set_option linter.unusedVariables false

theorem mono_id {f : Nat → Nat} {n : Nat} (hm : ∀ i j, i < j → j < n → f i < f j) (hb : ∀ i, i < n → f i < n) : ∀ i, i < n → f i = i := by
  have lo : ∀ i, i < n → i ≤ f i := fun i => by
    induction i with
    | zero => intro _; omega
    | succ i ih =>
      intro h
      have h1 := ih (by omega)
      have h2 := hm i (i + 1) (by omega) h
      omega
  have hi : ∀ d i, i + d + 1 = n → f i ≤ i := fun d => by
    induction d with
    | zero =>
      intro i h
      have := hb i (by omega)
      omega
    | succ d ih =>
      intro i h
      have h1 := ih (i + 1) (by omega)
      have h2 := hm i (i + 1) (by omega) (by omega)
      omega
  intro i h
  have h1 := lo i h
  have h2 := hi (n - i - 1) i (by omega)
  omega
theorem sortL_perm (xs : List Int) : (sortL xs).Perm xs := List.mergeSort_perm xs _
theorem sortL_mono {xs : List Int} {i j : Nat} (hij : i ≤ j) (hj : j < xs.length) : nth (sortL xs) i ≤ nth (sortL xs) j := by
  have h := List.pairwise_mergeSort (le := fun x y : Int => decide (x ≤ y)) (fun a b c h1 h2 => by simp at *; omega) (fun a b => by simp; omega) xs
  by_cases e : i = j
  · subst e; exact Int.le_refl _
  have hl := sortL_length xs
  have := (List.pairwise_iff_getElem.1 h) i j (by unfold sortL at hl; omega) (by unfold sortL at hl; omega) (by omega)
  rw [nth_eq (by omega), nth_eq (by omega)]
  exact of_decide_eq_true this
theorem mem_nth {xs : List Int} {x : Int} (h : x ∈ xs) : ∃ i, i < xs.length ∧ nth xs i = x := by
  obtain ⟨i, hi, e⟩ := List.getElem_of_mem h
  exact ⟨i, hi, by rw [nth_eq hi]; exact e⟩
theorem sort_of_all {xs : List Int} {n : Nat} (hl : xs.length = n) (h : ∀ k : Nat, k < n → (k : Int) ∈ xs) : ∀ k, k < n → nth (sortL xs) k = k := by
  have hp : ∀ k : Nat, k < n → ∃ i, i < n ∧ nth (sortL xs) i = k := fun k hk => by
    obtain ⟨i, hi, e⟩ := mem_nth ((sortL_perm xs).mem_iff.2 (h k hk))
    exact ⟨i, by rw [sortL_length, hl] at hi; exact hi, e⟩
  obtain ⟨p, hpp⟩ : ∃ p : Nat → Nat, ∀ k, k < n → p k < n ∧ nth (sortL xs) (p k) = k := ⟨fun k => if hk : k < n then (hp k hk).choose else 0, fun k hk => by
    simp only [dif_pos hk]
    exact (hp k hk).choose_spec⟩
  have hid := mono_id (f := p) (n := n) (fun i j hij hj => by
    have h1 := hpp i (by omega)
    have h2 := hpp j hj
    by_cases hle : p j ≤ p i
    · have := sortL_mono (xs := xs) hle (by omega)
      omega
    · omega) (fun i hi => (hpp i hi).1)
  intro k hk
  have := (hpp k hk).2
  rwa [hid k hk] at this
theorem keeps_nth {s : List Int} {j : Nat} (hj : j < s.length) : Lib.keeps s.toArray j = true ↔ (j = 0 ∨ nth s j ≠ nth s (j - 1)) := by
  unfold Lib.keeps
  rw [decide_eq_true_iff]
  have e : ∀ i, i < s.length → s.toArray[i]! = nth s i := fun i hi => by
    rw [nth_eq hi, getElem!_pos s.toArray i (by simpa using hi)]
    simp
  rw [e j hj, e (j - 1) (by omega)]
theorem compact_len {s : List Int} : (Lib.compact s).length = s.length ↔ ∀ j, j < s.length → Lib.keeps s.toArray j = true := by
  constructor
  · intro h j hj
    unfold Lib.compact Lib.compactUpTo at h
    rw [List.length_map] at h
    have h2 : ((List.range s.length).filter (Lib.keeps s.toArray)).length = (List.range s.length).length := by rw [h, List.length_range]
    exact List.length_filter_eq_length_iff.1 h2 j (List.mem_range.2 hj)
  · intro h
    rw [Lib.compact_all s h]
/-- An order. -/
def Ord (xs : List Int) : Prop := ∀ k : Nat, k < 64 → (k : Int) ∈ xs
theorem ord_complete {xs : List Int} (hl : xs.length = 64) : Ord xs ↔ (∀ k, k < xs.length → 0 ≤ nth xs k ∧ nth xs k ≤ 63) ∧ (Lib.compact (sortL xs)).length = 64 := by
  have hsl : (sortL xs).length = 64 := by rw [sortL_length, hl]
  constructor
  · intro h
    have hs := sort_of_all hl h
    refine ⟨fun k hk => ?_, ?_⟩
    · have hm := (sortL_perm xs).mem_iff.2 (nth_mem hk)
      obtain ⟨i, hi, e⟩ := mem_nth hm
      have := hs i (by omega)
      omega
    · have := (compact_len (s := sortL xs)).2 fun j hj => (keeps_nth hj).2 (by
        by_cases h0 : j = 0
        · exact .inl h0
        · right
          rw [hs j (by omega), hs (j - 1) (by omega)]
          omega)
      rw [this, hsl]
  · rintro ⟨h1, h2⟩ k hk
    have hk2 := (compact_len (s := sortL xs)).1 (by rw [h2, hsl])
    have hb : ∀ i, i < 64 → 0 ≤ nth (sortL xs) i ∧ nth (sortL xs) i ≤ 63 := fun i hi => by
      have hm := (sortL_perm xs).mem_iff.1 (nth_mem (xs := sortL xs) (k := i) (by omega))
      obtain ⟨j, hj, e⟩ := mem_nth hm
      rw [← e]
      exact h1 j hj
    have hstep : ∀ i, i + 1 < 64 → nth (sortL xs) i < nth (sortL xs) (i + 1) := fun i hi => by
      have h3 := (keeps_nth (s := sortL xs) (j := i + 1) (by omega)).1 (hk2 (i + 1) (by omega))
      have h4 := sortL_mono (xs := xs) (show i ≤ i + 1 by omega) (by omega)
      rw [Nat.add_sub_cancel] at h3
      omega
    have hlt : ∀ d i, i + d + 1 < 64 → nth (sortL xs) i < nth (sortL xs) (i + d + 1) := fun d => by
      induction d with
      | zero => intro i hi; exact hstep i hi
      | succ d ih =>
        intro i hi
        have h5 := ih i (by omega)
        have h6 := hstep (i + d + 1) (by omega)
        rw [show i + (d + 1) + 1 = i + d + 1 + 1 by omega]
        omega
    have hid := mono_id (f := fun i => (nth (sortL xs) i).toNat) (n := 64) (fun i j hij hj => by
      have h7 := hlt (j - i - 1) i (by omega)
      rw [show i + (j - i - 1) + 1 = j by omega] at h7
      have := hb i (by omega)
      have := hb j hj
      show (nth (sortL xs) i).toNat < (nth (sortL xs) j).toNat
      omega) (fun i hi => by
      have := hb i hi
      show (nth (sortL xs) i).toNat < 64
      omega)
    have h8 := hid k hk
    have h9 := hb k hk
    have h10 : nth (sortL xs) k = k := by
      have h8' : (nth (sortL xs) k).toNat = k := h8
      omega
    have hm := (sortL_perm xs).mem_iff.1 (nth_mem (xs := sortL xs) (k := k) (by omega))
    rwa [h10] at hm
theorem idx_mem {xs : List Int} {x : Int} : 0 ≤ idxI xs x ↔ x ∈ xs := by
  constructor
  · intro h
    by_cases hm : x ∈ xs
    · exact hm
    · rw [idxI_none fun j hj e => hm (by rw [← e]; exact nth_mem hj)] at h
      omega
  · intro h
    obtain ⟨i, hi, e⟩ := mem_nth h
    by_cases h0 : ∃ k, k < xs.length ∧ (∀ j, j < k → nth xs j ≠ x) ∧ nth xs k = x
    · obtain ⟨k, hk, h1, h2⟩ := h0
      rw [idxI_at hk h1 h2]
      omega
    · exfalso
      have : ∀ n, n ≤ xs.length → ∀ j, j < n → nth xs j ≠ x := fun n => by
        induction n with
        | zero => intro _ j hj; omega
        | succ n ih =>
          intro hn j hj
          have h3 := ih (by omega)
          by_cases ej : j = n
          · subst ej
            exact fun e => h0 ⟨j, by omega, h3, e⟩
          · exact h3 j (by omega)
      exact this xs.length (Nat.le_refl _) i hi e
instance (xs : List Int) : Decidable (Ord xs) := by unfold Ord; infer_instance
/-- Whether a list is an order. -/
def ordB (xs : List Int) : Bool := decide (xs.length = 64) && decide (Ord xs)
end Go.Proofs.YtoeflgmdaaefeaaGreatDoor
