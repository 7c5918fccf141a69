/-
  Lists to which numbers are added place by place: what stands there in the end, in whatever order the numbers come.
-/
import Derived.Test.YtdfdgeaohneeaaaGreatDoorLib
namespace Go.Proofs.YtdfdgeaohneeaaaGreatDoor
open Go.RowKit
set_option linter.unusedVariables false

/-- F i is added at the place pl i, for the first m. -/
def scatter (F : Nat → Int) (pl : Nat → Nat) (n : Nat) : Nat → List Int
  | 0 => List.replicate n 0
  | m + 1 => (scatter F pl n m).set (pl m) (nth (scatter F pl n m) (pl m) + F m)
theorem scatter_length (F : Nat → Int) (pl : Nat → Nat) (n m : Nat) : (scatter F pl n m).length = n := by
  induction m with
  | zero => simp [scatter]
  | succ m ih => simp [scatter, ih]
/-- What is added at one place. -/
def at1 (F : Nat → Int) (pl : Nat → Nat) (p : Nat) : Nat → Int
  | 0 => 0
  | m + 1 => at1 F pl p m + if pl m = p then F m else 0
theorem scatter_nth {F : Nat → Int} {pl : Nat → Nat} {n m p : Nat} (hp : p < n) (h : ∀ i, i < m → pl i < n) : nth (scatter F pl n m) p = at1 F pl p m := by
  induction m with
  | zero =>
    simp only [scatter, at1]
    rw [nth_eq (by simpa using hp)]; simp
  | succ m ih =>
    have h1 := ih fun i hi => h i (by omega)
    simp only [scatter, at1]
    rw [nth_set (by rw [scatter_length]; exact h m (by omega))]
    by_cases e : pl m = p
    · rw [if_pos e, if_pos e, e, h1]
    · rw [if_neg e, if_neg e, h1, Int.add_zero]
theorem at1_none {F : Nat → Int} {pl : Nat → Nat} {p m : Nat} (h : ∀ i, i < m → pl i ≠ p) : at1 F pl p m = 0 := by
  induction m with
  | zero => rfl
  | succ m ih => simp only [at1]; rw [ih fun i hi => h i (by omega), if_neg (h m (by omega)), Int.add_zero]
theorem at1_one {F : Nat → Int} {pl : Nat → Nat} {p m k : Nat} (hk : k < m) (e : pl k = p) (h : ∀ i, i < m → pl i = p → i = k) : at1 F pl p m = F k := by
  induction m with
  | zero => omega
  | succ m ih =>
    simp only [at1]
    by_cases hkm : k = m
    · subst hkm
      rw [at1_none fun i hi he => by have := h i (by omega) he; omega, if_pos e, Int.zero_add]
    · rw [ih (by omega) fun i hi he => h i (by omega) he, if_neg fun he => hkm (h m (by omega) he).symm, Int.add_zero]
/-- Numbers that come each to a place of its own, in two orders. -/
theorem scatter_same {F G : Nat → Int} {a b : Nat → Nat} {n : Nat} (ha : ∀ i, i < n → a i < n) (hb : ∀ i, i < n → b i < n) (ia : ∀ i j, i < n → j < n → a i = a j → i = j) (ib : ∀ i j, i < n → j < n → b i = b j → i = j)
    (oa : ∀ p, p < n → ∃ i, i < n ∧ a i = p) (ob : ∀ p, p < n → ∃ i, i < n ∧ b i = p) (h : ∀ i j, i < n → j < n → a i = b j → F i = G j) : scatter F a n n = scatter G b n n := by
  refine List.ext_getElem (by rw [scatter_length, scatter_length]) fun p h1 h2 => ?_
  have hp : p < n := by rwa [scatter_length] at h1
  obtain ⟨i, hi, ei⟩ := oa p hp
  obtain ⟨j, hj, ej⟩ := ob p hp
  rw [← nth_eq h1, ← nth_eq h2, scatter_nth hp ha, scatter_nth hp hb, at1_one hi ei fun k hk e => ia k i hk hi (e.trans ei.symm), at1_one hj ej fun k hk e => ib k j hk hj (e.trans ej.symm)]
  exact h i j hi hj (ei.trans ej.symm)
/-- Numbers that are added in the same order. -/
theorem scatter_congr {F G : Nat → Int} {a b : Nat → Nat} {n m : Nat} (h : ∀ i, i < m → F i = G i) (k : ∀ i, i < m → a i = b i) : scatter F a n m = scatter G b n m := by
  induction m with
  | zero => rfl
  | succ m ih => simp only [scatter]; rw [ih (fun i hi => h i (by omega)) fun i hi => k i (by omega), h m (by omega), k m (by omega)]
end Go.Proofs.YtdfdgeaohneeaaaGreatDoor
