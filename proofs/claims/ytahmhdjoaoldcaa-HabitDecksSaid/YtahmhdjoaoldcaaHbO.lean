/-
  HabitDecks: a deck excludes no cast just if it has as many cards as are needed: plain facts.
-/
import Derived.Test.YtahmhdjoaoldcaaHbK
namespace Go.Proofs.Ytahmhdjoaoldcaa
set_option linter.unusedVariables false

/-- How often k occurs from place s on, ahead of place e. -/
def cntB (xs : List Int) (s : Nat) : Nat → Int → Nat
  | 0, _ => 0
  | e + 1, k => cntB xs s e k + if s ≤ e ∧ nth xs e = k then 1 else 0
theorem cntB_empty (xs : List Int) (s e : Nat) (k : Int) (h : e ≤ s) : cntB xs s e k = 0 := by
  induction e with
  | zero => rfl
  | succ e ih => rw [cntB, ih (by omega), if_neg (by omega)]
theorem cntB_le (xs : List Int) (s e : Nat) (k : Int) : cntB xs s e k ≤ e - s := by
  induction e with
  | zero => simp [cntB]
  | succ e ih =>
    rw [cntB]
    split <;> omega
theorem cntB_mono (xs : List Int) (s : Nat) (k : Int) {e e' : Nat} (h : e ≤ e') : cntB xs s e k ≤ cntB xs s e' k := by
  induction e' with
  | zero => have : e = 0 := by omega
            subst this; exact Nat.le_refl _
  | succ j ih =>
    by_cases he : e = j + 1
    · subst he; exact Nat.le_refl _
    · rw [cntB]
      have := ih (by omega)
      omega
/-- How many of each outcome lie aside ahead of a cast. -/
def drawnTo (xs : List Int) (n : Nat) : Nat → List Int
  | 0 => List.replicate 32 0
  | i + 1 => if i % n + 1 = n then List.replicate 32 0 else incL (drawnTo xs n i) (nth xs i).toNat
theorem drawnTo_len (xs : List Int) (n i : Nat) : (drawnTo xs n i).length = 32 := by
  induction i with
  | zero => simp [drawnTo]
  | succ i ih =>
    rw [drawnTo]
    split
    · simp
    · rw [incL_len, ih]
theorem mod_next {n i : Nat} (hn : 1 ≤ n) : (i + 1) % n = if i % n + 1 = n then 0 else i % n + 1 := by
  have h1 := Nat.mod_lt i (show n > 0 by omega)
  have h2 := Nat.div_add_mod i n
  split
  · rename_i h
    have : i + 1 = n * (i / n) + n := by omega
    rw [this, Nat.add_mod_right, Nat.mul_mod_right]
  · rename_i h
    have : i + 1 = (i % n + 1) + n * (i / n) := by omega
    rw [this, Nat.add_mul_mod_self_left, Nat.mod_eq_of_lt (by omega)]
theorem drawnTo_nth {xs : List Int} {m : Nat} (hr : InReg xs m) (hm : m ≤ 32) {n : Nat} (hn : 1 ≤ n) (i : Nat) (hi : i ≤ xs.length) (k : Nat) (hk : k < 32) : nth (drawnTo xs n i) k = (cntB xs (i - i % n) i k : Int) := by
  induction i with
  | zero => rw [drawnTo, rep_nth]; rfl
  | succ i ih =>
    have ih := ih (by omega)
    have hx := hr i (by omega)
    have h1 := Nat.mod_le i n
    have e := mod_next (i := i) hn
    rw [drawnTo]
    split
    · rename_i h
      rw [if_pos h] at e
      rw [rep_nth, e, cntB_empty _ _ _ _ (by omega)]
      rfl
    · rename_i h
      rw [if_neg h] at e
      have e2 : i + 1 - (i + 1) % n = i - i % n := by omega
      rw [e2, cntB, incL_nth _ (by rw [drawnTo_len]; omega)]
      by_cases hc : k = (nth xs i).toNat
      · rw [if_pos hc, if_pos ⟨by omega, by omega⟩, ← hc, ih]
        omega
      · rw [if_neg hc, if_neg (by omega), ih]
        omega
theorem drawnTo_bd {xs : List Int} {m : Nat} (hr : InReg xs m) (hm : m ≤ 32) {n : Nat} (hn : 1 ≤ n) (i : Nat) (hi : i ≤ xs.length) (k : Nat) (hk : k < 32) : 0 ≤ nth (drawnTo xs n i) k ∧ nth (drawnTo xs n i) k ≤ i := by
  rw [drawnTo_nth hr hm hn i hi k hk]
  have := cntB_le xs (i - i % n) i k
  omega
theorem cntTo_piece {xs : List Int} {m : Nat} (hr : InReg xs m) (a s : Nat) (j : Nat) (hj : j ≤ (pieceL xs a s).length) (k : Nat) (hk : k < m) : nth (cntTo (pieceL xs a s) m j) k = (cntB xs s (s + j) k : Int) := by
  induction j with
  | zero => rw [cntTo, rep_nth, cntB_empty _ _ _ _ (by omega)]; rfl
  | succ j ih =>
    have ih := ih (by omega)
    have h1 := pieceL_len xs a s
    have e := pieceL_nth xs a s j (by omega)
    have hx := hr (s + j) (by omega)
    rw [cntTo, incL_nth _ (by rw [cntTo_len, e]; omega), e, ← Nat.add_assoc, cntB]
    by_cases hc : k = (nth xs (s + j)).toNat
    · rw [if_pos hc, if_pos ⟨by omega, by omega⟩, ← hc, ih]
      omega
    · rw [if_neg hc, if_neg (by omega), ih]
      omega
theorem maxTo_nth {ys zs : List Int} (k j : Nat) (hj : j < k) (hy : j < ys.length) : nth (maxTo ys zs k) j = max (nth ys j) (nth zs j) := by
  induction k with
  | zero => omega
  | succ k ih =>
    rw [maxTo]
    by_cases e : j = k
    · subst e
      unfold nth
      rw [List.getD_eq_getElem?_getD, List.getElem?_set_self (by rw [maxTo_len]; exact hy)]
      rfl
    · have := ih (by omega)
      unfold nth at *
      rw [List.getD_eq_getElem?_getD, List.getElem?_set_ne (by omega), ← List.getD_eq_getElem?_getD]
      exact this
theorem needTo_le {xs : List Int} {m : Nat} (hr : InReg xs m) (a c : Nat) (k : Nat) (hk : k < m) (R : Int) (hR : 0 ≤ R) :
    nth (needTo xs m a c) k ≤ R ↔ ∀ c', c' < c → (cntB xs (c' * a) (c' * a + min a (xs.length - c' * a)) k : Int) ≤ R := by
  induction c with
  | zero => rw [needTo, rep_nth]; exact ⟨fun _ c' h => by omega, fun _ => hR⟩
  | succ c ih =>
    have h1 := pieceL_len xs a (c * a)
    rw [needTo, maxTo_nth _ _ hk (by rw [needTo_len]; exact hk), cntTo_piece hr a (c * a) _ (Nat.le_refl _) k hk, h1]
    constructor
    · intro h c' hc'
      by_cases e : c' = c
      · subst e; omega
      · exact ih.1 (by omega) c' (by omega)
    · intro h
      have h2 := ih.2 fun c' hc' => h c' (by omega)
      have h3 := h c (by omega)
      omega
/-- A deck excludes no cast just if it has as many cards of each outcome as are needed. -/
theorem deck_need {xs row : List Int} {m : Nat} (hr : InReg xs m) (hm : m ≤ 32) {n : Nat} (hn : 1 ≤ n) (hrow : ∀ k, k < m → 0 ≤ nth row k) :
    (∀ i, i < xs.length → nth (drawnTo xs n i) (nth xs i).toNat < nth row (nth xs i).toNat) ↔ ∀ k, k < m → nth (needTo xs m n (manyP xs.length n)) k ≤ nth row k := by
  constructor
  · intro h k hk
    rw [needTo_le hr n _ k hk _ (hrow k hk)]
    intro c hc
    have hcl := (manyP_lt hn).1 hc
    have key : ∀ j, j ≤ min n (xs.length - c * n) → (cntB xs (c * n) (c * n + j) k : Int) ≤ nth row k := by
      intro j
      induction j with
      | zero => intro _; rw [cntB_empty _ _ _ _ (by omega)]; exact hrow k hk
      | succ j ih =>
        intro hj
        have ih := ih (by omega)
        rw [← Nat.add_assoc, cntB]
        by_cases e : nth xs (c * n + j) = k
        · rw [if_pos ⟨by omega, e⟩]
          have h1 := h (c * n + j) (by omega)
          have h2 : (nth xs (c * n + j)).toNat = k := by omega
          have h3 : (c * n + j) % n = j := by rw [Nat.add_comm, Nat.mul_comm, Nat.add_mul_mod_self_left, Nat.mod_eq_of_lt (by omega)]
          rw [h2, drawnTo_nth hr hm hn _ (by omega) k (by omega), h3, show c * n + j - j = c * n by omega] at h1
          omega
        · rw [if_neg (by omega)]
          exact ih
    exact key _ (Nat.le_refl _)
  · intro h i hi
    have hx := hr i hi
    obtain ⟨k, hk⟩ : ∃ k : Nat, nth xs i = k := ⟨(nth xs i).toNat, by omega⟩
    have h2 : (nth xs i).toNat = k := by omega
    have hkm : k < m := by omega
    rw [h2, drawnTo_nth hr hm hn i (by omega) k (by omega)]
    have hd := Nat.div_add_mod i n
    have hml := Nat.mod_lt i (show n > 0 by omega)
    have hcn : n * (i / n) = i / n * n := Nat.mul_comm _ _
    have hc : i / n < manyP xs.length n := (manyP_lt hn).2 (by omega)
    have h3 := (needTo_le hr n _ k hkm _ (hrow k hkm)).1 (h k hkm) (i / n) hc
    have h4 : i - i % n = i / n * n := by omega
    rw [h4]
    have h5 : cntB xs (i / n * n) (i + 1) k = cntB xs (i / n * n) i k + 1 := by rw [cntB, if_pos ⟨by omega, hk⟩]
    have h6 := cntB_mono xs (i / n * n) k (e := i + 1) (e' := i / n * n + min n (xs.length - i / n * n)) (by omega)
    omega
end Go.Proofs.Ytahmhdjoaoldcaa
