/-
  Package habit: Need; the reference's Need: plain facts.
-/
import Derived.Test.YtahmhdjoaoldcaaHbB
namespace Go.Proofs.Ytahmhdjoaoldcaa
set_option linter.unusedVariables false

/-- The piece of a list that begins with a place. -/
def pieceL (xs : List Int) (a s : Nat) : List Int := (xs.drop s).take a
theorem pieceL_len (xs : List Int) (a s : Nat) : (pieceL xs a s).length = min a (xs.length - s) := by simp [pieceL]
theorem pieceL_nth (xs : List Int) (a s k : Nat) (h : k < (pieceL xs a s).length) : nth (pieceL xs a s) k = nth xs (s + k) := by
  have h1 : k < a ∧ k < xs.length - s := by rw [pieceL_len] at h; omega
  unfold nth pieceL
  rw [List.getD_eq_getElem?_getD, List.getD_eq_getElem?_getD, List.getElem?_take, if_pos h1.1, List.getElem?_drop]
/-- The greater ones of two lists, place by place, of the first k. -/
def maxTo (ys zs : List Int) : Nat → List Int
  | 0 => ys
  | k + 1 => (maxTo ys zs k).set k (max (nth ys k) (nth zs k))
theorem maxTo_len (ys zs : List Int) (k : Nat) : (maxTo ys zs k).length = ys.length := by
  induction k with
  | zero => rfl
  | succ k ih => simp [maxTo, ih]
theorem maxTo_ahead (ys zs : List Int) (k j : Nat) (hj : k ≤ j) : nth (maxTo ys zs k) j = nth ys j := by
  induction k with
  | zero => rfl
  | succ k ih =>
    rw [maxTo]
    unfold nth at *
    rw [List.getD_eq_getElem?_getD, List.getElem?_set_ne (by omega), ← List.getD_eq_getElem?_getD]
    exact ih (by omega)
/-- What is needed when so many pieces have been looked at. -/
def needTo (xs : List Int) (m a : Nat) : Nat → List Int
  | 0 => List.replicate m 0
  | c + 1 => maxTo (needTo xs m a c) (cntTo (pieceL xs a (c * a)) m (pieceL xs a (c * a)).length) m
theorem needTo_len (xs : List Int) (m a c : Nat) : (needTo xs m a c).length = m := by
  induction c with
  | zero => simp [needTo]
  | succ c ih => rw [needTo, maxTo_len, ih]
theorem maxTo_bd {ys zs : List Int} {B : Int} (h1 : ∀ j, 0 ≤ nth ys j ∧ nth ys j ≤ B) (h2 : ∀ j, 0 ≤ nth zs j ∧ nth zs j ≤ B) (k j : Nat) : 0 ≤ nth (maxTo ys zs k) j ∧ nth (maxTo ys zs k) j ≤ B := by
  induction k with
  | zero => exact h1 j
  | succ k ih =>
    rw [maxTo]
    unfold nth at *
    rw [List.getD_eq_getElem?_getD, List.getElem?_set]
    split
    · split
      · have := h1 k
        have := h2 k
        simp only [Option.getD_some]
        omega
      · have := h1 0; simp; omega
    · rw [← List.getD_eq_getElem?_getD]; exact ih
theorem needTo_bd (xs : List Int) (m a c : Nat) (j : Nat) : 0 ≤ nth (needTo xs m a c) j ∧ nth (needTo xs m a c) j ≤ xs.length := by
  induction c generalizing j with
  | zero => rw [needTo, rep_nth]; omega
  | succ c ih =>
    rw [needTo]
    refine maxTo_bd (fun j => ih j) (fun j => ?_) m j
    have := cntTo_bd (pieceL xs a (c * a)) m (pieceL xs a (c * a)).length j
    have h2 := pieceL_len xs a (c * a)
    omega
theorem piece_in {xs : List Int} {m a s : Nat} (h : InReg xs m) : InReg (pieceL xs a s) m := fun k hk => by
  rw [pieceL_nth xs a s k hk]
  have h1 := pieceL_len xs a s
  exact h _ (by omega)
theorem piece_reads {w : Go.World} {q o : Nat} {xs : List Int} (a s : Nat) (h : Reads w (some ⟨q, o, none⟩) xs) : Reads w (some ⟨q, o + s, none⟩) (pieceL xs a s) := fun k hk => by
  have h1 := pieceL_len xs a s
  obtain ⟨q', o', e, hc⟩ := h (s + k) (by omega)
  cases e
  exact ⟨q, o + s, rfl, by rw [pieceL_nth xs a s k hk, Nat.add_assoc]; exact hc⟩
end Go.Proofs.Ytahmhdjoaoldcaa
