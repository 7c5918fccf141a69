/-
  HabitDecks: the row and the register that the law makes: plain facts.
-/
import Derived.Test.YtahmhdjoaoldcaaHbAw
import Derived.Test.YtahmhdjoaoldcaaHbBa
namespace Go.Proofs.Ytahmhdjoaoldcaa
set_option linter.unusedVariables false

theorem nth_upto {f : Nat → Int} {n k : Nat} (h : k < n) : nth (upto f n) k = f k := by
  unfold nth upto
  simp [List.getD, h]
theorem nth_upto_out {f : Nat → Int} {n k : Nat} (h : ¬ k < n) : nth (upto f n) k = 0 := by
  unfold nth upto
  rw [List.getD_eq_getElem?_getD, List.getElem?_eq_none (by simp; omega)]
  rfl
theorem lsum_upto_succ (f : Nat → Int) (k : Nat) : lsum (upto f (k + 1)) = lsum (upto f k) + f k := by
  rw [upto_succ]; simp [lsum]
theorem anyB_out {xs : List Int} {lo hi : Int} (h : ∀ k, k < xs.length → lo ≤ nth xs k ∧ nth xs k ≤ hi) : anyB (outB lo hi) xs = false :=
  anyB_false fun i hi => by
    have := h i hi
    simp [outB]
    omega
/-- The rests of some bytes. -/
def restF (xs : List Int) (d : Int) (k : Nat) : Int := nth xs k % d
theorem restF_bd {xs : List Int} {d : Int} (hd : 1 ≤ d) (k : Nat) : 0 ≤ restF xs d k ∧ restF xs d k ≤ d - 1 := by
  unfold restF
  have h1 := Int.emod_nonneg (nth xs k) (show d ≠ 0 by omega)
  have h2 := Int.emod_lt_of_pos (nth xs k) (show 0 < d by omega)
  omega
theorem row_bd (xs : List Int) (n k : Nat) : 0 ≤ nth (upto (restF xs 9) n) k ∧ nth (upto (restF xs 9) n) k ≤ 8 := by
  by_cases h : k < n
  · rw [nth_upto h]; have := restF_bd (xs := xs) (d := 9) (by omega) k; omega
  · rw [nth_upto_out h]; omega
theorem row_sum (xs : List Int) (k : Nat) : 0 ≤ lsum (upto (restF xs 9) k) ∧ lsum (upto (restF xs 9) k) ≤ 8 * k := by
  induction k with
  | zero => simp [upto, lsum]
  | succ k ih =>
    rw [lsum_upto_succ]
    have := restF_bd (xs := xs) (d := 9) (by omega) k
    omega
theorem row_chk {xs : List Int} {n : Nat} (hn : n ≤ 8) (h : 1 ≤ lsum (upto (restF xs 9) n)) : chk1 (upto (restF xs 9) n) = 0 := by
  unfold chk1
  rw [if_neg (by rw [upto_length]; omega), if_neg]
  rintro (h1 | h1)
  · rw [anyB_out (fun k _ => by have := row_bd xs n k; omega)] at h1
    cases h1
  · have := (row_sum xs n).2
    simp [outB] at h1
    omega
theorem row_any (xs : List Int) (n : Nat) : anyB (outB 0 1000) (upto (restF xs 9) n) = false :=
  anyB_out fun k _ => by have := row_bd xs n k; omega
theorem reg_in {xs : List Int} {m n : Nat} (hm : 1 ≤ m) : InReg (upto (restF xs (m : Int)) n) m := fun k hk => by
  rw [upto_length] at hk
  rw [nth_upto hk]
  have := restF_bd (xs := xs) (d := (m : Int)) (by omega) k
  omega
theorem reg_E {xs : List Int} {m n : Nat} (hm : 1 ≤ m) (hn : n ≤ 400) : regE (upto (restF xs (m : Int)) n) m = 0 := by
  unfold regE
  rw [if_neg (by rw [upto_length]; omega), anyB_out, if_neg (by simp)]
  intro k hk
  have := reg_in (xs := xs) (n := n) hm k hk
  omega
end Go.Proofs.Ytahmhdjoaoldcaa
