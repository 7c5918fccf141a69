/-
  HabitDecks: no chance is 0 just if the deck has the cards that are needed: plain facts.
-/
import Derived.Test.YtahmhdjoaoldcaaHbAu
namespace Go.Proofs.Ytahmhdjoaoldcaa
set_option linter.unusedVariables false

theorem c1C_zero (row xs : List Int) (S : Int) (n0 k : Nat) (hn0 : 1 ≤ n0) (hS : (n0 : Int) ≤ S) : c1C row xs S n0 k ≠ 0 ↔ nth (drawnTo xs n0 k) (nth xs k).toNat < nth row (nth xs k).toNat := by
  have hml := Nat.mod_lt k (show n0 > 0 by omega)
  have hT : 1 ≤ S - ((k % n0 : Nat) : Int) := by omega
  have hg := gcd_pos (a := upC row xs n0 k) hT
  have hd : (Int.gcd (upC row xs n0 k) (S - ((k % n0 : Nat) : Int)) : Int) ∣ upC row xs n0 k := Int.gcd_dvd_left ..
  have hu : c1C row xs S n0 k * (Int.gcd (upC row xs n0 k) (S - ((k % n0 : Nat) : Int)) : Int) = upC row xs n0 k := Int.ediv_mul_cancel hd
  have h1 : c1C row xs S n0 k = 0 ↔ upC row xs n0 k = 0 := by
    constructor
    · intro h; rw [← hu, h, Int.zero_mul]
    · intro h
      unfold c1C
      rw [h, Int.zero_ediv]
  have h2 : upC row xs n0 k = 0 ↔ ¬ nth (drawnTo xs n0 k) (nth xs k).toNat < nth row (nth xs k).toNat := by
    unfold upC
    omega
  rw [ne_eq, h1, h2, Decidable.not_not]
theorem decks_agree {xs row : List Int} {m nl n0 : Nat} {S : Int} (hxl : xs.length = nl) (hr : InReg xs m) (hm : m ≤ 32) (hn0 : 1 ≤ n0) (hS : (n0 : Int) ≤ S) (hrow : ∀ k, k < m → 0 ≤ nth row k) :
    (∀ k, k < nl → c1C row xs S n0 k ≠ 0) ↔ ∀ k, k < m → nth (needTo xs m n0 (manyP nl n0)) k ≤ nth row k := by
  subst hxl
  rw [← deck_need hr hm hn0 hrow]
  exact ⟨fun h i hi => (c1C_zero row xs S n0 i hn0 hS).1 (h i hi), fun h i hi => (c1C_zero row xs S n0 i hn0 hS).2 (h i hi)⟩
end Go.Proofs.Ytahmhdjoaoldcaa
