/-
  Plain facts: the numbers below 4096, six digits of base 4 each, are the casts: one for each pair of hexagrams.
-/
namespace Go.Proofs.YtdfdgeaohneeaaaGreatDoor.Wq

/-- Digit i of n. -/
def dig (n i : Nat) : Nat := n / 4 ^ i % 4
/-- The first hexagram of the cast n: line 6 + d is firm just if d is odd. -/
def fst (n : Nat) : Nat := dig n 0 % 2 + 2 * (dig n 1 % 2) + 4 * (dig n 2 % 2) + 8 * (dig n 3 % 2) + 16 * (dig n 4 % 2) + 32 * (dig n 5 % 2)
/-- The second one: line 6 + d is firm behind the change just if d is below 2. -/
def snd (n : Nat) : Nat := (1 - dig n 0 / 2) + 2 * (1 - dig n 1 / 2) + 4 * (1 - dig n 2 / 2) + 8 * (1 - dig n 3 / 2) + 16 * (1 - dig n 4 / 2) + 32 * (1 - dig n 5 / 2)
/-- The digit of a line that is a in the first hexagram and b in the second one. -/
def dg (a b : Nat) : Nat := a + 2 * (1 - b)
/-- The cast of two hexagrams. -/
def inv (a b : Nat) : Nat := dg (a % 2) (b % 2) + 4 * dg (a / 2 % 2) (b / 2 % 2) + 16 * dg (a / 4 % 2) (b / 4 % 2) + 64 * dg (a / 8 % 2) (b / 8 % 2) + 256 * dg (a / 16 % 2) (b / 16 % 2) + 1024 * dg (a / 32 % 2) (b / 32 % 2)
theorem all_of {P : Nat → Prop} (h : ∀ i j : Fin 64, P (64 * i.val + j.val)) {n : Nat} (hn : n < 4096) : P n := by
  have := h ⟨n / 64, by omega⟩ ⟨n % 64, by omega⟩
  simp only at this
  rwa [Nat.div_add_mod] at this
theorem inv_pair {n : Nat} (hn : n < 4096) : inv (fst n) (snd n) = n ∧ fst n < 64 ∧ snd n < 64 :=
  all_of (P := fun n => inv (fst n) (snd n) = n ∧ fst n < 64 ∧ snd n < 64) (by decide +kernel) hn
theorem pair_inv {p : Nat} (hp : p < 4096) : fst (inv (p / 64) (p % 64)) = p / 64 ∧ snd (inv (p / 64) (p % 64)) = p % 64 ∧ inv (p / 64) (p % 64) < 4096 :=
  all_of (P := fun p => fst (inv (p / 64) (p % 64)) = p / 64 ∧ snd (inv (p / 64) (p % 64)) = p % 64 ∧ inv (p / 64) (p % 64) < 4096) (by decide +kernel) hp
/-- The place of the cast n among the pairs. -/
def place (n : Nat) : Nat := 64 * fst n + snd n
theorem place_lt {n : Nat} (h : n < 4096) : place n < 4096 := by
  have := inv_pair h
  unfold place
  omega
theorem place_inj {n m : Nat} (hn : n < 4096) (hm : m < 4096) (h : place n = place m) : n = m := by
  have a := inv_pair hn
  have b := inv_pair hm
  unfold place at h
  have e1 : fst n = fst m := by omega
  have e2 : snd n = snd m := by omega
  rw [← a.1, ← b.1, e1, e2]
theorem place_onto {p : Nat} (hp : p < 4096) : ∃ n, n < 4096 ∧ place n = p := by
  have := pair_inv hp
  exact ⟨inv (p / 64) (p % 64), this.2.2, by unfold place; rw [this.1, this.2.1]; omega⟩
/-- The line of a digit is that of both hexagrams: 7, 8 where they are the same, 9, 6 where they are not. -/
theorem line_of {n : Nat} (hn : n < 4096) (i : Fin 6) : 6 + dig n i.val = if fst n / 2 ^ i.val % 2 = 1 then (if snd n / 2 ^ i.val % 2 = 1 then 7 else 9) else (if snd n / 2 ^ i.val % 2 = 1 then 6 else 8) :=
  all_of (P := fun n => ∀ i : Fin 6, 6 + dig n i.val = if fst n / 2 ^ i.val % 2 = 1 then (if snd n / 2 ^ i.val % 2 = 1 then 7 else 9) else (if snd n / 2 ^ i.val % 2 = 1 then 6 else 8)) (by decide +kernel) hn i
end Go.Proofs.YtdfdgeaohneeaaaGreatDoor.Wq
