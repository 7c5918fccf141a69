/-
  Sets of hexagrams: bits of numbers of 64 bits.
-/
import Derived.Test.YtojlopfjhhiilaaGreatDoorHxE
import Derived.Laws.BitsLemmas
namespace Go.Proofs.YtojlopfjhhiilaaGreatDoor
open Go Go.RowKit
set_option linter.unusedVariables false

theorem u64_wrap {x : Int} (h0 : 0 ≤ x) (h1 : x < 18446744073709551616) : IntKind.u64.wrap x = x := by
  simp [IntKind.wrap, IntKind.bits, IntKind.signed]
  omega
theorem u64_and (a b : Nat) (ha : a < 2 ^ 64) (hb : b < 2 ^ 64) : bits .and .u64 a b = ((a &&& b : Nat) : Int) :=
  (bits_nat .u64 64 (by decide) (fun n h0 h1 => u64_wrap h0 (by simpa using h1)) a b ha hb).1
theorem u64_or (a b : Nat) (ha : a < 2 ^ 64) (hb : b < 2 ^ 64) : bits .or .u64 a b = ((a ||| b : Nat) : Int) :=
  (bits_nat .u64 64 (by decide) (fun n h0 h1 => u64_wrap h0 (by simpa using h1)) a b ha hb).2
theorem u64_andNot (a b : Nat) (ha : a < 2 ^ 64) (hb : b < 2 ^ 64) : bits .andNot .u64 a b = ((a &&& (2 ^ 64 - 1 - b) : Nat) : Int) := by
  have ha' : a % 2 ^ 64 = a := Nat.mod_eq_of_lt ha
  have hb' : b % 2 ^ 64 = b := Nat.mod_eq_of_lt hb
  have e : (BitVec.ofNat 64 a &&& ~~~(BitVec.ofNat 64 b)).toNat = a &&& (2 ^ 64 - 1 - b) := by
    rw [BitVec.toNat_and, BitVec.toNat_not, BitVec.toNat_ofNat, BitVec.toNat_ofNat, ha', hb']
  simp only [bits, BitVec.ofInt_natCast]
  show IntKind.u64.wrap (((BitVec.ofNat 64 a &&& ~~~(BitVec.ofNat 64 b)).toNat : Nat) : Int) = _
  rw [e]
  have : a &&& (2 ^ 64 - 1 - b) < 2 ^ 64 := Nat.lt_of_le_of_lt Nat.and_le_left ha
  exact u64_wrap (by omega) (by omega)

theorem pow_lt {n : Nat} (h : n < 64) : (2 : Int) ^ n < 18446744073709551616 := by
  have h2 : 2 ^ n < 2 ^ 64 := Nat.pow_lt_pow_right (by decide) h
  have e : ((2 : Int) ^ n) = ((2 ^ n : Nat) : Int) := by simp
  rw [e]
  have h3 : 2 ^ n < 18446744073709551616 := h2
  omega
theorem u64_pow {n : Nat} (h : n < 64) : IntKind.u64.wrap ((2 : Int) ^ n) = 2 ^ n :=
  u64_wrap (Int.pow_nonneg (by decide)) (pow_lt h)
theorem in_ref {s h : Nat} (hs : s < 2 ^ 64) : (bits BinOp.and IntKind.u64 ((s : Int) / 2 ^ h) 1 == 1) = s.testBit h := by
  have e : ((s : Int) / 2 ^ h) = ((s / 2 ^ h : Nat) : Int) := by simp
  have e1 : (1 : Int) = ((1 : Nat) : Int) := rfl
  rw [e, e1, u64_and _ _ (Nat.lt_of_le_of_lt (Nat.div_le_self _ _) hs) (by decide), Nat.testBit_eq_decide_div_mod_eq, Nat.and_one_is_mod]
  by_cases hq : s / 2 ^ h % 2 = 1
  · simp [hq]
  · have : s / 2 ^ h % 2 = 0 := by omega
    simp [this]
theorem in_code {s h : Nat} (hs : s < 2 ^ 64) (hh : h < 64) : (bits BinOp.andNot IntKind.u64 (2 ^ h) (s : Int) == 0) = s.testBit h := by
  have e : ((2 : Int) ^ h) = ((2 ^ h : Nat) : Int) := by simp
  have h2 : 2 ^ h < 2 ^ 64 := Nat.pow_lt_pow_right (by decide) hh
  rw [e, u64_andNot _ _ h2 hs]
  have key : (2 ^ h &&& (2 ^ 64 - 1 - s)).testBit h = !s.testBit h := by
    rw [Nat.testBit_and, Nat.testBit_two_pow_self, Nat.sub_sub, Nat.add_comm 1 s, Nat.testBit_two_pow_sub_succ hs]
    simp [hh]
  by_cases hz : s.testBit h = true
  · rw [hz]
    have : 2 ^ h &&& (2 ^ 64 - 1 - s) = 0 := by
      apply Nat.eq_of_testBit_eq
      intro i
      by_cases hi : i = h
      · subst hi; rw [key, hz]; simp
      · rw [Nat.testBit_and, Nat.testBit_two_pow_of_ne (Ne.symm hi)]; simp
    rw [this]; rfl
  · have hz' : s.testBit h = false := by simpa using hz
    rw [hz']
    have : 2 ^ h &&& (2 ^ 64 - 1 - s) ≠ 0 := fun h0 => by
      rw [h0, hz'] at key
      simp at key
    simp only [beq_eq_false_iff_ne, ne_eq]
    exact fun h0 => this (by exact_mod_cast h0)
end Go.Proofs.YtojlopfjhhiilaaGreatDoor
