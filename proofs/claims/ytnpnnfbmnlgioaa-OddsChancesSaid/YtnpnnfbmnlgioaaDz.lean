/-
  math/bits.Div64 with a high word, the shift found by Len64's contract.
-/
import Derived.Test.YtnpnnfbmnlgioaaDy
import Derived.Lib.ItoaNum
import Derived.Lib.BitFns
namespace Go.Proofs.Ytnpnnfbmnlgioaa
open Go Go.RowKit Dv
set_option linter.unusedVariables false

theorem bitLen_of {y : Nat} (h : 0 < y) (h1 : y < 2 ^ 64) : 1 ≤ Lib.bitLen y ∧ Lib.bitLen y ≤ 64 ∧ 2 ^ (Lib.bitLen y - 1) ≤ y ∧ y < 2 ^ Lib.bitLen y := by
  obtain ⟨a, b, c⟩ := Lib.bitLenAux_bounds 64 y h1 (by omega)
  exact ⟨a, Lib.bitLen_le y 64 (by omega) h1, b, c⟩
theorem leading_any (y : Nat) (k : Nat) (hk : Lib.bitLen y = k) (k1 : 1 ≤ k) (k64 : k ≤ 64)
    (LN : ∀ w, Calls Try.prog 75 #[.int .u64 y] w fun e w' => e = .returned (.int .i64 (Lib.bitLen y)) ∧ w' = w) (w : World) :
    Calls Try.prog 71 #[.int .u64 y] w fun e w' => e = .returned (.int .i64 ((64 - k : Nat) : Int)) ∧ w' = w := by
  rw [hk] at LN
  have hw : IntKind.i64.wrap (64 - (k : Int)) = ((64 - k : Nat) : Int) := by
    simp [IntKind.wrap, IntKind.bits, IntKind.signed]
    omega
  obtain ⟨m, hm⟩ : ∃ m : Int, (k : Int) = m := ⟨_, rfl⟩
  obtain ⟨z, hz⟩ : ∃ z : Int, ((64 - k : Nat) : Int) = z := ⟨_, rfl⟩
  rw [hm] at LN hw
  rw [hz] at hw ⊢
  clear hm hz hk k1 k64
  go_enter Try.func71, Try.ntmps71
  go_wp2_with fail
  refine (LN _).mono ?_
  rintro e w1 ⟨rfl, rfl⟩
  go_wp2_with fail
  go_ret
  exact ⟨rfl, rfl⟩
theorem div64_all (h l y : Nat) (h0 : 0 < h) (h1 : h < y) (l1 : l < 2 ^ 64) (y1 : y < 2 ^ 64)
    (LN : ∀ w, Calls Try.prog 75 #[.int .u64 y] w fun e w' => e = .returned (.int .i64 (Lib.bitLen y)) ∧ w' = w) (w : World) :
    Calls Try.prog 58 #[.int .u64 h, .int .u64 l, .int .u64 y] w fun e w' => e = .returned (.tuple #[.int .u64 (((h * 2 ^ 64 + l) / y : Nat) : Int), .int .u64 (((h * 2 ^ 64 + l) % y : Nat) : Int)]) ∧ w' = w := by
  obtain ⟨k1, k64, a1, a2⟩ := bitLen_of (y := y) (by omega) y1
  obtain ⟨k, hk⟩ : ∃ k, Lib.bitLen y = k := ⟨_, rfl⟩
  have L := leading_any y k hk (by omega) (by omega) LN
  rw [hk] at k1 k64 a1 a2
  have e1 : 2 ^ (k - 1) * 2 ^ (64 - k) = 2 ^ 63 := by rw [← Nat.pow_add]; congr 1; omega
  have e2 : 2 ^ k * 2 ^ (64 - k) = 2 ^ 64 := by rw [← Nat.pow_add]; congr 1; omega
  have hp : 0 < 2 ^ (64 - k) := Nat.pow_pos (by omega)
  refine div64_any h l y (64 - k) h0 h1 l1 (by omega) ?_ ?_ L w
  · rw [← e1]; exact Nat.mul_le_mul_right _ a1
  · rw [← e2]; exact Nat.mul_lt_mul_of_pos_right a2 hp
end Go.Proofs.Ytnpnnfbmnlgioaa
