/-
  math/bits.Div64 with a high word: quotient and rest of two words by one.
-/
import Derived.Test.YtnpnnfbmnlgioaaDx
import Derived.Laws.BitsLemmas
namespace Go.Proofs.Ytnpnnfbmnlgioaa
open Go Go.RowKit Dv
set_option linter.unusedVariables false

theorem andU (a b : Nat) (ha : a < 2 ^ 64) (hb : b < 2 ^ 64) : bits .and .u64 a b = ((a &&& b : Nat) : Int) :=
  (bits_nat .u64 64 (by decide) (fun n h0 h1 => wrapU_in h0 (by simpa using h1)) a b ha hb).1
theorem orU (a b : Nat) (ha : a < 2 ^ 64) (hb : b < 2 ^ 64) : bits .or .u64 a b = ((a ||| b : Nat) : Int) :=
  (bits_nat .u64 64 (by decide) (fun n h0 h1 => wrapU_in h0 (by simpa using h1)) a b ha hb).2
theorem lowU (a : Nat) (ha : a < 2 ^ 64) : bits .and .u64 (a : Int) 4294967295 = ((a % 4294967296 : Nat) : Int) := by
  have e : (4294967295 : Int) = ((2 ^ 32 - 1 : Nat) : Int) := by decide
  rw [e, andU a (2 ^ 32 - 1) ha (by decide), Nat.and_two_pow_sub_one_eq_mod]
theorem joinU {a b s : Nat} (hb : b < 2 ^ s) (ha : a * 2 ^ s < 2 ^ 64) (hb2 : b < 2 ^ 64) : bits .or .u64 ((a * 2 ^ s : Nat) : Int) (b : Int) = ((a * 2 ^ s + b : Nat) : Int) := by
  rw [orU _ _ ha hb2, Nat.mul_comm a, Nat.two_pow_add_eq_or_of_lt hb]

theorem cast_q (U c1 c0 Z : Nat) : (((U : Int) * 4294967296 + c1) / Z * 4294967296 + (((U : Int) * 4294967296 + c1) % Z * 4294967296 + c0) / Z) = (((U * 4294967296 + c1) / Z * 4294967296 + ((U * 4294967296 + c1) % Z * 4294967296 + c0) / Z : Nat) : Int) := by simp
theorem cast_r (U c1 c0 Z s : Nat) : (((U : Int) * 4294967296 + c1) % Z * 4294967296 + c0) % Z / 2 ^ s = ((((U * 4294967296 + c1) % Z * 4294967296 + c0) % Z / 2 ^ s : Nat) : Int) := by simp
set_option maxRecDepth 100000 in
theorem div64_any (h l y s : Nat) (h0 : 0 < h) (h1 : h < y) (l1 : l < 2 ^ 64) (hs : s ≤ 63) (n0 : 2 ^ 63 ≤ y * 2 ^ s) (n1 : y * 2 ^ s < 2 ^ 64)
    (LZ : ∀ w, Calls Try.prog 71 #[.int .u64 y] w fun e w' => e = .returned (.int .i64 s) ∧ w' = w) (w : World) :
    Calls Try.prog 58 #[.int .u64 h, .int .u64 l, .int .u64 y] w fun e w' => e = .returned (.tuple #[.int .u64 (((h * 2 ^ 64 + l) / y : Nat) : Int), .int .u64 (((h * 2 ^ 64 + l) % y : Nat) : Int)]) ∧ w' = w := by
  obtain ⟨w1, w2, w3⟩ := Dv.words (s := s) h1 l1 (by omega)
  have wh := Dv.whole (s := s) h1 l1 (by omega) (U := h * 2 ^ s + l / 2 ^ (64 - s)) (L := l * 2 ^ s % 2 ^ 64) (Y := y * 2 ^ s) rfl rfl rfl rfl rfl
  have hp : 0 < 2 ^ s := Nat.pow_pos (by omega)
  have y1 : y ≤ y * 2 ^ s := Nat.le_mul_of_pos_right _ hp
  have hh : h * 2 ^ s ≤ y * 2 ^ s := Nat.mul_le_mul_right _ (by omega)
  have hl2 : l / 2 ^ (64 - s) < 2 ^ 64 := Nat.lt_of_le_of_lt (Nat.div_le_self _ _) l1
  have hL : l * 2 ^ s % 2 ^ 64 < 2 ^ 64 := Nat.mod_lt _ (by decide)
  have c1 : ((y : Int) * 2 ^ ((s : Int)).toNat) = ((y * 2 ^ s : Nat) : Int) := by simp
  have c2 : ((h : Int) * 2 ^ ((s : Int)).toNat) = ((h * 2 ^ s : Nat) : Int) := by simp
  have c3 : ((l : Int) * 2 ^ ((s : Int)).toNat) = ((l * 2 ^ s : Nat) : Int) := by simp
  have c4 : ((l : Int) / 2 ^ (64 - (s : Int)).toNat) = ((l / 2 ^ (64 - s) : Nat) : Int) := by
    rw [show (64 - (s : Int)).toNat = 64 - s by omega]; simp
  have key := div64_core (h : Int) (l : Int) (y : Int) (s : Int) ((y * 2 ^ s : Nat) : Int) ((y * 2 ^ s / 4294967296 : Nat) : Int) ((y * 2 ^ s % 4294967296 : Nat) : Int) ((h * 2 ^ s + l / 2 ^ (64 - s) : Nat) : Int) ((l * 2 ^ s % 2 ^ 64 : Nat) : Int) ((l * 2 ^ s % 2 ^ 64 / 4294967296 : Nat) : Int) ((l * 2 ^ s % 2 ^ 64 % 4294967296 : Nat) : Int)
    (by omega) (by omega) (by omega) (by omega) (by omega) (by omega)
    (by rw [c1]; exact wrapU_in (by omega) (by omega)) (by rw [Int.natCast_ediv]; rfl) (lowU _ n1)
    (by rw [c2, wrapU_in (by omega) (by omega), c4]; exact joinU w3 (by omega) hl2)
    (by rw [c3, wrapU]; omega) (by rw [Int.natCast_ediv]; rfl) (lowU _ hL)
    (Lib.hid (by omega)) (Lib.hid (by omega)) (Lib.hid (by omega)) (Lib.hid (by omega)) (Lib.hid (by omega)) (Lib.hid (by omega)) (Lib.hid (by exact_mod_cast w2)) (Lib.hid (by omega)) (Lib.hid (by omega)) (Lib.hid (by omega)) (Lib.hid (by omega)) LZ w
  rw [cast_q, Int.toNat_natCast, cast_r, ← wh.1, ← wh.2] at key
  exact key
end Go.Proofs.Ytnpnnfbmnlgioaa
