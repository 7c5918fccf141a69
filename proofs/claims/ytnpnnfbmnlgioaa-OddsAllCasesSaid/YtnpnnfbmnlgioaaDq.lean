/-
  The arithmetic of a long division of two words by one (two digits of half a word each): plain facts on Nat.
  math/bits.Div64 with a high word: the walk, over letters for the words in between.
  math/bits.Div64 with a high word: quotient and rest of two words by one.
  math/bits.Div64 with a high word, the shift found by Len64's contract.
  math/bits.Div64 and Rem64 whatever the high word, and odds' wide numbers modulo n and divided by n. Asked: Len64's contract (the shelf's).
-/
import Derived.Test.YtnpnnfbmnlgioaaRows
import Derived.Test.YtnpnnfbmnlgioaaLib
import Derived.Laws.BitsLemmas
import Derived.Lib.ItoaNum
import Derived.Lib.BitFns
import Derived.BigQuiet
namespace Go.Proofs.Ytnpnnfbmnlgioaa.Dv

/-- One digit of a long division: y = a * B + b with a large; u < y; the digit is (u * B + d) / y. -/
structure Dig (B a b u d q r : Nat) : Prop where
  up : (u * B + d) / (a * B + b) ≤ q
  eq : q * a + r = u

section
variable {B a b u d q r : Nat}
theorem first (ha : 0 < a) (hd : d < B) : Dig B a b u d (u / a) (u % a) := by
  refine ⟨?_, by rw [Nat.mul_comm]; exact Nat.div_add_mod u a⟩
  have hB : 0 < B := by omega
  have hy : 0 < a * B + b := by have := Nat.mul_pos ha hB; omega
  rw [Nat.le_div_iff_mul_le ha]
  have h1 : (u * B + d) / (a * B + b) * (a * B + b) ≤ u * B + d := Nat.div_mul_le_self _ _
  generalize (u * B + d) / (a * B + b) = z at *
  rw [Nat.mul_add, ← Nat.mul_assoc] at h1
  have h2 : z * a * B < (u + 1) * B := by rw [Nat.add_mul]; omega
  have h3 := Nat.lt_of_mul_lt_mul_right h2
  omega
/-- The digit is below B. -/
theorem small (hu : u < a * B + b) (hd : d < B) : (u * B + d) / (a * B + b) < B := by
  rw [Nat.div_lt_iff_lt_mul (by omega)]
  have : (u + 1) * B ≤ (a * B + b) * B := Nat.mul_le_mul_right B hu
  rw [Nat.add_mul] at this
  rw [Nat.mul_comm B]
  omega
theorem down (h : Dig B a b u d q r) (hu : u < a * B + b) (hd : d < B) (hc : B ≤ q ∨ B * r + d < q * b) : 0 < q ∧ Dig B a b u d (q - 1) (r + a) := by
  have key : (u * B + d) / (a * B + b) < q := by
    rcases hc with hc | hc
    · exact Nat.lt_of_lt_of_le (small hu hd) hc
    · rw [Nat.div_lt_iff_lt_mul (by omega), ← h.eq, Nat.mul_add, Nat.add_mul, ← Nat.mul_assoc, Nat.mul_comm r B]
      omega
  have hq : 0 < q := Nat.lt_of_le_of_lt (Nat.zero_le _) key
  refine ⟨hq, Nat.le_sub_one_of_lt key, ?_⟩
  have := h.eq
  obtain ⟨p, rfl⟩ : ∃ p, q = p + 1 := ⟨q - 1, by omega⟩
  rw [Nat.add_mul] at this
  simp only [Nat.add_sub_cancel]
  omega
theorem stop (h : Dig B a b u d q r) (hu : u < a * B + b) (hc : q * b ≤ B * r + d) : q = (u * B + d) / (a * B + b) := by
  refine Nat.le_antisymm ?_ h.up
  rw [Nat.le_div_iff_mul_le (by omega), ← h.eq, Nat.mul_add, Nat.add_mul, ← Nat.mul_assoc, Nat.mul_comm r B]
  omega
/-- Where the rest has outgrown B, the digit is found. -/
theorem over (h : Dig B a b u d q r) (hu : u < a * B + b) (hb : b < B) (hq : q ≤ B) (hr : B ≤ r) : q = (u * B + d) / (a * B + b) := by
  refine stop h hu ?_
  have h1 : q * b ≤ B * b := Nat.mul_le_mul_right b hq
  have h2 : B * b ≤ B * r := Nat.mul_le_mul_left B (by omega)
  omega
/-- The first guess is not above B + 1. -/
theorem guess (hu : u < a * B + b) (hb : b < B) (ha : B ≤ 2 * a) : u / a ≤ B + 1 := by
  have ha0 : 0 < a := by omega
  rw [← Nat.lt_succ_iff, Nat.div_lt_iff_lt_mul ha0]
  show u < (B + 1 + 1) * a
  rw [Nat.add_mul, Nat.add_mul, Nat.mul_comm B a]
  omega
/-- What is left behind the digit. -/
theorem left : u * B + d = (u * B + d) / (a * B + b) * (a * B + b) + (u * B + d) % (a * B + b) := by
  have := Nat.div_add_mod (u * B + d) (a * B + b)
  rw [Nat.mul_comm (a * B + b)] at this
  exact this.symm
end

/-- Two digits one behind the other. -/
theorem two {B y u d0 d1 : Nat} (hy : 0 < y) :
    (u * (B * B) + d1 * B + d0) / y = (u * B + d1) / y * B + ((u * B + d1) % y * B + d0) / y ∧
    (u * (B * B) + d1 * B + d0) % y = ((u * B + d1) % y * B + d0) % y := by
  have e : u * (B * B) + d1 * B + d0 = y * ((u * B + d1) / y * B) + ((u * B + d1) % y * B + d0) := by
    have := Nat.div_add_mod (u * B + d1) y
    have e2 : u * (B * B) + d1 * B = (u * B + d1) * B := by rw [Nat.add_mul, Nat.mul_assoc]
    rw [e2, ← this, Nat.add_mul, this, Nat.mul_assoc]
    omega
  rw [e]
  exact ⟨by rw [Nat.mul_add_div hy], by rw [Nat.mul_add_mod]⟩
/-- The shift to a divisor with its highest bit set changes the quotient not at all, and the rest by the shift alone. -/
theorem shifted (N y k : Nat) (hk : 0 < k) : (N * k) / (y * k) = N / y ∧ (N * k) % (y * k) / k = N % y := by
  refine ⟨Nat.mul_div_mul_right N y hk, ?_⟩
  rw [Nat.mul_mod_mul_right, Nat.mul_div_cancel _ hk]
/-- The words behind the shift: the high one, below the divisor, and the low one. -/
theorem words {hi lo y s : Nat} (h : hi < y) (hl : lo < 2 ^ 64) (hs : s ≤ 64) :
    (hi * 2 ^ 64 + lo) * 2 ^ s = (hi * 2 ^ s + lo / 2 ^ (64 - s)) * 2 ^ 64 + lo * 2 ^ s % 2 ^ 64 ∧ hi * 2 ^ s + lo / 2 ^ (64 - s) < y * 2 ^ s ∧ lo / 2 ^ (64 - s) < 2 ^ s := by
  have e : (2 : Nat) ^ 64 = 2 ^ (64 - s) * 2 ^ s := by rw [← Nat.pow_add]; congr 1; omega
  have hp : 0 < (2 : Nat) ^ s := Nat.pow_pos (by omega)
  have hd : lo * 2 ^ s / 2 ^ 64 = lo / 2 ^ (64 - s) := by rw [e, Nat.mul_div_mul_right _ _ hp]
  have hlt : lo / 2 ^ (64 - s) < 2 ^ s := by
    rw [Nat.div_lt_iff_lt_mul (Nat.pow_pos (by omega)), Nat.mul_comm, ← e]
    exact hl
  refine ⟨?_, ?_, hlt⟩
  · have := Nat.div_add_mod (lo * 2 ^ s) (2 ^ 64)
    rw [hd] at this
    rw [Nat.add_mul, Nat.add_mul, Nat.mul_right_comm hi (2 ^ s) (2 ^ 64), Nat.mul_comm (lo / 2 ^ (64 - s)) (2 ^ 64)]
    omega
  · have : (hi + 1) * 2 ^ s ≤ y * 2 ^ s := Nat.mul_le_mul_right _ h
    rw [Nat.add_mul] at this
    omega
/-- The whole division: two digits of the shifted words, and the rest shifted back. -/
theorem whole {hi lo y s : Nat} (h : hi < y) (hl : lo < 2 ^ 64) (hs : s ≤ 64) {U L Y q1 r1 : Nat} (hU : U = hi * 2 ^ s + lo / 2 ^ (64 - s)) (hL : L = lo * 2 ^ s % 2 ^ 64) (hY : Y = y * 2 ^ s)
    (hq : q1 = (U * 4294967296 + L / 4294967296) / Y) (hr : r1 = (U * 4294967296 + L / 4294967296) % Y) :
    (hi * 2 ^ 64 + lo) / y = q1 * 4294967296 + (r1 * 4294967296 + L % 4294967296) / Y ∧ (hi * 2 ^ 64 + lo) % y = (r1 * 4294967296 + L % 4294967296) % Y / 2 ^ s := by
  have hp : 0 < (2 : Nat) ^ s := Nat.pow_pos (by omega)
  obtain ⟨w1, w2, w3⟩ := words (s := s) h hl hs
  rw [← hU, ← hL] at w1
  have hy : 0 < Y := by rw [hY]; exact Nat.mul_pos (by omega) hp
  have sh := shifted (hi * 2 ^ 64 + lo) y (2 ^ s) hp
  rw [w1, ← hY] at sh
  have t := two (B := 4294967296) (y := Y) (u := U) (d0 := L % 4294967296) (d1 := L / 4294967296) hy
  have e : U * (4294967296 * 4294967296) + L / 4294967296 * 4294967296 + L % 4294967296 = U * 2 ^ 64 + L := by
    have := Nat.div_add_mod L 4294967296
    have e2 : (4294967296 * 4294967296 : Nat) = 2 ^ 64 := by decide
    rw [e2]
    omega
  rw [e, ← hq, ← hr] at t
  exact ⟨by rw [← sh.1, t.1], by rw [← sh.2, t.2]⟩
/-- What wraps of a word at a digit's end: the rest, whatever was cut off before. -/
theorem wrapped {U d Z R : Int} (h : U * 4294967296 + d = Z + R) (h0 : 0 ≤ R) (h1 : R < 18446744073709551616) :
    ((U * 4294967296 % 18446744073709551616 + d) % 18446744073709551616 - Z % 18446744073709551616) % 18446744073709551616 = R := by omega
/-- A digit as the machine keeps it: words as Int. -/
structure DigI (a b u d Q R : Int) : Prop where
  q0 : 0 ≤ Q
  r0 : 0 ≤ R
  dig : Dig 4294967296 a.toNat b.toNat u.toNat d.toNat Q.toNat R.toNat
  q1 : Q ≤ 4294967297
section
variable {a b u d Q R : Int} (a0 : 2147483648 ≤ a) (a1 : a < 4294967296) (b0 : 0 ≤ b) (b1 : b < 4294967296) (d0 : 0 ≤ d) (d1 : d < 4294967296) (u0 : 0 ≤ u) (hu : u < a * 4294967296 + b)
include a0 b0 b1 d0 d1 u0 hu
theorem DigI.first : DigI a b u d (u / a) (u % a) := by
  obtain ⟨A, rfl⟩ := Int.eq_ofNat_of_zero_le (show 0 ≤ a by omega)
  obtain ⟨V, rfl⟩ := Int.eq_ofNat_of_zero_le u0
  obtain ⟨E, rfl⟩ := Int.eq_ofNat_of_zero_le b0
  obtain ⟨D, rfl⟩ := Int.eq_ofNat_of_zero_le d0
  have g := guess (B := 4294967296) (a := A) (b := E) (u := V) (by omega) (by omega) (by omega)
  have f := Dv.first (B := 4294967296) (a := A) (b := E) (u := V) (d := D) (by omega) (by omega)
  refine ⟨Int.ediv_nonneg (by omega) (by omega), Int.emod_nonneg _ (by omega), ?_, by rw [← Int.natCast_ediv]; exact Int.ofNat_le.2 g⟩
  rw [← Int.natCast_ediv, ← Int.natCast_emod]
  exact f
theorem DigI.down (h : DigI a b u d Q R) (hc : 4294967296 ≤ Q ∨ 4294967296 * R + d < Q * b) : 1 ≤ Q ∧ DigI a b u d (Q - 1) (R + a) := by
  obtain ⟨A, rfl⟩ := Int.eq_ofNat_of_zero_le (show 0 ≤ a by omega)
  obtain ⟨V, rfl⟩ := Int.eq_ofNat_of_zero_le u0
  obtain ⟨E, rfl⟩ := Int.eq_ofNat_of_zero_le b0
  obtain ⟨D, rfl⟩ := Int.eq_ofNat_of_zero_le d0
  obtain ⟨q, rfl⟩ := Int.eq_ofNat_of_zero_le h.q0
  obtain ⟨r, rfl⟩ := Int.eq_ofNat_of_zero_le h.r0
  have f := Dv.down (B := 4294967296) (a := A) (b := E) (u := V) (d := D) (q := q) (r := r) h.dig (by omega) (by omega) (by
    rcases hc with hc | hc
    · exact .inl (by omega)
    · right
      have : ((4294967296 * r + D : Nat) : Int) < ((q * E : Nat) : Int) := by rw [Int.natCast_mul]; omega
      omega)
  have := h.q1
  refine ⟨by omega, by omega, by omega, ?_, by omega⟩
  have e1 : ((q : Int) - 1).toNat = q - 1 := by omega
  have e2 : ((r : Int) + (A : Int)).toNat = r + A := by omega
  rw [e1, e2]
  exact f.2
theorem DigI.stop (h : DigI a b u d Q R) (hc : Q * b ≤ 4294967296 * R + d) : Q = (u * 4294967296 + d) / (a * 4294967296 + b) := by
  obtain ⟨A, rfl⟩ := Int.eq_ofNat_of_zero_le (show 0 ≤ a by omega)
  obtain ⟨V, rfl⟩ := Int.eq_ofNat_of_zero_le u0
  obtain ⟨E, rfl⟩ := Int.eq_ofNat_of_zero_le b0
  obtain ⟨D, rfl⟩ := Int.eq_ofNat_of_zero_le d0
  obtain ⟨q, rfl⟩ := Int.eq_ofNat_of_zero_le h.q0
  obtain ⟨r, rfl⟩ := Int.eq_ofNat_of_zero_le h.r0
  have f := Dv.stop (B := 4294967296) (a := A) (b := E) (u := V) (d := D) (q := q) (r := r) h.dig (by omega) (by
    have : ((q * E : Nat) : Int) ≤ ((4294967296 * r + D : Nat) : Int) := by rw [Int.natCast_mul]; omega
    omega)
  rw [f, Int.natCast_ediv]
  congr 1
theorem DigI.over (h : DigI a b u d Q R) (hq : Q ≤ 4294967296) (hr : 4294967296 ≤ R) : Q = (u * 4294967296 + d) / (a * 4294967296 + b) := by
  refine DigI.stop a0 b0 b1 d0 d1 u0 hu h ?_
  have h0 := h.q0
  have h1 : Q * b ≤ 4294967296 * b := Int.mul_le_mul_of_nonneg_right hq b0
  omega
end
end Go.Proofs.Ytnpnnfbmnlgioaa.Dv

namespace Go.Proofs.Ytnpnnfbmnlgioaa
open Go Go.RowKit Dv
set_option linter.unusedVariables false

theorem wrapU (x : Int) : IntKind.u64.wrap x = x % 18446744073709551616 := by simp [IntKind.wrap, IntKind.bits, IntKind.signed]
theorem wrapU_in {x : Int} (h0 : 0 ≤ x) (h1 : x < 18446744073709551616) : IntKind.u64.wrap x = x := by rw [wrapU]; omega
theorem wrap_quo {x y : Int} (h0 : 0 ≤ x) (h1 : x < 18446744073709551616) (hy : 0 < y) : IntKind.u64.wrap (x.tdiv y) = x / y := by
  rw [Int.tdiv_eq_ediv_of_nonneg h0]
  exact wrapU_in (Int.ediv_nonneg h0 (by omega)) (Int.lt_of_le_of_lt (Int.ediv_le_self _ h0) h1)
theorem wrap_rest {x y : Int} (h0 : 0 ≤ x) (h1 : x < 18446744073709551616) (hy : 0 < y) (hy1 : y < 18446744073709551616) : IntKind.u64.wrap (x - IntKind.u64.wrap (x / y * y)) = x % y := by
  have h2 := Int.emod_nonneg x (show y ≠ 0 by omega)
  have h3 := Int.emod_lt_of_pos x hy
  have h4 := Int.mul_ediv_add_emod x y
  rw [Int.mul_comm] at h4
  have h5 : 0 ≤ x / y * y := Int.mul_nonneg (Int.ediv_nonneg h0 (by omega)) (by omega)
  rw [wrapU_in (x := x / y * y) h5 (by omega), wrapU_in (by omega) (by omega)]
  omega
theorem wrap_digit {U d Q Z R : Int} (h : U * 4294967296 + d = Q * Z + R) (h0 : 0 ≤ R) (h1 : R < 18446744073709551616) :
    IntKind.u64.wrap (IntKind.u64.wrap (IntKind.u64.wrap (U * 4294967296) + d) - IntKind.u64.wrap (Q * Z)) = R := by
  simp only [wrapU]
  exact wrapped h h0 h1
theorem digit_rest {u d Z Q : Int} (hZ : 0 < Z) (hQ : Q = (u * 4294967296 + d) / Z) : u * 4294967296 + d = Q * Z + (u * 4294967296 + d) % Z := by
  have := Int.mul_ediv_add_emod (u * 4294967296 + d) Z
  rw [hQ, Int.mul_comm _ Z]
  omega
theorem digit_small {u d Z Q : Int} (hZ : 0 < Z) (u0 : 0 ≤ u) (hu : u < Z) (d0 : 0 ≤ d) (d1 : d < 4294967296) (hQ : Q = (u * 4294967296 + d) / Z) : 0 ≤ Q ∧ Q < 4294967296 := by
  rw [hQ]
  refine ⟨Int.ediv_nonneg (by omega) (by omega), ?_⟩
  rw [Int.ediv_lt_iff_lt_mul hZ]
  omega

set_option maxRecDepth 100000 in
set_option maxHeartbeats 8000000 in
theorem div64_core (H Lo Y S Z a b U L c1 c0 : Int) (h0 : 0 < H) (h1 : H < Y) (l0 : 0 ≤ Lo) (y1 : Y < 18446744073709551616) (s0 : 0 ≤ S) (s1 : S ≤ 63)
    (e1 : IntKind.u64.wrap (Y * 2 ^ S.toNat) = Z) (e2 : Z / 4294967296 = a) (e3 : bits BinOp.and IntKind.u64 Z 4294967295 = b)
    (e4 : bits BinOp.or IntKind.u64 (IntKind.u64.wrap (H * 2 ^ S.toNat)) (Lo / 2 ^ (64 - S).toNat) = U) (e5 : IntKind.u64.wrap (Lo * 2 ^ S.toNat) = L) (e6 : L / 4294967296 = c1) (e7 : bits BinOp.and IntKind.u64 L 4294967295 = c0)
    (hZ : Hid (Z = a * 4294967296 + b)) (a0 : Hid (2147483648 ≤ a)) (a1 : Hid (a < 4294967296)) (b0 : Hid (0 ≤ b)) (b1 : Hid (b < 4294967296)) (u0 : Hid (0 ≤ U)) (uZ : Hid (U < Z)) (d0 : Hid (0 ≤ c1)) (d1 : Hid (c1 < 4294967296)) (g0 : Hid (0 ≤ c0)) (g1 : Hid (c0 < 4294967296))
    (LZ : ∀ w, Calls Try.prog 71 #[.int .u64 Y] w fun e w' => e = .returned (.int .i64 S) ∧ w' = w) (w : World) :
    Calls Try.prog 58 #[.int .u64 H, .int .u64 Lo, .int .u64 Y] w fun e w' => e = .returned (.tuple #[.int .u64 ((U * 4294967296 + c1) / Z * 4294967296 + ((U * 4294967296 + c1) % Z * 4294967296 + c0) / Z), .int .u64 (((U * 4294967296 + c1) % Z * 4294967296 + c0) % Z / 2 ^ S.toNat)]) ∧ w' = w := by
  have k1 : (Y == 0) = false := by simp; omega
  have k2 : decide (Y ≤ H) = false := by simp; omega
  have k3 : (H == 0) = false := by simp; omega
  have k4 : IntKind.u64.wrap S = S := wrapU_in s0 (by omega)
  have k5 : IntKind.u64.wrap (64 - S) = 64 - S := wrapU_in (by omega) (by omega)
  have zM : Hid (Z < 18446744073709551616) := Lib.hid (by have := hZ.out; have := a1.out; have := b1.out; omega)
  have aP : Hid (0 < a) := Lib.hid (by have := a0.out; omega)
  have zP : Hid (0 < Z) := Lib.hid (by have := hZ.out; have := a0.out; have := b0.out; omega)
  have UM : Hid (U < 18446744073709551616) := Lib.hid (by have := uZ.out; have := zM.out; omega)
  have k6 : IntKind.u64.wrap (U.tdiv a) = U / a := wrap_quo u0.out UM.out aP.out
  have k7 : IntKind.u64.wrap (U - IntKind.u64.wrap (U / a * a)) = U % a := wrap_rest u0.out UM.out aP.out (by have := a1.out; omega)
  have kz : ¬ a = 0 := by have := a0.out; omega
  have DG := Lib.hid (DigI.first a0.out b0.out b1.out d0.out d1.out u0.out (by have := hZ.out; have := uZ.out; omega) : DigI a b U c1 (U / a) (U % a))
  have RB := Lib.hid (show U % a < 4294967296 by have := Int.emod_lt_of_pos U aP.out; have := a1.out; omega)
  obtain ⟨qi, hqi⟩ : ∃ qi, U / a = qi := ⟨_, rfl⟩
  obtain ⟨ri, hri⟩ : ∃ ri, U % a = ri := ⟨_, rfl⟩
  rw [hqi] at k6 k7 DG
  rw [hri] at k7 DG RB
  clear hqi hri
  go_enter Try.func58, Try.ntmps58
  go_wp2_with fail
  refine (LZ _).mono ?_
  rintro e w1 ⟨rfl, rfl⟩
  clear LZ
  go_wp2_with fail
  go_loop [15, 16] (fun x y => ∃ Q R : Int, x = .int .u64 Q ∧ y = .int .u64 R ∧ Hid (DigI a b U c1 Q R) ∧ Hid (R < 4294967296)) (fun x _ => (intOf x).toNat)
  case atStart => exact ⟨_, _, rfl, rfl, DG, RB⟩
  case round =>
    obtain ⟨Q, R, rfl, rfl, D, hR⟩ := hrel
    clear DG RB
    have Q0 := D.out.q0
    have Q1 := D.out.q1
    have R0 := D.out.r0
    have HA0 := a0.out
    have HA1 := a1.out
    have HR := hR.out
    have m1 : IntKind.u64.wrap (R + a) = R + a := wrapU_in (by omega) (by omega)
    have m2 : IntKind.u64.wrap (4294967296 * R) = 4294967296 * R := wrapU_in (by omega) (by omega)
    have m3 : IntKind.u64.wrap (4294967296 * R + c1) = 4294967296 * R + c1 := wrapU_in (by have := d0.out; omega) (by have := d1.out; omega)
    have hZu := Lib.hid (show U < a * 4294967296 + b by have := hZ.out; have := uZ.out; omega)
    have DN := Lib.hid (fun hc => DigI.down a0.out b0.out b1.out d0.out d1.out u0.out hZu.out D.out hc)
    have DS := Lib.hid (fun hc => DigI.stop a0.out b0.out b1.out d0.out d1.out u0.out hZu.out D.out hc)
    have QB : Hid (0 ≤ Q * b ∧ Q * b < 18446744073709551616) := Lib.hid (by
      have h1 := Int.mul_nonneg Q0 b0.out
      have h2 : Q * b ≤ 4294967297 * b := Int.mul_le_mul_of_nonneg_right Q1 b0.out
      have h3 := b1.out
      omega)
    have m4 : IntKind.u64.wrap (Q * b) = Q * b := wrapU_in QB.out.1 QB.out.2
    obtain ⟨P, hP⟩ : ∃ P, Q * b = P := ⟨_, rfl⟩
    rw [hP] at m4 DN DS QB
    by_cases hq : 4294967296 ≤ Q
    · have n0 : decide (4294967296 ≤ Q) = true := by simpa using hq
      obtain ⟨Q2, D2⟩ := DN.out (.inl hq)
      have HD2 := Lib.hid D2
      have m5 : IntKind.u64.wrap (Q - 1) = Q - 1 := wrapU_in (by omega) (by omega)
      clear D2 DN DS
      by_cases hg : 4294967296 ≤ R + a
      · have n1 : decide (4294967296 ≤ R + a) = true := by simpa using hg
        have DE := Lib.hid (DigI.over a0.out b0.out b1.out d0.out d1.out u0.out hZu.out HD2.out (by omega) hg)
        obtain ⟨Q', hQ'⟩ : ∃ Q', Q - 1 = Q' := ⟨_, rfl⟩
        rw [hQ'] at m5 DE
        clear HD2 Q2
        have E1 := Lib.hid (show Q' = (U * 4294967296 + c1) / Z by rw [hZ.out]; exact DE.out)
        have q1b := Lib.hid (digit_small zP.out u0.out uZ.out d0.out d1.out E1.out)
        have i1 : IntKind.u64.wrap (IntKind.u64.wrap (IntKind.u64.wrap (U * 4294967296) + c1) - IntKind.u64.wrap (Q' * Z)) = (U * 4294967296 + c1) % Z := wrap_digit (digit_rest zP.out E1.out) (Int.emod_nonneg _ (by have := zP.out; omega)) (Int.lt_trans (Int.emod_lt_of_pos _ zP.out) zM.out)
        have r10 := Lib.hid (Int.emod_nonneg (U * 4294967296 + c1) (show Z ≠ 0 by have := zP.out; omega))
        have r1Z := Lib.hid (Int.emod_lt_of_pos (U * 4294967296 + c1) zP.out)
        obtain ⟨r1, hr1⟩ : ∃ r1, (U * 4294967296 + c1) % Z = r1 := ⟨_, rfl⟩
        rw [hr1] at i1 r10 r1Z
        have HR1 := Lib.hid hr1
        have r1M : Hid (r1 < 18446744073709551616) := Lib.hid (Int.lt_trans r1Z.out zM.out)
        have i2 : IntKind.u64.wrap (r1.tdiv a) = r1 / a := wrap_quo r10.out r1M.out aP.out
        have i3 : IntKind.u64.wrap (r1 - IntKind.u64.wrap (r1 / a * a)) = r1 % a := wrap_rest r10.out r1M.out aP.out (by have := a1.out; omega)
        have DG2 := Lib.hid (DigI.first a0.out b0.out b1.out g0.out g1.out r10.out (by have := hZ.out; have := r1Z.out; omega) : DigI a b r1 c0 (r1 / a) (r1 % a))
        have RB2 := Lib.hid (show r1 % a < 4294967296 by have := Int.emod_lt_of_pos r1 aP.out; have := a1.out; omega)
        obtain ⟨qj, hqj⟩ : ∃ qj, r1 / a = qj := ⟨_, rfl⟩
        obtain ⟨rj, hrj⟩ : ∃ rj, r1 % a = rj := ⟨_, rfl⟩
        rw [hqj] at i2 i3 DG2
        rw [hrj] at i3 DG2 RB2
        clear hqj hrj hr1
        go_wp2_with fail
        go_loop [18, 16] (fun x y => ∃ Qz R : Int, x = .int .u64 Qz ∧ y = .int .u64 R ∧ Hid (DigI a b r1 c0 Qz R) ∧ Hid (R < 4294967296)) (fun x _ => (intOf x).toNat)
        case atStart => exact ⟨_, _, rfl, rfl, DG2, RB2⟩
        case round =>
          obtain ⟨Qz, R, rfl, rfl, D, hR⟩ := hrel
          clear DG2 RB2
          have Q0 := D.out.q0
          have Q1 := D.out.q1
          have R0 := D.out.r0
          have HA0 := a0.out
          have HA1 := a1.out
          have HR := hR.out
          have m1 : IntKind.u64.wrap (R + a) = R + a := wrapU_in (by omega) (by omega)
          have m2 : IntKind.u64.wrap (4294967296 * R) = 4294967296 * R := wrapU_in (by omega) (by omega)
          have m3 : IntKind.u64.wrap (4294967296 * R + c0) = 4294967296 * R + c0 := wrapU_in (by have := g0.out; omega) (by have := g1.out; omega)
          have hZu := Lib.hid (show r1 < a * 4294967296 + b by have := hZ.out; have := r1Z.out; omega)
          have DN := Lib.hid (fun hc => DigI.down a0.out b0.out b1.out g0.out g1.out r10.out hZu.out D.out hc)
          have DS := Lib.hid (fun hc => DigI.stop a0.out b0.out b1.out g0.out g1.out r10.out hZu.out D.out hc)
          have QB : Hid (0 ≤ Qz * b ∧ Qz * b < 18446744073709551616) := Lib.hid (by
            have h1 := Int.mul_nonneg Q0 b0.out
            have h2 : Qz * b ≤ 4294967297 * b := Int.mul_le_mul_of_nonneg_right Q1 b0.out
            have h3 := b1.out
            omega)
          have m4 : IntKind.u64.wrap (Qz * b) = Qz * b := wrapU_in QB.out.1 QB.out.2
          obtain ⟨P, hP⟩ : ∃ P, Qz * b = P := ⟨_, rfl⟩
          rw [hP] at m4 DN DS QB
          by_cases hq : 4294967296 ≤ Qz
          · have n0 : decide (4294967296 ≤ Qz) = true := by simpa using hq
            obtain ⟨Q2, D2⟩ := DN.out (.inl hq)
            have HD2 := Lib.hid D2
            have m5 : IntKind.u64.wrap (Qz - 1) = Qz - 1 := wrapU_in (by omega) (by omega)
            clear D2 DN DS
            by_cases hg : 4294967296 ≤ R + a
            · have n1 : decide (4294967296 ≤ R + a) = true := by simpa using hg
              have DE := Lib.hid (DigI.over a0.out b0.out b1.out g0.out g1.out r10.out hZu.out HD2.out (by omega) hg)
              obtain ⟨Qz', hQ'⟩ : ∃ Qz', Qz - 1 = Qz' := ⟨_, rfl⟩
              rw [hQ'] at m5 DE
              clear HD2 Q2
              have E2 := Lib.hid (show Qz' = (r1 * 4294967296 + c0) / Z by rw [hZ.out]; exact DE.out)
              have q2 := digit_small zP.out r10.out r1Z.out g0.out g1.out E2.out
              have j1 : IntKind.u64.wrap (Q' * 4294967296) = Q' * 4294967296 := wrapU_in (by have := q1b.out; omega) (by have := q1b.out; omega)
              have j2 : IntKind.u64.wrap (Q' * 4294967296 + Qz') = Q' * 4294967296 + Qz' := wrapU_in (by have := q1b.out; omega) (by have := q1b.out; omega)
              have j3 : IntKind.u64.wrap (IntKind.u64.wrap (IntKind.u64.wrap (r1 * 4294967296) + c0) - IntKind.u64.wrap (Qz' * Z)) = (r1 * 4294967296 + c0) % Z := wrap_digit (digit_rest zP.out E2.out) (Int.emod_nonneg _ (by have := zP.out; omega)) (Int.lt_trans (Int.emod_lt_of_pos _ zP.out) zM.out)
              clear q2
              go_wp2_with fail
              go_ret2
              refine ⟨?_, rfl⟩
              rw [HR1.out, ← E1.out, ← E2.out]
              first | rfl | exact (by go_simp; done)
            · have n1 : decide (4294967296 ≤ R + a) = false := by simpa using hg
              go_wp2_with fail
              go_round
              case rel => exact ⟨Qz - 1, R + a, rfl, rfl, HD2, Lib.hid (by omega)⟩
              case measure => simp [intOf]; omega
          · have n0 : decide (4294967296 ≤ Qz) = false := by simpa using hq
            by_cases hp : 4294967296 * R + c0 < P
            · have n2 : decide (4294967296 * R + c0 < P) = true := by simpa using hp
              obtain ⟨Q2, D2⟩ := DN.out (.inr hp)
              have HD2 := Lib.hid D2
              have m5 : IntKind.u64.wrap (Qz - 1) = Qz - 1 := wrapU_in (by omega) (by omega)
              clear D2 DN DS
              by_cases hg : 4294967296 ≤ R + a
              · have n1 : decide (4294967296 ≤ R + a) = true := by simpa using hg
                have DE := Lib.hid (DigI.over a0.out b0.out b1.out g0.out g1.out r10.out hZu.out HD2.out (by omega) hg)
                obtain ⟨Qz', hQ'⟩ : ∃ Qz', Qz - 1 = Qz' := ⟨_, rfl⟩
                rw [hQ'] at m5 DE
                clear HD2 Q2
                have E2 := Lib.hid (show Qz' = (r1 * 4294967296 + c0) / Z by rw [hZ.out]; exact DE.out)
                have q2 := digit_small zP.out r10.out r1Z.out g0.out g1.out E2.out
                have j1 : IntKind.u64.wrap (Q' * 4294967296) = Q' * 4294967296 := wrapU_in (by have := q1b.out; omega) (by have := q1b.out; omega)
                have j2 : IntKind.u64.wrap (Q' * 4294967296 + Qz') = Q' * 4294967296 + Qz' := wrapU_in (by have := q1b.out; omega) (by have := q1b.out; omega)
                have j3 : IntKind.u64.wrap (IntKind.u64.wrap (IntKind.u64.wrap (r1 * 4294967296) + c0) - IntKind.u64.wrap (Qz' * Z)) = (r1 * 4294967296 + c0) % Z := wrap_digit (digit_rest zP.out E2.out) (Int.emod_nonneg _ (by have := zP.out; omega)) (Int.lt_trans (Int.emod_lt_of_pos _ zP.out) zM.out)
                clear q2
                go_wp2_with fail
                go_ret2
                refine ⟨?_, rfl⟩
                rw [HR1.out, ← E1.out, ← E2.out]
                first | rfl | exact (by go_simp; done)
              · have n1 : decide (4294967296 ≤ R + a) = false := by simpa using hg
                go_wp2_with fail
                go_round
                case rel => exact ⟨Qz - 1, R + a, rfl, rfl, HD2, Lib.hid (by omega)⟩
                case measure => simp [intOf]; omega
            · have n2 : decide (4294967296 * R + c0 < P) = false := by simpa using hp
              have DE := Lib.hid (DS.out (by omega))
              clear DN DS
              have E2 := Lib.hid (show Qz = (r1 * 4294967296 + c0) / Z by rw [hZ.out]; exact DE.out)
              have q2 := digit_small zP.out r10.out r1Z.out g0.out g1.out E2.out
              have j1 : IntKind.u64.wrap (Q' * 4294967296) = Q' * 4294967296 := wrapU_in (by have := q1b.out; omega) (by have := q1b.out; omega)
              have j2 : IntKind.u64.wrap (Q' * 4294967296 + Qz) = Q' * 4294967296 + Qz := wrapU_in (by have := q1b.out; omega) (by have := q1b.out; omega)
              have j3 : IntKind.u64.wrap (IntKind.u64.wrap (IntKind.u64.wrap (r1 * 4294967296) + c0) - IntKind.u64.wrap (Qz * Z)) = (r1 * 4294967296 + c0) % Z := wrap_digit (digit_rest zP.out E2.out) (Int.emod_nonneg _ (by have := zP.out; omega)) (Int.lt_trans (Int.emod_lt_of_pos _ zP.out) zM.out)
              clear q2
              go_wp2_with fail
              go_ret2
              refine ⟨?_, rfl⟩
              rw [HR1.out, ← E1.out, ← E2.out]
              first | rfl | exact (by go_simp; done)
      · have n1 : decide (4294967296 ≤ R + a) = false := by simpa using hg
        go_wp2_with fail
        go_round
        case rel => exact ⟨Q - 1, R + a, rfl, rfl, HD2, Lib.hid (by omega)⟩
        case measure => simp [intOf]; omega
    · have n0 : decide (4294967296 ≤ Q) = false := by simpa using hq
      by_cases hp : 4294967296 * R + c1 < P
      · have n2 : decide (4294967296 * R + c1 < P) = true := by simpa using hp
        obtain ⟨Q2, D2⟩ := DN.out (.inr hp)
        have HD2 := Lib.hid D2
        have m5 : IntKind.u64.wrap (Q - 1) = Q - 1 := wrapU_in (by omega) (by omega)
        clear D2 DN DS
        by_cases hg : 4294967296 ≤ R + a
        · have n1 : decide (4294967296 ≤ R + a) = true := by simpa using hg
          have DE := Lib.hid (DigI.over a0.out b0.out b1.out d0.out d1.out u0.out hZu.out HD2.out (by omega) hg)
          obtain ⟨Q', hQ'⟩ : ∃ Q', Q - 1 = Q' := ⟨_, rfl⟩
          rw [hQ'] at m5 DE
          clear HD2 Q2
          have E1 := Lib.hid (show Q' = (U * 4294967296 + c1) / Z by rw [hZ.out]; exact DE.out)
          have q1b := Lib.hid (digit_small zP.out u0.out uZ.out d0.out d1.out E1.out)
          have i1 : IntKind.u64.wrap (IntKind.u64.wrap (IntKind.u64.wrap (U * 4294967296) + c1) - IntKind.u64.wrap (Q' * Z)) = (U * 4294967296 + c1) % Z := wrap_digit (digit_rest zP.out E1.out) (Int.emod_nonneg _ (by have := zP.out; omega)) (Int.lt_trans (Int.emod_lt_of_pos _ zP.out) zM.out)
          have r10 := Lib.hid (Int.emod_nonneg (U * 4294967296 + c1) (show Z ≠ 0 by have := zP.out; omega))
          have r1Z := Lib.hid (Int.emod_lt_of_pos (U * 4294967296 + c1) zP.out)
          obtain ⟨r1, hr1⟩ : ∃ r1, (U * 4294967296 + c1) % Z = r1 := ⟨_, rfl⟩
          rw [hr1] at i1 r10 r1Z
          have HR1 := Lib.hid hr1
          have r1M : Hid (r1 < 18446744073709551616) := Lib.hid (Int.lt_trans r1Z.out zM.out)
          have i2 : IntKind.u64.wrap (r1.tdiv a) = r1 / a := wrap_quo r10.out r1M.out aP.out
          have i3 : IntKind.u64.wrap (r1 - IntKind.u64.wrap (r1 / a * a)) = r1 % a := wrap_rest r10.out r1M.out aP.out (by have := a1.out; omega)
          have DG2 := Lib.hid (DigI.first a0.out b0.out b1.out g0.out g1.out r10.out (by have := hZ.out; have := r1Z.out; omega) : DigI a b r1 c0 (r1 / a) (r1 % a))
          have RB2 := Lib.hid (show r1 % a < 4294967296 by have := Int.emod_lt_of_pos r1 aP.out; have := a1.out; omega)
          obtain ⟨qj, hqj⟩ : ∃ qj, r1 / a = qj := ⟨_, rfl⟩
          obtain ⟨rj, hrj⟩ : ∃ rj, r1 % a = rj := ⟨_, rfl⟩
          rw [hqj] at i2 i3 DG2
          rw [hrj] at i3 DG2 RB2
          clear hqj hrj hr1
          go_wp2_with fail
          go_loop [18, 16] (fun x y => ∃ Qz R : Int, x = .int .u64 Qz ∧ y = .int .u64 R ∧ Hid (DigI a b r1 c0 Qz R) ∧ Hid (R < 4294967296)) (fun x _ => (intOf x).toNat)
          case atStart => exact ⟨_, _, rfl, rfl, DG2, RB2⟩
          case round =>
            obtain ⟨Qz, R, rfl, rfl, D, hR⟩ := hrel
            clear DG2 RB2
            have Q0 := D.out.q0
            have Q1 := D.out.q1
            have R0 := D.out.r0
            have HA0 := a0.out
            have HA1 := a1.out
            have HR := hR.out
            have m1 : IntKind.u64.wrap (R + a) = R + a := wrapU_in (by omega) (by omega)
            have m2 : IntKind.u64.wrap (4294967296 * R) = 4294967296 * R := wrapU_in (by omega) (by omega)
            have m3 : IntKind.u64.wrap (4294967296 * R + c0) = 4294967296 * R + c0 := wrapU_in (by have := g0.out; omega) (by have := g1.out; omega)
            have hZu := Lib.hid (show r1 < a * 4294967296 + b by have := hZ.out; have := r1Z.out; omega)
            have DN := Lib.hid (fun hc => DigI.down a0.out b0.out b1.out g0.out g1.out r10.out hZu.out D.out hc)
            have DS := Lib.hid (fun hc => DigI.stop a0.out b0.out b1.out g0.out g1.out r10.out hZu.out D.out hc)
            have QB : Hid (0 ≤ Qz * b ∧ Qz * b < 18446744073709551616) := Lib.hid (by
              have h1 := Int.mul_nonneg Q0 b0.out
              have h2 : Qz * b ≤ 4294967297 * b := Int.mul_le_mul_of_nonneg_right Q1 b0.out
              have h3 := b1.out
              omega)
            have m4 : IntKind.u64.wrap (Qz * b) = Qz * b := wrapU_in QB.out.1 QB.out.2
            obtain ⟨P, hP⟩ : ∃ P, Qz * b = P := ⟨_, rfl⟩
            rw [hP] at m4 DN DS QB
            by_cases hq : 4294967296 ≤ Qz
            · have n0 : decide (4294967296 ≤ Qz) = true := by simpa using hq
              obtain ⟨Q2, D2⟩ := DN.out (.inl hq)
              have HD2 := Lib.hid D2
              have m5 : IntKind.u64.wrap (Qz - 1) = Qz - 1 := wrapU_in (by omega) (by omega)
              clear D2 DN DS
              by_cases hg : 4294967296 ≤ R + a
              · have n1 : decide (4294967296 ≤ R + a) = true := by simpa using hg
                have DE := Lib.hid (DigI.over a0.out b0.out b1.out g0.out g1.out r10.out hZu.out HD2.out (by omega) hg)
                obtain ⟨Qz', hQ'⟩ : ∃ Qz', Qz - 1 = Qz' := ⟨_, rfl⟩
                rw [hQ'] at m5 DE
                clear HD2 Q2
                have E2 := Lib.hid (show Qz' = (r1 * 4294967296 + c0) / Z by rw [hZ.out]; exact DE.out)
                have q2 := digit_small zP.out r10.out r1Z.out g0.out g1.out E2.out
                have j1 : IntKind.u64.wrap (Q' * 4294967296) = Q' * 4294967296 := wrapU_in (by have := q1b.out; omega) (by have := q1b.out; omega)
                have j2 : IntKind.u64.wrap (Q' * 4294967296 + Qz') = Q' * 4294967296 + Qz' := wrapU_in (by have := q1b.out; omega) (by have := q1b.out; omega)
                have j3 : IntKind.u64.wrap (IntKind.u64.wrap (IntKind.u64.wrap (r1 * 4294967296) + c0) - IntKind.u64.wrap (Qz' * Z)) = (r1 * 4294967296 + c0) % Z := wrap_digit (digit_rest zP.out E2.out) (Int.emod_nonneg _ (by have := zP.out; omega)) (Int.lt_trans (Int.emod_lt_of_pos _ zP.out) zM.out)
                clear q2
                go_wp2_with fail
                go_ret2
                refine ⟨?_, rfl⟩
                rw [HR1.out, ← E1.out, ← E2.out]
                first | rfl | exact (by go_simp; done)
              · have n1 : decide (4294967296 ≤ R + a) = false := by simpa using hg
                go_wp2_with fail
                go_round
                case rel => exact ⟨Qz - 1, R + a, rfl, rfl, HD2, Lib.hid (by omega)⟩
                case measure => simp [intOf]; omega
            · have n0 : decide (4294967296 ≤ Qz) = false := by simpa using hq
              by_cases hp : 4294967296 * R + c0 < P
              · have n2 : decide (4294967296 * R + c0 < P) = true := by simpa using hp
                obtain ⟨Q2, D2⟩ := DN.out (.inr hp)
                have HD2 := Lib.hid D2
                have m5 : IntKind.u64.wrap (Qz - 1) = Qz - 1 := wrapU_in (by omega) (by omega)
                clear D2 DN DS
                by_cases hg : 4294967296 ≤ R + a
                · have n1 : decide (4294967296 ≤ R + a) = true := by simpa using hg
                  have DE := Lib.hid (DigI.over a0.out b0.out b1.out g0.out g1.out r10.out hZu.out HD2.out (by omega) hg)
                  obtain ⟨Qz', hQ'⟩ : ∃ Qz', Qz - 1 = Qz' := ⟨_, rfl⟩
                  rw [hQ'] at m5 DE
                  clear HD2 Q2
                  have E2 := Lib.hid (show Qz' = (r1 * 4294967296 + c0) / Z by rw [hZ.out]; exact DE.out)
                  have q2 := digit_small zP.out r10.out r1Z.out g0.out g1.out E2.out
                  have j1 : IntKind.u64.wrap (Q' * 4294967296) = Q' * 4294967296 := wrapU_in (by have := q1b.out; omega) (by have := q1b.out; omega)
                  have j2 : IntKind.u64.wrap (Q' * 4294967296 + Qz') = Q' * 4294967296 + Qz' := wrapU_in (by have := q1b.out; omega) (by have := q1b.out; omega)
                  have j3 : IntKind.u64.wrap (IntKind.u64.wrap (IntKind.u64.wrap (r1 * 4294967296) + c0) - IntKind.u64.wrap (Qz' * Z)) = (r1 * 4294967296 + c0) % Z := wrap_digit (digit_rest zP.out E2.out) (Int.emod_nonneg _ (by have := zP.out; omega)) (Int.lt_trans (Int.emod_lt_of_pos _ zP.out) zM.out)
                  clear q2
                  go_wp2_with fail
                  go_ret2
                  refine ⟨?_, rfl⟩
                  rw [HR1.out, ← E1.out, ← E2.out]
                  first | rfl | exact (by go_simp; done)
                · have n1 : decide (4294967296 ≤ R + a) = false := by simpa using hg
                  go_wp2_with fail
                  go_round
                  case rel => exact ⟨Qz - 1, R + a, rfl, rfl, HD2, Lib.hid (by omega)⟩
                  case measure => simp [intOf]; omega
              · have n2 : decide (4294967296 * R + c0 < P) = false := by simpa using hp
                have DE := Lib.hid (DS.out (by omega))
                clear DN DS
                have E2 := Lib.hid (show Qz = (r1 * 4294967296 + c0) / Z by rw [hZ.out]; exact DE.out)
                have q2 := digit_small zP.out r10.out r1Z.out g0.out g1.out E2.out
                have j1 : IntKind.u64.wrap (Q' * 4294967296) = Q' * 4294967296 := wrapU_in (by have := q1b.out; omega) (by have := q1b.out; omega)
                have j2 : IntKind.u64.wrap (Q' * 4294967296 + Qz) = Q' * 4294967296 + Qz := wrapU_in (by have := q1b.out; omega) (by have := q1b.out; omega)
                have j3 : IntKind.u64.wrap (IntKind.u64.wrap (IntKind.u64.wrap (r1 * 4294967296) + c0) - IntKind.u64.wrap (Qz * Z)) = (r1 * 4294967296 + c0) % Z := wrap_digit (digit_rest zP.out E2.out) (Int.emod_nonneg _ (by have := zP.out; omega)) (Int.lt_trans (Int.emod_lt_of_pos _ zP.out) zM.out)
                clear q2
                go_wp2_with fail
                go_ret2
                refine ⟨?_, rfl⟩
                rw [HR1.out, ← E1.out, ← E2.out]
                first | rfl | exact (by go_simp; done)
        · have n1 : decide (4294967296 ≤ R + a) = false := by simpa using hg
          go_wp2_with fail
          go_round
          case rel => exact ⟨Q - 1, R + a, rfl, rfl, HD2, Lib.hid (by omega)⟩
          case measure => simp [intOf]; omega
      · have n2 : decide (4294967296 * R + c1 < P) = false := by simpa using hp
        have DE := Lib.hid (DS.out (by omega))
        clear DN DS
        have E1 := Lib.hid (show Q = (U * 4294967296 + c1) / Z by rw [hZ.out]; exact DE.out)
        have q1b := Lib.hid (digit_small zP.out u0.out uZ.out d0.out d1.out E1.out)
        have i1 : IntKind.u64.wrap (IntKind.u64.wrap (IntKind.u64.wrap (U * 4294967296) + c1) - IntKind.u64.wrap (Q * Z)) = (U * 4294967296 + c1) % Z := wrap_digit (digit_rest zP.out E1.out) (Int.emod_nonneg _ (by have := zP.out; omega)) (Int.lt_trans (Int.emod_lt_of_pos _ zP.out) zM.out)
        have r10 := Lib.hid (Int.emod_nonneg (U * 4294967296 + c1) (show Z ≠ 0 by have := zP.out; omega))
        have r1Z := Lib.hid (Int.emod_lt_of_pos (U * 4294967296 + c1) zP.out)
        obtain ⟨r1, hr1⟩ : ∃ r1, (U * 4294967296 + c1) % Z = r1 := ⟨_, rfl⟩
        rw [hr1] at i1 r10 r1Z
        have HR1 := Lib.hid hr1
        have r1M : Hid (r1 < 18446744073709551616) := Lib.hid (Int.lt_trans r1Z.out zM.out)
        have i2 : IntKind.u64.wrap (r1.tdiv a) = r1 / a := wrap_quo r10.out r1M.out aP.out
        have i3 : IntKind.u64.wrap (r1 - IntKind.u64.wrap (r1 / a * a)) = r1 % a := wrap_rest r10.out r1M.out aP.out (by have := a1.out; omega)
        have DG2 := Lib.hid (DigI.first a0.out b0.out b1.out g0.out g1.out r10.out (by have := hZ.out; have := r1Z.out; omega) : DigI a b r1 c0 (r1 / a) (r1 % a))
        have RB2 := Lib.hid (show r1 % a < 4294967296 by have := Int.emod_lt_of_pos r1 aP.out; have := a1.out; omega)
        obtain ⟨qj, hqj⟩ : ∃ qj, r1 / a = qj := ⟨_, rfl⟩
        obtain ⟨rj, hrj⟩ : ∃ rj, r1 % a = rj := ⟨_, rfl⟩
        rw [hqj] at i2 i3 DG2
        rw [hrj] at i3 DG2 RB2
        clear hqj hrj hr1
        go_wp2_with fail
        go_loop [18, 16] (fun x y => ∃ Qz R : Int, x = .int .u64 Qz ∧ y = .int .u64 R ∧ Hid (DigI a b r1 c0 Qz R) ∧ Hid (R < 4294967296)) (fun x _ => (intOf x).toNat)
        case atStart => exact ⟨_, _, rfl, rfl, DG2, RB2⟩
        case round =>
          obtain ⟨Qz, R, rfl, rfl, D, hR⟩ := hrel
          clear DG2 RB2
          have Q0 := D.out.q0
          have Q1 := D.out.q1
          have R0 := D.out.r0
          have HA0 := a0.out
          have HA1 := a1.out
          have HR := hR.out
          have m1 : IntKind.u64.wrap (R + a) = R + a := wrapU_in (by omega) (by omega)
          have m2 : IntKind.u64.wrap (4294967296 * R) = 4294967296 * R := wrapU_in (by omega) (by omega)
          have m3 : IntKind.u64.wrap (4294967296 * R + c0) = 4294967296 * R + c0 := wrapU_in (by have := g0.out; omega) (by have := g1.out; omega)
          have hZu := Lib.hid (show r1 < a * 4294967296 + b by have := hZ.out; have := r1Z.out; omega)
          have DN := Lib.hid (fun hc => DigI.down a0.out b0.out b1.out g0.out g1.out r10.out hZu.out D.out hc)
          have DS := Lib.hid (fun hc => DigI.stop a0.out b0.out b1.out g0.out g1.out r10.out hZu.out D.out hc)
          have QB : Hid (0 ≤ Qz * b ∧ Qz * b < 18446744073709551616) := Lib.hid (by
            have h1 := Int.mul_nonneg Q0 b0.out
            have h2 : Qz * b ≤ 4294967297 * b := Int.mul_le_mul_of_nonneg_right Q1 b0.out
            have h3 := b1.out
            omega)
          have m4 : IntKind.u64.wrap (Qz * b) = Qz * b := wrapU_in QB.out.1 QB.out.2
          obtain ⟨P, hP⟩ : ∃ P, Qz * b = P := ⟨_, rfl⟩
          rw [hP] at m4 DN DS QB
          by_cases hq : 4294967296 ≤ Qz
          · have n0 : decide (4294967296 ≤ Qz) = true := by simpa using hq
            obtain ⟨Q2, D2⟩ := DN.out (.inl hq)
            have HD2 := Lib.hid D2
            have m5 : IntKind.u64.wrap (Qz - 1) = Qz - 1 := wrapU_in (by omega) (by omega)
            clear D2 DN DS
            by_cases hg : 4294967296 ≤ R + a
            · have n1 : decide (4294967296 ≤ R + a) = true := by simpa using hg
              have DE := Lib.hid (DigI.over a0.out b0.out b1.out g0.out g1.out r10.out hZu.out HD2.out (by omega) hg)
              obtain ⟨Qz', hQ'⟩ : ∃ Qz', Qz - 1 = Qz' := ⟨_, rfl⟩
              rw [hQ'] at m5 DE
              clear HD2 Q2
              have E2 := Lib.hid (show Qz' = (r1 * 4294967296 + c0) / Z by rw [hZ.out]; exact DE.out)
              have q2 := digit_small zP.out r10.out r1Z.out g0.out g1.out E2.out
              have j1 : IntKind.u64.wrap (Q * 4294967296) = Q * 4294967296 := wrapU_in (by have := q1b.out; omega) (by have := q1b.out; omega)
              have j2 : IntKind.u64.wrap (Q * 4294967296 + Qz') = Q * 4294967296 + Qz' := wrapU_in (by have := q1b.out; omega) (by have := q1b.out; omega)
              have j3 : IntKind.u64.wrap (IntKind.u64.wrap (IntKind.u64.wrap (r1 * 4294967296) + c0) - IntKind.u64.wrap (Qz' * Z)) = (r1 * 4294967296 + c0) % Z := wrap_digit (digit_rest zP.out E2.out) (Int.emod_nonneg _ (by have := zP.out; omega)) (Int.lt_trans (Int.emod_lt_of_pos _ zP.out) zM.out)
              clear q2
              go_wp2_with fail
              go_ret2
              refine ⟨?_, rfl⟩
              rw [HR1.out, ← E1.out, ← E2.out]
              first | rfl | exact (by go_simp; done)
            · have n1 : decide (4294967296 ≤ R + a) = false := by simpa using hg
              go_wp2_with fail
              go_round
              case rel => exact ⟨Qz - 1, R + a, rfl, rfl, HD2, Lib.hid (by omega)⟩
              case measure => simp [intOf]; omega
          · have n0 : decide (4294967296 ≤ Qz) = false := by simpa using hq
            by_cases hp : 4294967296 * R + c0 < P
            · have n2 : decide (4294967296 * R + c0 < P) = true := by simpa using hp
              obtain ⟨Q2, D2⟩ := DN.out (.inr hp)
              have HD2 := Lib.hid D2
              have m5 : IntKind.u64.wrap (Qz - 1) = Qz - 1 := wrapU_in (by omega) (by omega)
              clear D2 DN DS
              by_cases hg : 4294967296 ≤ R + a
              · have n1 : decide (4294967296 ≤ R + a) = true := by simpa using hg
                have DE := Lib.hid (DigI.over a0.out b0.out b1.out g0.out g1.out r10.out hZu.out HD2.out (by omega) hg)
                obtain ⟨Qz', hQ'⟩ : ∃ Qz', Qz - 1 = Qz' := ⟨_, rfl⟩
                rw [hQ'] at m5 DE
                clear HD2 Q2
                have E2 := Lib.hid (show Qz' = (r1 * 4294967296 + c0) / Z by rw [hZ.out]; exact DE.out)
                have q2 := digit_small zP.out r10.out r1Z.out g0.out g1.out E2.out
                have j1 : IntKind.u64.wrap (Q * 4294967296) = Q * 4294967296 := wrapU_in (by have := q1b.out; omega) (by have := q1b.out; omega)
                have j2 : IntKind.u64.wrap (Q * 4294967296 + Qz') = Q * 4294967296 + Qz' := wrapU_in (by have := q1b.out; omega) (by have := q1b.out; omega)
                have j3 : IntKind.u64.wrap (IntKind.u64.wrap (IntKind.u64.wrap (r1 * 4294967296) + c0) - IntKind.u64.wrap (Qz' * Z)) = (r1 * 4294967296 + c0) % Z := wrap_digit (digit_rest zP.out E2.out) (Int.emod_nonneg _ (by have := zP.out; omega)) (Int.lt_trans (Int.emod_lt_of_pos _ zP.out) zM.out)
                clear q2
                go_wp2_with fail
                go_ret2
                refine ⟨?_, rfl⟩
                rw [HR1.out, ← E1.out, ← E2.out]
                first | rfl | exact (by go_simp; done)
              · have n1 : decide (4294967296 ≤ R + a) = false := by simpa using hg
                go_wp2_with fail
                go_round
                case rel => exact ⟨Qz - 1, R + a, rfl, rfl, HD2, Lib.hid (by omega)⟩
                case measure => simp [intOf]; omega
            · have n2 : decide (4294967296 * R + c0 < P) = false := by simpa using hp
              have DE := Lib.hid (DS.out (by omega))
              clear DN DS
              have E2 := Lib.hid (show Qz = (r1 * 4294967296 + c0) / Z by rw [hZ.out]; exact DE.out)
              have q2 := digit_small zP.out r10.out r1Z.out g0.out g1.out E2.out
              have j1 : IntKind.u64.wrap (Q * 4294967296) = Q * 4294967296 := wrapU_in (by have := q1b.out; omega) (by have := q1b.out; omega)
              have j2 : IntKind.u64.wrap (Q * 4294967296 + Qz) = Q * 4294967296 + Qz := wrapU_in (by have := q1b.out; omega) (by have := q1b.out; omega)
              have j3 : IntKind.u64.wrap (IntKind.u64.wrap (IntKind.u64.wrap (r1 * 4294967296) + c0) - IntKind.u64.wrap (Qz * Z)) = (r1 * 4294967296 + c0) % Z := wrap_digit (digit_rest zP.out E2.out) (Int.emod_nonneg _ (by have := zP.out; omega)) (Int.lt_trans (Int.emod_lt_of_pos _ zP.out) zM.out)
              clear q2
              go_wp2_with fail
              go_ret2
              refine ⟨?_, rfl⟩
              rw [HR1.out, ← E1.out, ← E2.out]
              first | rfl | exact (by go_simp; done)
end Go.Proofs.Ytnpnnfbmnlgioaa

namespace Go.Proofs.Ytnpnnfbmnlgioaa
open Go Go.RowKit Dv
set_option linter.unusedVariables false

theorem andU (a b : Nat) (ha : a < 2 ^ 64) (hb : b < 2 ^ 64) : bits .and .u64 a b = ((a &&& b : Nat) : Int) :=
  (bits_nat .u64 64 (by decide) (fun n h0 h1 => wrapU_in h0 (by simpa using h1)) a b ha hb).1
theorem orU (a b : Nat) (ha : a < 2 ^ 64) (hb : b < 2 ^ 64) : bits .or .u64 a b = ((a ||| b : Nat) : Int) :=
  (bits_nat .u64 64 (by decide) (fun n h0 h1 => wrapU_in h0 (by simpa using h1)) a b ha hb).2
theorem lowU (a : Nat) (ha : a < 2 ^ 64) : bits .and .u64 (a : Int) 4294967295 = ((a % 4294967296 : Nat) : Int) := by
  have e : (4294967295 : Int) = ((2 ^ 32 - 1 : Nat) : Int) := by decide
  rw [e, andU a (2 ^ 32 - 1) ha (by decide), Nat.and_two_pow_sub_one_eq_mod]
theorem joinU {a b s : Nat} (hb : b < 2 ^ s) (ha : a * 2 ^ s < 2 ^ 64) (hb2 : b < 2 ^ 64) : bits .or .u64 ((a * 2 ^ s : Nat) : Int) (b : Int) = ((a * 2 ^ s + b : Nat) : Int) := by
  rw [orU _ _ ha hb2, Nat.mul_comm a, Nat.two_pow_add_eq_or_of_lt hb]

theorem cast_q (U c1 c0 Z : Nat) : (((U : Int) * 4294967296 + c1) / Z * 4294967296 + (((U : Int) * 4294967296 + c1) % Z * 4294967296 + c0) / Z) = (((U * 4294967296 + c1) / Z * 4294967296 + ((U * 4294967296 + c1) % Z * 4294967296 + c0) / Z : Nat) : Int) := by simp
theorem cast_r (U c1 c0 Z s : Nat) : (((U : Int) * 4294967296 + c1) % Z * 4294967296 + c0) % Z / 2 ^ s = ((((U * 4294967296 + c1) % Z * 4294967296 + c0) % Z / 2 ^ s : Nat) : Int) := by simp
set_option maxRecDepth 100000 in
theorem div64_any (h l y s : Nat) (h0 : 0 < h) (h1 : h < y) (l1 : l < 2 ^ 64) (hs : s ≤ 63) (n0 : 2 ^ 63 ≤ y * 2 ^ s) (n1 : y * 2 ^ s < 2 ^ 64)
    (LZ : ∀ w, Calls Try.prog 71 #[.int .u64 y] w fun e w' => e = .returned (.int .i64 s) ∧ w' = w) (w : World) :
    Calls Try.prog 58 #[.int .u64 h, .int .u64 l, .int .u64 y] w fun e w' => e = .returned (.tuple #[.int .u64 (((h * 2 ^ 64 + l) / y : Nat) : Int), .int .u64 (((h * 2 ^ 64 + l) % y : Nat) : Int)]) ∧ w' = w := by
  obtain ⟨w1, w2, w3⟩ := Dv.words (s := s) h1 l1 (by omega)
  have wh := Dv.whole (s := s) h1 l1 (by omega) (U := h * 2 ^ s + l / 2 ^ (64 - s)) (L := l * 2 ^ s % 2 ^ 64) (Y := y * 2 ^ s) rfl rfl rfl rfl rfl
  have hp : 0 < 2 ^ s := Nat.pow_pos (by omega)
  have y1 : y ≤ y * 2 ^ s := Nat.le_mul_of_pos_right _ hp
  have hh : h * 2 ^ s ≤ y * 2 ^ s := Nat.mul_le_mul_right _ (by omega)
  have hl2 : l / 2 ^ (64 - s) < 2 ^ 64 := Nat.lt_of_le_of_lt (Nat.div_le_self _ _) l1
  have hL : l * 2 ^ s % 2 ^ 64 < 2 ^ 64 := Nat.mod_lt _ (by decide)
  have c1 : ((y : Int) * 2 ^ ((s : Int)).toNat) = ((y * 2 ^ s : Nat) : Int) := by simp
  have c2 : ((h : Int) * 2 ^ ((s : Int)).toNat) = ((h * 2 ^ s : Nat) : Int) := by simp
  have c3 : ((l : Int) * 2 ^ ((s : Int)).toNat) = ((l * 2 ^ s : Nat) : Int) := by simp
  have c4 : ((l : Int) / 2 ^ (64 - (s : Int)).toNat) = ((l / 2 ^ (64 - s) : Nat) : Int) := by
    rw [show (64 - (s : Int)).toNat = 64 - s by omega]; simp
  have key := div64_core (h : Int) (l : Int) (y : Int) (s : Int) ((y * 2 ^ s : Nat) : Int) ((y * 2 ^ s / 4294967296 : Nat) : Int) ((y * 2 ^ s % 4294967296 : Nat) : Int) ((h * 2 ^ s + l / 2 ^ (64 - s) : Nat) : Int) ((l * 2 ^ s % 2 ^ 64 : Nat) : Int) ((l * 2 ^ s % 2 ^ 64 / 4294967296 : Nat) : Int) ((l * 2 ^ s % 2 ^ 64 % 4294967296 : Nat) : Int)
    (by omega) (by omega) (by omega) (by omega) (by omega) (by omega)
    (by rw [c1]; exact wrapU_in (by omega) (by omega)) (by rw [Int.natCast_ediv]; rfl) (lowU _ n1)
    (by rw [c2, wrapU_in (by omega) (by omega), c4]; exact joinU w3 (by omega) hl2)
    (by rw [c3, wrapU]; omega) (by rw [Int.natCast_ediv]; rfl) (lowU _ hL)
    (Lib.hid (by omega)) (Lib.hid (by omega)) (Lib.hid (by omega)) (Lib.hid (by omega)) (Lib.hid (by omega)) (Lib.hid (by omega)) (Lib.hid (by exact_mod_cast w2)) (Lib.hid (by omega)) (Lib.hid (by omega)) (Lib.hid (by omega)) (Lib.hid (by omega)) LZ w
  rw [cast_q, Int.toNat_natCast, cast_r, ← wh.1, ← wh.2] at key
  exact key
end Go.Proofs.Ytnpnnfbmnlgioaa

namespace Go.Proofs.Ytnpnnfbmnlgioaa
open Go Go.RowKit Dv
set_option linter.unusedVariables false

theorem bitLen_of {y : Nat} (h : 0 < y) (h1 : y < 2 ^ 64) : 1 ≤ Lib.bitLen y ∧ Lib.bitLen y ≤ 64 ∧ 2 ^ (Lib.bitLen y - 1) ≤ y ∧ y < 2 ^ Lib.bitLen y := by
  obtain ⟨a, b, c⟩ := Lib.bitLenAux_bounds 64 y h1 (by omega)
  exact ⟨a, Lib.bitLen_le y 64 (by omega) h1, b, c⟩
theorem leading_any (y : Nat) (k : Nat) (hk : Lib.bitLen y = k) (k1 : 1 ≤ k) (k64 : k ≤ 64)
    (LN : ∀ w, Calls Try.prog 75 #[.int .u64 y] w fun e w' => e = .returned (.int .i64 (Lib.bitLen y)) ∧ w' = w) (w : World) :
    Calls Try.prog 71 #[.int .u64 y] w fun e w' => e = .returned (.int .i64 ((64 - k : Nat) : Int)) ∧ w' = w := by
  rw [hk] at LN
  have hw : IntKind.i64.wrap (64 - (k : Int)) = ((64 - k : Nat) : Int) := by
    simp [IntKind.wrap, IntKind.bits, IntKind.signed]
    omega
  obtain ⟨m, hm⟩ : ∃ m : Int, (k : Int) = m := ⟨_, rfl⟩
  obtain ⟨z, hz⟩ : ∃ z : Int, ((64 - k : Nat) : Int) = z := ⟨_, rfl⟩
  rw [hm] at LN hw
  rw [hz] at hw ⊢
  clear hm hz hk k1 k64
  go_enter Try.func71, Try.ntmps71
  go_wp2_with fail
  refine (LN _).mono ?_
  rintro e w1 ⟨rfl, rfl⟩
  go_wp2_with fail
  go_ret
  exact ⟨rfl, rfl⟩
theorem div64_all (h l y : Nat) (h0 : 0 < h) (h1 : h < y) (l1 : l < 2 ^ 64) (y1 : y < 2 ^ 64)
    (LN : ∀ w, Calls Try.prog 75 #[.int .u64 y] w fun e w' => e = .returned (.int .i64 (Lib.bitLen y)) ∧ w' = w) (w : World) :
    Calls Try.prog 58 #[.int .u64 h, .int .u64 l, .int .u64 y] w fun e w' => e = .returned (.tuple #[.int .u64 (((h * 2 ^ 64 + l) / y : Nat) : Int), .int .u64 (((h * 2 ^ 64 + l) % y : Nat) : Int)]) ∧ w' = w := by
  obtain ⟨k1, k64, a1, a2⟩ := bitLen_of (y := y) (by omega) y1
  obtain ⟨k, hk⟩ : ∃ k, Lib.bitLen y = k := ⟨_, rfl⟩
  have L := leading_any y k hk (by omega) (by omega) LN
  rw [hk] at k1 k64 a1 a2
  have e1 : 2 ^ (k - 1) * 2 ^ (64 - k) = 2 ^ 63 := by rw [← Nat.pow_add]; congr 1; omega
  have e2 : 2 ^ k * 2 ^ (64 - k) = 2 ^ 64 := by rw [← Nat.pow_add]; congr 1; omega
  have hp : 0 < 2 ^ (64 - k) := Nat.pow_pos (by omega)
  refine div64_any h l y (64 - k) h0 h1 l1 (by omega) ?_ ?_ L w
  · rw [← e1]; exact Nat.mul_le_mul_right _ a1
  · rw [← e2]; exact Nat.mul_lt_mul_of_pos_right a2 hp
end Go.Proofs.Ytnpnnfbmnlgioaa

namespace Go.Proofs.Ytnpnnfbmnlgioaa
open Go Go.RowKit Dv
set_option linter.unusedVariables false

/-- Len64's contract, as the shelf has it. -/
def LenOk : Prop := ∀ (y : Nat), y < 2 ^ 64 → ∀ w, Calls Try.prog 75 #[.int .u64 y] w fun e w' => e = .returned (.int .i64 (Lib.bitLen y)) ∧ w' = w

set_option maxHeartbeats 2000000 in
theorem div64_zero (lo y : Int) (w : World) (h1 : 0 ≤ lo) (h2 : 1 ≤ y) (hlo : Hid (lo ≤ 18446744073709551615)) :
    Calls Try.prog 58 #[.int .u64 0, .int .u64 lo, .int .u64 y] w fun e w' => e = .returned (.tuple #[.int .u64 (lo / y), .int .u64 (lo % y)]) ∧ Below w.heap.size w w' := by
  have hb : (y == 0) = false := by simp; omega
  have hb' : decide (y ≤ 0) = false := by simp; omega
  have E : Hid (IntKind.u64.wrap (lo.tdiv y) = lo / y) := by
    show _ = _
    exact wrap_quo h1 (by have := hlo.out; omega) (by omega)
  go_enter Try.func58, Try.ntmps58
  go_wp2
  have e1 := E.out
  go_quiet (fail)
  clear e1
  go_wp2
  go_ret2
  exact ⟨rfl, below_drewN (Below.refl _ _) _⟩
theorem div64_both (LN : LenOk) (h l y : Nat) (h1 : h < y) (l1 : l < 2 ^ 64) (y1 : y < 2 ^ 64) (w : World) :
    Calls Try.prog 58 #[.int .u64 h, .int .u64 l, .int .u64 y] w fun e w' => e = .returned (.tuple #[.int .u64 (((h * 2 ^ 64 + l) / y : Nat) : Int), .int .u64 (((h * 2 ^ 64 + l) % y : Nat) : Int)]) ∧ Below w.heap.size w w' := by
  rcases Nat.eq_zero_or_pos h with rfl | h0
  · rw [Nat.zero_mul, Nat.zero_add]
    exact div64_zero (l : Int) (y : Int) w (by omega) (by omega) (Lib.hid (by omega))
  · refine (div64_all h l y h0 h1 l1 y1 (LN y y1) w).mono ?_
    rintro e w' ⟨rfl, rfl⟩
    exact ⟨rfl, Below.refl _ _⟩
set_option maxHeartbeats 2000000 in
theorem rem64_both (LN : LenOk) (h l y : Nat) (y0 : 0 < y) (l1 : l < 2 ^ 64) (y1 : y < 2 ^ 64) (w : World) :
    Calls Try.prog 57 #[.int .u64 h, .int .u64 l, .int .u64 y] w fun e w' => e = .returned (.int .u64 (((h * 2 ^ 64 + l) % y : Nat) : Int)) ∧ Below w.heap.size w w' := by
  have D := div64_both LN (h % y) l y (Nat.mod_lt _ y0) l1 y1
  have em : (h % y * 2 ^ 64 + l) % y = (h * 2 ^ 64 + l) % y := by rw [Nat.add_mod, Nat.mod_mul_mod, ← Nat.add_mod]
  rw [em] at D
  have t1 : (h : Int).tmod (y : Int) = ((h % y : Nat) : Int) := by rw [Int.tmod_eq_emod_of_nonneg (by omega)]; simp
  obtain ⟨Yi, hYi⟩ : ∃ Yi : Int, (y : Int) = Yi := ⟨_, rfl⟩
  obtain ⟨Hi, hHi⟩ : ∃ Hi : Int, (h : Int) = Hi := ⟨_, rfl⟩
  obtain ⟨Li, hLi⟩ : ∃ Li : Int, (l : Int) = Li := ⟨_, rfl⟩
  obtain ⟨Ri, hRi⟩ : ∃ Ri : Int, (((h * 2 ^ 64 + l) % y : Nat) : Int) = Ri := ⟨_, rfl⟩
  obtain ⟨Mi, hMi⟩ : ∃ Mi : Int, ((h % y : Nat) : Int) = Mi := ⟨_, rfl⟩
  have z : ¬ Yi = 0 := by omega
  rw [hRi, hYi, hLi, hMi] at D
  rw [hHi, hYi, hMi] at t1
  have t2 : Hi % Yi = Mi := by rw [← hHi, ← hYi, ← hMi]; simp
  rw [hRi, hYi, hLi, hHi]
  clear hRi hYi hLi hMi hHi em y0 l1 y1
  go_enter Try.func57, Try.ntmps57
  go_wp2_with fail
  refine (D _).mono ?_
  rintro e w1 ⟨rfl, hb⟩
  go_wp2_with fail
  go_ret
  exact ⟨rfl, hb⟩
set_option maxHeartbeats 2000000 in
theorem wideModulo_both (LN : LenOk) (h l n : Nat) (n0 : 0 < n) (n1 : n ≤ 1000000000000000) (l1 : l < 2 ^ 64) (w : World) :
    Calls Try.prog 29 #[.agg #[.int .u64 h, .int .u64 l], .int .i64 n] w fun e w' => e = .returned (.int .i64 (((h * 2 ^ 64 + l) % n : Nat) : Int)) ∧ Below w.heap.size w w' := by
  have R := rem64_both LN h l n n0 l1 (by omega)
  have m1 : (h * 2 ^ 64 + l) % n < n := Nat.mod_lt _ n0
  have k1 : IntKind.u64.wrap (n : Int) = n := wrapU_in (by omega) (by omega)
  have k2 : IntKind.i64.wrap (((h * 2 ^ 64 + l) % n : Nat) : Int) = (((h * 2 ^ 64 + l) % n : Nat) : Int) := by
    generalize (h * 2 ^ 64 + l) % n = m at m1 ⊢
    simp [IntKind.wrap, IntKind.bits, IntKind.signed]
    omega
  obtain ⟨ni, hni⟩ : ∃ ni : Int, (n : Int) = ni := ⟨_, rfl⟩
  obtain ⟨hi, hhi⟩ : ∃ hi : Int, (h : Int) = hi := ⟨_, rfl⟩
  obtain ⟨li, hli⟩ : ∃ li : Int, (l : Int) = li := ⟨_, rfl⟩
  obtain ⟨ri, hri⟩ : ∃ ri : Int, (((h * 2 ^ 64 + l) % n : Nat) : Int) = ri := ⟨_, rfl⟩
  rw [hni, hhi, hli, hri] at R
  rw [hni] at k1
  rw [hri] at k2
  rw [hni, hhi, hli, hri]
  clear hni hhi hli hri m1 n0 n1 l1
  go_enter Try.func29, Try.ntmps29
  go_wp2_with fail
  refine (R _).mono ?_
  rintro e w1 ⟨rfl, hb⟩
  go_wp2_with fail
  go_ret
  exact ⟨rfl, ((Below.refl _ _).alloc (Nat.le_refl _) _).trans (hb.mono (by simp))⟩
set_option maxHeartbeats 2000000 in
theorem wideDivided_both (LN : LenOk) (h l n : Nat) (n1 : n ≤ 1000000000000000) (l1 : l < 2 ^ 64) (hlt : h < n) (hq : (h * 2 ^ 64 + l) / n < 9223372036854775808) (w : World) :
    Calls Try.prog 30 #[.agg #[.int .u64 h, .int .u64 l], .int .i64 n] w fun e w' => e = .returned (.int .i64 (((h * 2 ^ 64 + l) / n : Nat) : Int)) ∧ Below w.heap.size w w' := by
  have R := div64_both LN h l n hlt l1 (by omega)
  have k1 : IntKind.u64.wrap (n : Int) = n := wrapU_in (by omega) (by omega)
  have k2 : IntKind.i64.wrap (((h * 2 ^ 64 + l) / n : Nat) : Int) = (((h * 2 ^ 64 + l) / n : Nat) : Int) := by
    generalize (h * 2 ^ 64 + l) / n = m at hq ⊢
    simp [IntKind.wrap, IntKind.bits, IntKind.signed]
    omega
  obtain ⟨ni, hni⟩ : ∃ ni : Int, (n : Int) = ni := ⟨_, rfl⟩
  obtain ⟨hi, hhi⟩ : ∃ hi : Int, (h : Int) = hi := ⟨_, rfl⟩
  obtain ⟨li, hli⟩ : ∃ li : Int, (l : Int) = li := ⟨_, rfl⟩
  obtain ⟨ri, hri⟩ : ∃ ri : Int, (((h * 2 ^ 64 + l) % n : Nat) : Int) = ri := ⟨_, rfl⟩
  obtain ⟨qi, hqi⟩ : ∃ qi : Int, (((h * 2 ^ 64 + l) / n : Nat) : Int) = qi := ⟨_, rfl⟩
  rw [hni, hhi, hli, hri, hqi] at R
  rw [hni] at k1
  rw [hqi] at k2
  rw [hni, hhi, hli, hqi]
  clear hni hhi hli hri hqi hq hlt n1 l1
  go_enter Try.func30, Try.ntmps30
  go_wp2_with fail
  refine (R _).mono ?_
  rintro e w1 ⟨rfl, hb⟩
  go_wp2_with fail
  go_ret
  exact ⟨rfl, ((Below.refl _ _).alloc (Nat.le_refl _) _).trans (hb.mono (by simp))⟩
end Go.Proofs.Ytnpnnfbmnlgioaa

