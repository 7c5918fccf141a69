/-
  math/bits.Div64 with a high word: the walk, over letters for the words in between.
-/
import Derived.Test.YtnpnnfbmnlgioaaRows
import Derived.Test.YtnpnnfbmnlgioaaLib
import Derived.Test.YtnpnnfbmnlgioaaDv
namespace Go.Proofs.Ytnpnnfbmnlgioaa
open Go Go.RowKit Dv
set_option linter.unusedVariables false

theorem wrapU (x : Int) : IntKind.u64.wrap x = x % 18446744073709551616 := by simp [IntKind.wrap, IntKind.bits, IntKind.signed]
theorem wrapU_in {x : Int} (h0 : 0 ≤ x) (h1 : x < 18446744073709551616) : IntKind.u64.wrap x = x := by rw [wrapU]; omega
theorem wrap_quo {x y : Int} (h0 : 0 ≤ x) (h1 : x < 18446744073709551616) (hy : 0 < y) : IntKind.u64.wrap (x.tdiv y) = x / y := by
  rw [Int.tdiv_eq_ediv_of_nonneg h0]
  exact wrapU_in (Int.ediv_nonneg h0 (by omega)) (Int.lt_of_le_of_lt (Int.ediv_le_self _ h0) h1)
theorem wrap_rest {x y : Int} (h0 : 0 ≤ x) (h1 : x < 18446744073709551616) (hy : 0 < y) (hy1 : y < 18446744073709551616) : IntKind.u64.wrap (x - IntKind.u64.wrap (x / y * y)) = x % y := by
  have h2 := Int.emod_nonneg x (show y ≠ 0 by omega)
  have h3 := Int.emod_lt_of_pos x hy
  have h4 := Int.mul_ediv_add_emod x y
  rw [Int.mul_comm] at h4
  have h5 : 0 ≤ x / y * y := Int.mul_nonneg (Int.ediv_nonneg h0 (by omega)) (by omega)
  rw [wrapU_in (x := x / y * y) h5 (by omega), wrapU_in (by omega) (by omega)]
  omega
theorem wrap_digit {U d Q Z R : Int} (h : U * 4294967296 + d = Q * Z + R) (h0 : 0 ≤ R) (h1 : R < 18446744073709551616) :
    IntKind.u64.wrap (IntKind.u64.wrap (IntKind.u64.wrap (U * 4294967296) + d) - IntKind.u64.wrap (Q * Z)) = R := by
  simp only [wrapU]
  exact wrapped h h0 h1
theorem digit_rest {u d Z Q : Int} (hZ : 0 < Z) (hQ : Q = (u * 4294967296 + d) / Z) : u * 4294967296 + d = Q * Z + (u * 4294967296 + d) % Z := by
  have := Int.mul_ediv_add_emod (u * 4294967296 + d) Z
  rw [hQ, Int.mul_comm _ Z]
  omega
theorem digit_small {u d Z Q : Int} (hZ : 0 < Z) (u0 : 0 ≤ u) (hu : u < Z) (d0 : 0 ≤ d) (d1 : d < 4294967296) (hQ : Q = (u * 4294967296 + d) / Z) : 0 ≤ Q ∧ Q < 4294967296 := by
  rw [hQ]
  refine ⟨Int.ediv_nonneg (by omega) (by omega), ?_⟩
  rw [Int.ediv_lt_iff_lt_mul hZ]
  omega

set_option maxRecDepth 100000 in
set_option maxHeartbeats 8000000 in
theorem div64_core (H Lo Y S Z a b U L c1 c0 : Int) (h0 : 0 < H) (h1 : H < Y) (l0 : 0 ≤ Lo) (y1 : Y < 18446744073709551616) (s0 : 0 ≤ S) (s1 : S ≤ 63)
    (e1 : IntKind.u64.wrap (Y * 2 ^ S.toNat) = Z) (e2 : Z / 4294967296 = a) (e3 : bits BinOp.and IntKind.u64 Z 4294967295 = b)
    (e4 : bits BinOp.or IntKind.u64 (IntKind.u64.wrap (H * 2 ^ S.toNat)) (Lo / 2 ^ (64 - S).toNat) = U) (e5 : IntKind.u64.wrap (Lo * 2 ^ S.toNat) = L) (e6 : L / 4294967296 = c1) (e7 : bits BinOp.and IntKind.u64 L 4294967295 = c0)
    (hZ : Hid (Z = a * 4294967296 + b)) (a0 : Hid (2147483648 ≤ a)) (a1 : Hid (a < 4294967296)) (b0 : Hid (0 ≤ b)) (b1 : Hid (b < 4294967296)) (u0 : Hid (0 ≤ U)) (uZ : Hid (U < Z)) (d0 : Hid (0 ≤ c1)) (d1 : Hid (c1 < 4294967296)) (g0 : Hid (0 ≤ c0)) (g1 : Hid (c0 < 4294967296))
    (LZ : ∀ w, Calls Try.prog 71 #[.int .u64 Y] w fun e w' => e = .returned (.int .i64 S) ∧ w' = w) (w : World) :
    Calls Try.prog 58 #[.int .u64 H, .int .u64 Lo, .int .u64 Y] w fun e w' => e = .returned (.tuple #[.int .u64 ((U * 4294967296 + c1) / Z * 4294967296 + ((U * 4294967296 + c1) % Z * 4294967296 + c0) / Z), .int .u64 (((U * 4294967296 + c1) % Z * 4294967296 + c0) % Z / 2 ^ S.toNat)]) ∧ w' = w := by
  have k1 : (Y == 0) = false := by simp; omega
  have k2 : decide (Y ≤ H) = false := by simp; omega
  have k3 : (H == 0) = false := by simp; omega
  have k4 : IntKind.u64.wrap S = S := wrapU_in s0 (by omega)
  have k5 : IntKind.u64.wrap (64 - S) = 64 - S := wrapU_in (by omega) (by omega)
  have zM : Hid (Z < 18446744073709551616) := Lib.hid (by have := hZ.out; have := a1.out; have := b1.out; omega)
  have aP : Hid (0 < a) := Lib.hid (by have := a0.out; omega)
  have zP : Hid (0 < Z) := Lib.hid (by have := hZ.out; have := a0.out; have := b0.out; omega)
  have UM : Hid (U < 18446744073709551616) := Lib.hid (by have := uZ.out; have := zM.out; omega)
  have k6 : IntKind.u64.wrap (U.tdiv a) = U / a := wrap_quo u0.out UM.out aP.out
  have k7 : IntKind.u64.wrap (U - IntKind.u64.wrap (U / a * a)) = U % a := wrap_rest u0.out UM.out aP.out (by have := a1.out; omega)
  have kz : ¬ a = 0 := by have := a0.out; omega
  have DG := Lib.hid (DigI.first a0.out b0.out b1.out d0.out d1.out u0.out (by have := hZ.out; have := uZ.out; omega) : DigI a b U c1 (U / a) (U % a))
  have RB := Lib.hid (show U % a < 4294967296 by have := Int.emod_lt_of_pos U aP.out; have := a1.out; omega)
  obtain ⟨qi, hqi⟩ : ∃ qi, U / a = qi := ⟨_, rfl⟩
  obtain ⟨ri, hri⟩ : ∃ ri, U % a = ri := ⟨_, rfl⟩
  rw [hqi] at k6 k7 DG
  rw [hri] at k7 DG RB
  clear hqi hri
  go_enter Try.func58, Try.ntmps58
  go_wp2_with fail
  refine (LZ _).mono ?_
  rintro e w1 ⟨rfl, rfl⟩
  clear LZ
  go_wp2_with fail
  go_loop [15, 16] (fun x y => ∃ Q R : Int, x = .int .u64 Q ∧ y = .int .u64 R ∧ Hid (DigI a b U c1 Q R) ∧ Hid (R < 4294967296)) (fun x _ => (intOf x).toNat)
  case atStart => exact ⟨_, _, rfl, rfl, DG, RB⟩
  case round =>
    obtain ⟨Q, R, rfl, rfl, D, hR⟩ := hrel
    clear DG RB
    have Q0 := D.out.q0
    have Q1 := D.out.q1
    have R0 := D.out.r0
    have HA0 := a0.out
    have HA1 := a1.out
    have HR := hR.out
    have m1 : IntKind.u64.wrap (R + a) = R + a := wrapU_in (by omega) (by omega)
    have m2 : IntKind.u64.wrap (4294967296 * R) = 4294967296 * R := wrapU_in (by omega) (by omega)
    have m3 : IntKind.u64.wrap (4294967296 * R + c1) = 4294967296 * R + c1 := wrapU_in (by have := d0.out; omega) (by have := d1.out; omega)
    have hZu := Lib.hid (show U < a * 4294967296 + b by have := hZ.out; have := uZ.out; omega)
    have DN := Lib.hid (fun hc => DigI.down a0.out b0.out b1.out d0.out d1.out u0.out hZu.out D.out hc)
    have DS := Lib.hid (fun hc => DigI.stop a0.out b0.out b1.out d0.out d1.out u0.out hZu.out D.out hc)
    have QB : Hid (0 ≤ Q * b ∧ Q * b < 18446744073709551616) := Lib.hid (by
      have h1 := Int.mul_nonneg Q0 b0.out
      have h2 : Q * b ≤ 4294967297 * b := Int.mul_le_mul_of_nonneg_right Q1 b0.out
      have h3 := b1.out
      omega)
    have m4 : IntKind.u64.wrap (Q * b) = Q * b := wrapU_in QB.out.1 QB.out.2
    obtain ⟨P, hP⟩ : ∃ P, Q * b = P := ⟨_, rfl⟩
    rw [hP] at m4 DN DS QB
    by_cases hq : 4294967296 ≤ Q
    · have n0 : decide (4294967296 ≤ Q) = true := by simpa using hq
      obtain ⟨Q2, D2⟩ := DN.out (.inl hq)
      have HD2 := Lib.hid D2
      have m5 : IntKind.u64.wrap (Q - 1) = Q - 1 := wrapU_in (by omega) (by omega)
      clear D2 DN DS
      by_cases hg : 4294967296 ≤ R + a
      · have n1 : decide (4294967296 ≤ R + a) = true := by simpa using hg
        have DE := Lib.hid (DigI.over a0.out b0.out b1.out d0.out d1.out u0.out hZu.out HD2.out (by omega) hg)
        obtain ⟨Q', hQ'⟩ : ∃ Q', Q - 1 = Q' := ⟨_, rfl⟩
        rw [hQ'] at m5 DE
        clear HD2 Q2
        have E1 := Lib.hid (show Q' = (U * 4294967296 + c1) / Z by rw [hZ.out]; exact DE.out)
        have q1b := Lib.hid (digit_small zP.out u0.out uZ.out d0.out d1.out E1.out)
        have i1 : IntKind.u64.wrap (IntKind.u64.wrap (IntKind.u64.wrap (U * 4294967296) + c1) - IntKind.u64.wrap (Q' * Z)) = (U * 4294967296 + c1) % Z := wrap_digit (digit_rest zP.out E1.out) (Int.emod_nonneg _ (by have := zP.out; omega)) (Int.lt_trans (Int.emod_lt_of_pos _ zP.out) zM.out)
        have r10 := Lib.hid (Int.emod_nonneg (U * 4294967296 + c1) (show Z ≠ 0 by have := zP.out; omega))
        have r1Z := Lib.hid (Int.emod_lt_of_pos (U * 4294967296 + c1) zP.out)
        obtain ⟨r1, hr1⟩ : ∃ r1, (U * 4294967296 + c1) % Z = r1 := ⟨_, rfl⟩
        rw [hr1] at i1 r10 r1Z
        have HR1 := Lib.hid hr1
        have r1M : Hid (r1 < 18446744073709551616) := Lib.hid (Int.lt_trans r1Z.out zM.out)
        have i2 : IntKind.u64.wrap (r1.tdiv a) = r1 / a := wrap_quo r10.out r1M.out aP.out
        have i3 : IntKind.u64.wrap (r1 - IntKind.u64.wrap (r1 / a * a)) = r1 % a := wrap_rest r10.out r1M.out aP.out (by have := a1.out; omega)
        have DG2 := Lib.hid (DigI.first a0.out b0.out b1.out g0.out g1.out r10.out (by have := hZ.out; have := r1Z.out; omega) : DigI a b r1 c0 (r1 / a) (r1 % a))
        have RB2 := Lib.hid (show r1 % a < 4294967296 by have := Int.emod_lt_of_pos r1 aP.out; have := a1.out; omega)
        obtain ⟨qj, hqj⟩ : ∃ qj, r1 / a = qj := ⟨_, rfl⟩
        obtain ⟨rj, hrj⟩ : ∃ rj, r1 % a = rj := ⟨_, rfl⟩
        rw [hqj] at i2 i3 DG2
        rw [hrj] at i3 DG2 RB2
        clear hqj hrj hr1
        go_wp2_with fail
        go_loop [18, 16] (fun x y => ∃ Qz R : Int, x = .int .u64 Qz ∧ y = .int .u64 R ∧ Hid (DigI a b r1 c0 Qz R) ∧ Hid (R < 4294967296)) (fun x _ => (intOf x).toNat)
        case atStart => exact ⟨_, _, rfl, rfl, DG2, RB2⟩
        case round =>
          obtain ⟨Qz, R, rfl, rfl, D, hR⟩ := hrel
          clear DG2 RB2
          have Q0 := D.out.q0
          have Q1 := D.out.q1
          have R0 := D.out.r0
          have HA0 := a0.out
          have HA1 := a1.out
          have HR := hR.out
          have m1 : IntKind.u64.wrap (R + a) = R + a := wrapU_in (by omega) (by omega)
          have m2 : IntKind.u64.wrap (4294967296 * R) = 4294967296 * R := wrapU_in (by omega) (by omega)
          have m3 : IntKind.u64.wrap (4294967296 * R + c0) = 4294967296 * R + c0 := wrapU_in (by have := g0.out; omega) (by have := g1.out; omega)
          have hZu := Lib.hid (show r1 < a * 4294967296 + b by have := hZ.out; have := r1Z.out; omega)
          have DN := Lib.hid (fun hc => DigI.down a0.out b0.out b1.out g0.out g1.out r10.out hZu.out D.out hc)
          have DS := Lib.hid (fun hc => DigI.stop a0.out b0.out b1.out g0.out g1.out r10.out hZu.out D.out hc)
          have QB : Hid (0 ≤ Qz * b ∧ Qz * b < 18446744073709551616) := Lib.hid (by
            have h1 := Int.mul_nonneg Q0 b0.out
            have h2 : Qz * b ≤ 4294967297 * b := Int.mul_le_mul_of_nonneg_right Q1 b0.out
            have h3 := b1.out
            omega)
          have m4 : IntKind.u64.wrap (Qz * b) = Qz * b := wrapU_in QB.out.1 QB.out.2
          obtain ⟨P, hP⟩ : ∃ P, Qz * b = P := ⟨_, rfl⟩
          rw [hP] at m4 DN DS QB
          by_cases hq : 4294967296 ≤ Qz
          · have n0 : decide (4294967296 ≤ Qz) = true := by simpa using hq
            obtain ⟨Q2, D2⟩ := DN.out (.inl hq)
            have HD2 := Lib.hid D2
            have m5 : IntKind.u64.wrap (Qz - 1) = Qz - 1 := wrapU_in (by omega) (by omega)
            clear D2 DN DS
            by_cases hg : 4294967296 ≤ R + a
            · have n1 : decide (4294967296 ≤ R + a) = true := by simpa using hg
              have DE := Lib.hid (DigI.over a0.out b0.out b1.out g0.out g1.out r10.out hZu.out HD2.out (by omega) hg)
              obtain ⟨Qz', hQ'⟩ : ∃ Qz', Qz - 1 = Qz' := ⟨_, rfl⟩
              rw [hQ'] at m5 DE
              clear HD2 Q2
              have E2 := Lib.hid (show Qz' = (r1 * 4294967296 + c0) / Z by rw [hZ.out]; exact DE.out)
              have q2 := digit_small zP.out r10.out r1Z.out g0.out g1.out E2.out
              have j1 : IntKind.u64.wrap (Q' * 4294967296) = Q' * 4294967296 := wrapU_in (by have := q1b.out; omega) (by have := q1b.out; omega)
              have j2 : IntKind.u64.wrap (Q' * 4294967296 + Qz') = Q' * 4294967296 + Qz' := wrapU_in (by have := q1b.out; omega) (by have := q1b.out; omega)
              have j3 : IntKind.u64.wrap (IntKind.u64.wrap (IntKind.u64.wrap (r1 * 4294967296) + c0) - IntKind.u64.wrap (Qz' * Z)) = (r1 * 4294967296 + c0) % Z := wrap_digit (digit_rest zP.out E2.out) (Int.emod_nonneg _ (by have := zP.out; omega)) (Int.lt_trans (Int.emod_lt_of_pos _ zP.out) zM.out)
              clear q2
              go_wp2_with fail
              go_ret2
              refine ⟨?_, rfl⟩
              rw [HR1.out, ← E1.out, ← E2.out]
              first | rfl | exact (by go_simp; done)
            · have n1 : decide (4294967296 ≤ R + a) = false := by simpa using hg
              go_wp2_with fail
              go_round
              case rel => exact ⟨Qz - 1, R + a, rfl, rfl, HD2, Lib.hid (by omega)⟩
              case measure => simp [intOf]; omega
          · have n0 : decide (4294967296 ≤ Qz) = false := by simpa using hq
            by_cases hp : 4294967296 * R + c0 < P
            · have n2 : decide (4294967296 * R + c0 < P) = true := by simpa using hp
              obtain ⟨Q2, D2⟩ := DN.out (.inr hp)
              have HD2 := Lib.hid D2
              have m5 : IntKind.u64.wrap (Qz - 1) = Qz - 1 := wrapU_in (by omega) (by omega)
              clear D2 DN DS
              by_cases hg : 4294967296 ≤ R + a
              · have n1 : decide (4294967296 ≤ R + a) = true := by simpa using hg
                have DE := Lib.hid (DigI.over a0.out b0.out b1.out g0.out g1.out r10.out hZu.out HD2.out (by omega) hg)
                obtain ⟨Qz', hQ'⟩ : ∃ Qz', Qz - 1 = Qz' := ⟨_, rfl⟩
                rw [hQ'] at m5 DE
                clear HD2 Q2
                have E2 := Lib.hid (show Qz' = (r1 * 4294967296 + c0) / Z by rw [hZ.out]; exact DE.out)
                have q2 := digit_small zP.out r10.out r1Z.out g0.out g1.out E2.out
                have j1 : IntKind.u64.wrap (Q' * 4294967296) = Q' * 4294967296 := wrapU_in (by have := q1b.out; omega) (by have := q1b.out; omega)
                have j2 : IntKind.u64.wrap (Q' * 4294967296 + Qz') = Q' * 4294967296 + Qz' := wrapU_in (by have := q1b.out; omega) (by have := q1b.out; omega)
                have j3 : IntKind.u64.wrap (IntKind.u64.wrap (IntKind.u64.wrap (r1 * 4294967296) + c0) - IntKind.u64.wrap (Qz' * Z)) = (r1 * 4294967296 + c0) % Z := wrap_digit (digit_rest zP.out E2.out) (Int.emod_nonneg _ (by have := zP.out; omega)) (Int.lt_trans (Int.emod_lt_of_pos _ zP.out) zM.out)
                clear q2
                go_wp2_with fail
                go_ret2
                refine ⟨?_, rfl⟩
                rw [HR1.out, ← E1.out, ← E2.out]
                first | rfl | exact (by go_simp; done)
              · have n1 : decide (4294967296 ≤ R + a) = false := by simpa using hg
                go_wp2_with fail
                go_round
                case rel => exact ⟨Qz - 1, R + a, rfl, rfl, HD2, Lib.hid (by omega)⟩
                case measure => simp [intOf]; omega
            · have n2 : decide (4294967296 * R + c0 < P) = false := by simpa using hp
              have DE := Lib.hid (DS.out (by omega))
              clear DN DS
              have E2 := Lib.hid (show Qz = (r1 * 4294967296 + c0) / Z by rw [hZ.out]; exact DE.out)
              have q2 := digit_small zP.out r10.out r1Z.out g0.out g1.out E2.out
              have j1 : IntKind.u64.wrap (Q' * 4294967296) = Q' * 4294967296 := wrapU_in (by have := q1b.out; omega) (by have := q1b.out; omega)
              have j2 : IntKind.u64.wrap (Q' * 4294967296 + Qz) = Q' * 4294967296 + Qz := wrapU_in (by have := q1b.out; omega) (by have := q1b.out; omega)
              have j3 : IntKind.u64.wrap (IntKind.u64.wrap (IntKind.u64.wrap (r1 * 4294967296) + c0) - IntKind.u64.wrap (Qz * Z)) = (r1 * 4294967296 + c0) % Z := wrap_digit (digit_rest zP.out E2.out) (Int.emod_nonneg _ (by have := zP.out; omega)) (Int.lt_trans (Int.emod_lt_of_pos _ zP.out) zM.out)
              clear q2
              go_wp2_with fail
              go_ret2
              refine ⟨?_, rfl⟩
              rw [HR1.out, ← E1.out, ← E2.out]
              first | rfl | exact (by go_simp; done)
      · have n1 : decide (4294967296 ≤ R + a) = false := by simpa using hg
        go_wp2_with fail
        go_round
        case rel => exact ⟨Q - 1, R + a, rfl, rfl, HD2, Lib.hid (by omega)⟩
        case measure => simp [intOf]; omega
    · have n0 : decide (4294967296 ≤ Q) = false := by simpa using hq
      by_cases hp : 4294967296 * R + c1 < P
      · have n2 : decide (4294967296 * R + c1 < P) = true := by simpa using hp
        obtain ⟨Q2, D2⟩ := DN.out (.inr hp)
        have HD2 := Lib.hid D2
        have m5 : IntKind.u64.wrap (Q - 1) = Q - 1 := wrapU_in (by omega) (by omega)
        clear D2 DN DS
        by_cases hg : 4294967296 ≤ R + a
        · have n1 : decide (4294967296 ≤ R + a) = true := by simpa using hg
          have DE := Lib.hid (DigI.over a0.out b0.out b1.out d0.out d1.out u0.out hZu.out HD2.out (by omega) hg)
          obtain ⟨Q', hQ'⟩ : ∃ Q', Q - 1 = Q' := ⟨_, rfl⟩
          rw [hQ'] at m5 DE
          clear HD2 Q2
          have E1 := Lib.hid (show Q' = (U * 4294967296 + c1) / Z by rw [hZ.out]; exact DE.out)
          have q1b := Lib.hid (digit_small zP.out u0.out uZ.out d0.out d1.out E1.out)
          have i1 : IntKind.u64.wrap (IntKind.u64.wrap (IntKind.u64.wrap (U * 4294967296) + c1) - IntKind.u64.wrap (Q' * Z)) = (U * 4294967296 + c1) % Z := wrap_digit (digit_rest zP.out E1.out) (Int.emod_nonneg _ (by have := zP.out; omega)) (Int.lt_trans (Int.emod_lt_of_pos _ zP.out) zM.out)
          have r10 := Lib.hid (Int.emod_nonneg (U * 4294967296 + c1) (show Z ≠ 0 by have := zP.out; omega))
          have r1Z := Lib.hid (Int.emod_lt_of_pos (U * 4294967296 + c1) zP.out)
          obtain ⟨r1, hr1⟩ : ∃ r1, (U * 4294967296 + c1) % Z = r1 := ⟨_, rfl⟩
          rw [hr1] at i1 r10 r1Z
          have HR1 := Lib.hid hr1
          have r1M : Hid (r1 < 18446744073709551616) := Lib.hid (Int.lt_trans r1Z.out zM.out)
          have i2 : IntKind.u64.wrap (r1.tdiv a) = r1 / a := wrap_quo r10.out r1M.out aP.out
          have i3 : IntKind.u64.wrap (r1 - IntKind.u64.wrap (r1 / a * a)) = r1 % a := wrap_rest r10.out r1M.out aP.out (by have := a1.out; omega)
          have DG2 := Lib.hid (DigI.first a0.out b0.out b1.out g0.out g1.out r10.out (by have := hZ.out; have := r1Z.out; omega) : DigI a b r1 c0 (r1 / a) (r1 % a))
          have RB2 := Lib.hid (show r1 % a < 4294967296 by have := Int.emod_lt_of_pos r1 aP.out; have := a1.out; omega)
          obtain ⟨qj, hqj⟩ : ∃ qj, r1 / a = qj := ⟨_, rfl⟩
          obtain ⟨rj, hrj⟩ : ∃ rj, r1 % a = rj := ⟨_, rfl⟩
          rw [hqj] at i2 i3 DG2
          rw [hrj] at i3 DG2 RB2
          clear hqj hrj hr1
          go_wp2_with fail
          go_loop [18, 16] (fun x y => ∃ Qz R : Int, x = .int .u64 Qz ∧ y = .int .u64 R ∧ Hid (DigI a b r1 c0 Qz R) ∧ Hid (R < 4294967296)) (fun x _ => (intOf x).toNat)
          case atStart => exact ⟨_, _, rfl, rfl, DG2, RB2⟩
          case round =>
            obtain ⟨Qz, R, rfl, rfl, D, hR⟩ := hrel
            clear DG2 RB2
            have Q0 := D.out.q0
            have Q1 := D.out.q1
            have R0 := D.out.r0
            have HA0 := a0.out
            have HA1 := a1.out
            have HR := hR.out
            have m1 : IntKind.u64.wrap (R + a) = R + a := wrapU_in (by omega) (by omega)
            have m2 : IntKind.u64.wrap (4294967296 * R) = 4294967296 * R := wrapU_in (by omega) (by omega)
            have m3 : IntKind.u64.wrap (4294967296 * R + c0) = 4294967296 * R + c0 := wrapU_in (by have := g0.out; omega) (by have := g1.out; omega)
            have hZu := Lib.hid (show r1 < a * 4294967296 + b by have := hZ.out; have := r1Z.out; omega)
            have DN := Lib.hid (fun hc => DigI.down a0.out b0.out b1.out g0.out g1.out r10.out hZu.out D.out hc)
            have DS := Lib.hid (fun hc => DigI.stop a0.out b0.out b1.out g0.out g1.out r10.out hZu.out D.out hc)
            have QB : Hid (0 ≤ Qz * b ∧ Qz * b < 18446744073709551616) := Lib.hid (by
              have h1 := Int.mul_nonneg Q0 b0.out
              have h2 : Qz * b ≤ 4294967297 * b := Int.mul_le_mul_of_nonneg_right Q1 b0.out
              have h3 := b1.out
              omega)
            have m4 : IntKind.u64.wrap (Qz * b) = Qz * b := wrapU_in QB.out.1 QB.out.2
            obtain ⟨P, hP⟩ : ∃ P, Qz * b = P := ⟨_, rfl⟩
            rw [hP] at m4 DN DS QB
            by_cases hq : 4294967296 ≤ Qz
            · have n0 : decide (4294967296 ≤ Qz) = true := by simpa using hq
              obtain ⟨Q2, D2⟩ := DN.out (.inl hq)
              have HD2 := Lib.hid D2
              have m5 : IntKind.u64.wrap (Qz - 1) = Qz - 1 := wrapU_in (by omega) (by omega)
              clear D2 DN DS
              by_cases hg : 4294967296 ≤ R + a
              · have n1 : decide (4294967296 ≤ R + a) = true := by simpa using hg
                have DE := Lib.hid (DigI.over a0.out b0.out b1.out g0.out g1.out r10.out hZu.out HD2.out (by omega) hg)
                obtain ⟨Qz', hQ'⟩ : ∃ Qz', Qz - 1 = Qz' := ⟨_, rfl⟩
                rw [hQ'] at m5 DE
                clear HD2 Q2
                have E2 := Lib.hid (show Qz' = (r1 * 4294967296 + c0) / Z by rw [hZ.out]; exact DE.out)
                have q2 := digit_small zP.out r10.out r1Z.out g0.out g1.out E2.out
                have j1 : IntKind.u64.wrap (Q' * 4294967296) = Q' * 4294967296 := wrapU_in (by have := q1b.out; omega) (by have := q1b.out; omega)
                have j2 : IntKind.u64.wrap (Q' * 4294967296 + Qz') = Q' * 4294967296 + Qz' := wrapU_in (by have := q1b.out; omega) (by have := q1b.out; omega)
                have j3 : IntKind.u64.wrap (IntKind.u64.wrap (IntKind.u64.wrap (r1 * 4294967296) + c0) - IntKind.u64.wrap (Qz' * Z)) = (r1 * 4294967296 + c0) % Z := wrap_digit (digit_rest zP.out E2.out) (Int.emod_nonneg _ (by have := zP.out; omega)) (Int.lt_trans (Int.emod_lt_of_pos _ zP.out) zM.out)
                clear q2
                go_wp2_with fail
                go_ret2
                refine ⟨?_, rfl⟩
                rw [HR1.out, ← E1.out, ← E2.out]
                first | rfl | exact (by go_simp; done)
              · have n1 : decide (4294967296 ≤ R + a) = false := by simpa using hg
                go_wp2_with fail
                go_round
                case rel => exact ⟨Qz - 1, R + a, rfl, rfl, HD2, Lib.hid (by omega)⟩
                case measure => simp [intOf]; omega
            · have n0 : decide (4294967296 ≤ Qz) = false := by simpa using hq
              by_cases hp : 4294967296 * R + c0 < P
              · have n2 : decide (4294967296 * R + c0 < P) = true := by simpa using hp
                obtain ⟨Q2, D2⟩ := DN.out (.inr hp)
                have HD2 := Lib.hid D2
                have m5 : IntKind.u64.wrap (Qz - 1) = Qz - 1 := wrapU_in (by omega) (by omega)
                clear D2 DN DS
                by_cases hg : 4294967296 ≤ R + a
                · have n1 : decide (4294967296 ≤ R + a) = true := by simpa using hg
                  have DE := Lib.hid (DigI.over a0.out b0.out b1.out g0.out g1.out r10.out hZu.out HD2.out (by omega) hg)
                  obtain ⟨Qz', hQ'⟩ : ∃ Qz', Qz - 1 = Qz' := ⟨_, rfl⟩
                  rw [hQ'] at m5 DE
                  clear HD2 Q2
                  have E2 := Lib.hid (show Qz' = (r1 * 4294967296 + c0) / Z by rw [hZ.out]; exact DE.out)
                  have q2 := digit_small zP.out r10.out r1Z.out g0.out g1.out E2.out
                  have j1 : IntKind.u64.wrap (Q' * 4294967296) = Q' * 4294967296 := wrapU_in (by have := q1b.out; omega) (by have := q1b.out; omega)
                  have j2 : IntKind.u64.wrap (Q' * 4294967296 + Qz') = Q' * 4294967296 + Qz' := wrapU_in (by have := q1b.out; omega) (by have := q1b.out; omega)
                  have j3 : IntKind.u64.wrap (IntKind.u64.wrap (IntKind.u64.wrap (r1 * 4294967296) + c0) - IntKind.u64.wrap (Qz' * Z)) = (r1 * 4294967296 + c0) % Z := wrap_digit (digit_rest zP.out E2.out) (Int.emod_nonneg _ (by have := zP.out; omega)) (Int.lt_trans (Int.emod_lt_of_pos _ zP.out) zM.out)
                  clear q2
                  go_wp2_with fail
                  go_ret2
                  refine ⟨?_, rfl⟩
                  rw [HR1.out, ← E1.out, ← E2.out]
                  first | rfl | exact (by go_simp; done)
                · have n1 : decide (4294967296 ≤ R + a) = false := by simpa using hg
                  go_wp2_with fail
                  go_round
                  case rel => exact ⟨Qz - 1, R + a, rfl, rfl, HD2, Lib.hid (by omega)⟩
                  case measure => simp [intOf]; omega
              · have n2 : decide (4294967296 * R + c0 < P) = false := by simpa using hp
                have DE := Lib.hid (DS.out (by omega))
                clear DN DS
                have E2 := Lib.hid (show Qz = (r1 * 4294967296 + c0) / Z by rw [hZ.out]; exact DE.out)
                have q2 := digit_small zP.out r10.out r1Z.out g0.out g1.out E2.out
                have j1 : IntKind.u64.wrap (Q' * 4294967296) = Q' * 4294967296 := wrapU_in (by have := q1b.out; omega) (by have := q1b.out; omega)
                have j2 : IntKind.u64.wrap (Q' * 4294967296 + Qz) = Q' * 4294967296 + Qz := wrapU_in (by have := q1b.out; omega) (by have := q1b.out; omega)
                have j3 : IntKind.u64.wrap (IntKind.u64.wrap (IntKind.u64.wrap (r1 * 4294967296) + c0) - IntKind.u64.wrap (Qz * Z)) = (r1 * 4294967296 + c0) % Z := wrap_digit (digit_rest zP.out E2.out) (Int.emod_nonneg _ (by have := zP.out; omega)) (Int.lt_trans (Int.emod_lt_of_pos _ zP.out) zM.out)
                clear q2
                go_wp2_with fail
                go_ret2
                refine ⟨?_, rfl⟩
                rw [HR1.out, ← E1.out, ← E2.out]
                first | rfl | exact (by go_simp; done)
        · have n1 : decide (4294967296 ≤ R + a) = false := by simpa using hg
          go_wp2_with fail
          go_round
          case rel => exact ⟨Q - 1, R + a, rfl, rfl, HD2, Lib.hid (by omega)⟩
          case measure => simp [intOf]; omega
      · have n2 : decide (4294967296 * R + c1 < P) = false := by simpa using hp
        have DE := Lib.hid (DS.out (by omega))
        clear DN DS
        have E1 := Lib.hid (show Q = (U * 4294967296 + c1) / Z by rw [hZ.out]; exact DE.out)
        have q1b := Lib.hid (digit_small zP.out u0.out uZ.out d0.out d1.out E1.out)
        have i1 : IntKind.u64.wrap (IntKind.u64.wrap (IntKind.u64.wrap (U * 4294967296) + c1) - IntKind.u64.wrap (Q * Z)) = (U * 4294967296 + c1) % Z := wrap_digit (digit_rest zP.out E1.out) (Int.emod_nonneg _ (by have := zP.out; omega)) (Int.lt_trans (Int.emod_lt_of_pos _ zP.out) zM.out)
        have r10 := Lib.hid (Int.emod_nonneg (U * 4294967296 + c1) (show Z ≠ 0 by have := zP.out; omega))
        have r1Z := Lib.hid (Int.emod_lt_of_pos (U * 4294967296 + c1) zP.out)
        obtain ⟨r1, hr1⟩ : ∃ r1, (U * 4294967296 + c1) % Z = r1 := ⟨_, rfl⟩
        rw [hr1] at i1 r10 r1Z
        have HR1 := Lib.hid hr1
        have r1M : Hid (r1 < 18446744073709551616) := Lib.hid (Int.lt_trans r1Z.out zM.out)
        have i2 : IntKind.u64.wrap (r1.tdiv a) = r1 / a := wrap_quo r10.out r1M.out aP.out
        have i3 : IntKind.u64.wrap (r1 - IntKind.u64.wrap (r1 / a * a)) = r1 % a := wrap_rest r10.out r1M.out aP.out (by have := a1.out; omega)
        have DG2 := Lib.hid (DigI.first a0.out b0.out b1.out g0.out g1.out r10.out (by have := hZ.out; have := r1Z.out; omega) : DigI a b r1 c0 (r1 / a) (r1 % a))
        have RB2 := Lib.hid (show r1 % a < 4294967296 by have := Int.emod_lt_of_pos r1 aP.out; have := a1.out; omega)
        obtain ⟨qj, hqj⟩ : ∃ qj, r1 / a = qj := ⟨_, rfl⟩
        obtain ⟨rj, hrj⟩ : ∃ rj, r1 % a = rj := ⟨_, rfl⟩
        rw [hqj] at i2 i3 DG2
        rw [hrj] at i3 DG2 RB2
        clear hqj hrj hr1
        go_wp2_with fail
        go_loop [18, 16] (fun x y => ∃ Qz R : Int, x = .int .u64 Qz ∧ y = .int .u64 R ∧ Hid (DigI a b r1 c0 Qz R) ∧ Hid (R < 4294967296)) (fun x _ => (intOf x).toNat)
        case atStart => exact ⟨_, _, rfl, rfl, DG2, RB2⟩
        case round =>
          obtain ⟨Qz, R, rfl, rfl, D, hR⟩ := hrel
          clear DG2 RB2
          have Q0 := D.out.q0
          have Q1 := D.out.q1
          have R0 := D.out.r0
          have HA0 := a0.out
          have HA1 := a1.out
          have HR := hR.out
          have m1 : IntKind.u64.wrap (R + a) = R + a := wrapU_in (by omega) (by omega)
          have m2 : IntKind.u64.wrap (4294967296 * R) = 4294967296 * R := wrapU_in (by omega) (by omega)
          have m3 : IntKind.u64.wrap (4294967296 * R + c0) = 4294967296 * R + c0 := wrapU_in (by have := g0.out; omega) (by have := g1.out; omega)
          have hZu := Lib.hid (show r1 < a * 4294967296 + b by have := hZ.out; have := r1Z.out; omega)
          have DN := Lib.hid (fun hc => DigI.down a0.out b0.out b1.out g0.out g1.out r10.out hZu.out D.out hc)
          have DS := Lib.hid (fun hc => DigI.stop a0.out b0.out b1.out g0.out g1.out r10.out hZu.out D.out hc)
          have QB : Hid (0 ≤ Qz * b ∧ Qz * b < 18446744073709551616) := Lib.hid (by
            have h1 := Int.mul_nonneg Q0 b0.out
            have h2 : Qz * b ≤ 4294967297 * b := Int.mul_le_mul_of_nonneg_right Q1 b0.out
            have h3 := b1.out
            omega)
          have m4 : IntKind.u64.wrap (Qz * b) = Qz * b := wrapU_in QB.out.1 QB.out.2
          obtain ⟨P, hP⟩ : ∃ P, Qz * b = P := ⟨_, rfl⟩
          rw [hP] at m4 DN DS QB
          by_cases hq : 4294967296 ≤ Qz
          · have n0 : decide (4294967296 ≤ Qz) = true := by simpa using hq
            obtain ⟨Q2, D2⟩ := DN.out (.inl hq)
            have HD2 := Lib.hid D2
            have m5 : IntKind.u64.wrap (Qz - 1) = Qz - 1 := wrapU_in (by omega) (by omega)
            clear D2 DN DS
            by_cases hg : 4294967296 ≤ R + a
            · have n1 : decide (4294967296 ≤ R + a) = true := by simpa using hg
              have DE := Lib.hid (DigI.over a0.out b0.out b1.out g0.out g1.out r10.out hZu.out HD2.out (by omega) hg)
              obtain ⟨Qz', hQ'⟩ : ∃ Qz', Qz - 1 = Qz' := ⟨_, rfl⟩
              rw [hQ'] at m5 DE
              clear HD2 Q2
              have E2 := Lib.hid (show Qz' = (r1 * 4294967296 + c0) / Z by rw [hZ.out]; exact DE.out)
              have q2 := digit_small zP.out r10.out r1Z.out g0.out g1.out E2.out
              have j1 : IntKind.u64.wrap (Q * 4294967296) = Q * 4294967296 := wrapU_in (by have := q1b.out; omega) (by have := q1b.out; omega)
              have j2 : IntKind.u64.wrap (Q * 4294967296 + Qz') = Q * 4294967296 + Qz' := wrapU_in (by have := q1b.out; omega) (by have := q1b.out; omega)
              have j3 : IntKind.u64.wrap (IntKind.u64.wrap (IntKind.u64.wrap (r1 * 4294967296) + c0) - IntKind.u64.wrap (Qz' * Z)) = (r1 * 4294967296 + c0) % Z := wrap_digit (digit_rest zP.out E2.out) (Int.emod_nonneg _ (by have := zP.out; omega)) (Int.lt_trans (Int.emod_lt_of_pos _ zP.out) zM.out)
              clear q2
              go_wp2_with fail
              go_ret2
              refine ⟨?_, rfl⟩
              rw [HR1.out, ← E1.out, ← E2.out]
              first | rfl | exact (by go_simp; done)
            · have n1 : decide (4294967296 ≤ R + a) = false := by simpa using hg
              go_wp2_with fail
              go_round
              case rel => exact ⟨Qz - 1, R + a, rfl, rfl, HD2, Lib.hid (by omega)⟩
              case measure => simp [intOf]; omega
          · have n0 : decide (4294967296 ≤ Qz) = false := by simpa using hq
            by_cases hp : 4294967296 * R + c0 < P
            · have n2 : decide (4294967296 * R + c0 < P) = true := by simpa using hp
              obtain ⟨Q2, D2⟩ := DN.out (.inr hp)
              have HD2 := Lib.hid D2
              have m5 : IntKind.u64.wrap (Qz - 1) = Qz - 1 := wrapU_in (by omega) (by omega)
              clear D2 DN DS
              by_cases hg : 4294967296 ≤ R + a
              · have n1 : decide (4294967296 ≤ R + a) = true := by simpa using hg
                have DE := Lib.hid (DigI.over a0.out b0.out b1.out g0.out g1.out r10.out hZu.out HD2.out (by omega) hg)
                obtain ⟨Qz', hQ'⟩ : ∃ Qz', Qz - 1 = Qz' := ⟨_, rfl⟩
                rw [hQ'] at m5 DE
                clear HD2 Q2
                have E2 := Lib.hid (show Qz' = (r1 * 4294967296 + c0) / Z by rw [hZ.out]; exact DE.out)
                have q2 := digit_small zP.out r10.out r1Z.out g0.out g1.out E2.out
                have j1 : IntKind.u64.wrap (Q * 4294967296) = Q * 4294967296 := wrapU_in (by have := q1b.out; omega) (by have := q1b.out; omega)
                have j2 : IntKind.u64.wrap (Q * 4294967296 + Qz') = Q * 4294967296 + Qz' := wrapU_in (by have := q1b.out; omega) (by have := q1b.out; omega)
                have j3 : IntKind.u64.wrap (IntKind.u64.wrap (IntKind.u64.wrap (r1 * 4294967296) + c0) - IntKind.u64.wrap (Qz' * Z)) = (r1 * 4294967296 + c0) % Z := wrap_digit (digit_rest zP.out E2.out) (Int.emod_nonneg _ (by have := zP.out; omega)) (Int.lt_trans (Int.emod_lt_of_pos _ zP.out) zM.out)
                clear q2
                go_wp2_with fail
                go_ret2
                refine ⟨?_, rfl⟩
                rw [HR1.out, ← E1.out, ← E2.out]
                first | rfl | exact (by go_simp; done)
              · have n1 : decide (4294967296 ≤ R + a) = false := by simpa using hg
                go_wp2_with fail
                go_round
                case rel => exact ⟨Qz - 1, R + a, rfl, rfl, HD2, Lib.hid (by omega)⟩
                case measure => simp [intOf]; omega
            · have n2 : decide (4294967296 * R + c0 < P) = false := by simpa using hp
              have DE := Lib.hid (DS.out (by omega))
              clear DN DS
              have E2 := Lib.hid (show Qz = (r1 * 4294967296 + c0) / Z by rw [hZ.out]; exact DE.out)
              have q2 := digit_small zP.out r10.out r1Z.out g0.out g1.out E2.out
              have j1 : IntKind.u64.wrap (Q * 4294967296) = Q * 4294967296 := wrapU_in (by have := q1b.out; omega) (by have := q1b.out; omega)
              have j2 : IntKind.u64.wrap (Q * 4294967296 + Qz) = Q * 4294967296 + Qz := wrapU_in (by have := q1b.out; omega) (by have := q1b.out; omega)
              have j3 : IntKind.u64.wrap (IntKind.u64.wrap (IntKind.u64.wrap (r1 * 4294967296) + c0) - IntKind.u64.wrap (Qz * Z)) = (r1 * 4294967296 + c0) % Z := wrap_digit (digit_rest zP.out E2.out) (Int.emod_nonneg _ (by have := zP.out; omega)) (Int.lt_trans (Int.emod_lt_of_pos _ zP.out) zM.out)
              clear q2
              go_wp2_with fail
              go_ret2
              refine ⟨?_, rfl⟩
              rw [HR1.out, ← E1.out, ← E2.out]
              first | rfl | exact (by go_simp; done)
end Go.Proofs.Ytnpnnfbmnlgioaa
