/-
  What Both of the reference returns.
-/
import Derived.Test.YtnpnnfbmnlgioaaCe
namespace Go.Proofs.Ytnpnnfbmnlgioaa
open Go.RowKit
set_option linter.unusedVariables false

/-- Two chances that lie in memory, and what else was there. -/
structure Two (v w : World) (q r : Nat) (an ad bn bd : Int) : Prop where
  a0 : w.cell? ⟨q, 0, none⟩ = some (.int .i64 an)
  a1 : w.cell? ⟨q, 1, none⟩ = some (.int .i64 ad)
  b0 : w.cell? ⟨r, 0, none⟩ = some (.int .i64 bn)
  b1 : w.cell? ⟨r, 1, none⟩ = some (.int .i64 bd)
theorem and5 {v w w' : World} {q r : Nat} {an ad bn bd : Int} (h : w.cell? ⟨q, 0, none⟩ = some (.int .i64 an) ∧ w.cell? ⟨q, 1, none⟩ = some (.int .i64 ad) ∧ w.cell? ⟨r, 0, none⟩ = some (.int .i64 bn) ∧ w.cell? ⟨r, 1, none⟩ = some (.int .i64 bd) ∧ Below v.heap.size v w) (hb : Below w.heap.size w w') :
    w'.cell? ⟨q, 0, none⟩ = some (.int .i64 an) ∧ w'.cell? ⟨q, 1, none⟩ = some (.int .i64 ad) ∧ w'.cell? ⟨r, 0, none⟩ = some (.int .i64 bn) ∧ w'.cell? ⟨r, 1, none⟩ = some (.int .i64 bd) ∧ Below v.heap.size v w' :=
  ⟨cell_tr hb h.1, cell_tr hb h.2.1, cell_tr hb h.2.2.1, cell_tr hb h.2.2.2.1, tr h.2.2.2.2 hb⟩

set_option maxRecDepth 100000 in
set_option maxHeartbeats 8000000 in
theorem refBoth_main (an ad bn bd : Int) (w : World) (ha : badC an ad = false) (hb : badC bn bd = false) (g h xn xd yn yd N M E : Int) (hg : g = Int.gcd an bd) (hh : h = Int.gcd bn ad) (hxn : xn = an / g) (hyn : yn = bn / h) (hyd : yd = ad / h) (hxd : xd = bd / g)
    (hov : 1000000000000000 < yd * xd → N = 0 ∧ M = 0 ∧ E = 10) (hok : yd * xd ≤ 1000000000000000 → N = xn * yn ∧ M = yd * xd ∧ E = 0) :
    Calls Try.prog 12 #[.agg #[.int .i64 an, .int .i64 ad], .agg #[.int .i64 bn, .int .i64 bd]] w fun e w' => e = .returned (.tuple #[.agg #[.int .i64 N, .int .i64 M], .int .i64 E]) ∧ Below w.heap.size w w' := by
  have hA := fun w => refChance_ok an ad w
  have hB := fun w => refChance_ok bn bd w
  rw [ha] at hA
  rw [hb] at hB
  obtain ⟨a1, a2, a3, a4, _⟩ := badC_ok ha
  obtain ⟨b1, b2, b3, b4, _⟩ := badC_ok hb
  clear ha hb
  have g1 : 1 ≤ g := by rw [hg]; exact gcd_pos b1
  have h1 : 1 ≤ h := by rw [hh]; exact gcd_pos a1
  have hG := fun w => refDivisor_any an bd w a3 (by omega) (by omega) (by omega)
  have hH := fun w => refDivisor_any bn ad w b3 (by omega) (by omega) (by omega)
  rw [← hg] at hG
  rw [← hh] at hH
  have e1 : IntKind.i64.wrap (ad.tdiv h) = yd := by rw [hyd]; exact wdiv (by omega) (by omega) h1
  have e2 : IntKind.i64.wrap (bd.tdiv g) = xd := by rw [hxd]; exact wdiv (by omega) (by omega) g1
  have e3 : IntKind.i64.wrap (an.tdiv g) = xn := by rw [hxn]; exact wdiv (by omega) (by omega) g1
  have e4 : IntKind.i64.wrap (bn.tdiv h) = yn := by rw [hyn]; exact wdiv (by omega) (by omega) h1
  have yd0 : 0 ≤ yd := by rw [hyd]; exact Int.ediv_nonneg (by omega) (by omega)
  have yd1 : yd ≤ ad := by rw [hyd]; exact Int.ediv_le_self _ (by omega)
  have xd0 : 0 ≤ xd := by rw [hxd]; exact Int.ediv_nonneg (by omega) (by omega)
  have hO := fun w => refOver_any yd xd w yd0 (by omega)
  have hnum : 0 ≤ xn * yn ∧ xn * yn ≤ yd * xd := by
    refine ⟨Int.mul_nonneg (by rw [hxn]; exact Int.ediv_nonneg (by omega) (by omega)) (by rw [hyn]; exact Int.ediv_nonneg (by omega) (by omega)), ?_⟩
    have k1 : g * xn = an := by rw [hxn, hg]; exact Int.mul_ediv_cancel' (Int.gcd_dvd_left ..)
    have k2 : g * xd = bd := by rw [hxd, hg]; exact Int.mul_ediv_cancel' (Int.gcd_dvd_right ..)
    have k3 : h * yn = bn := by rw [hyn, hh]; exact Int.mul_ediv_cancel' (Int.gcd_dvd_left ..)
    have k4 : h * yd = ad := by rw [hyd, hh]; exact Int.mul_ediv_cancel' (Int.gcd_dvd_right ..)
    have k5 : an * bn ≤ ad * bd := Int.mul_le_mul a4 b4 b3 (by omega)
    have k6 : 0 < g * h := Int.mul_pos (by omega) (by omega)
    refine Int.le_of_mul_le_mul_left ?_ k6
    have l : g * h * (xn * yn) = an * bn := by
      calc _ = (g * xn) * (h * yn) := by ac_rfl
        _ = an * bn := by rw [k1, k3]
    have r : g * h * (yd * xd) = ad * bd := by
      calc _ = (h * yd) * (g * xd) := by ac_rfl
        _ = ad * bd := by rw [k4, k2]
    rw [l, r]; exact k5
  clear hg hh hxn hyn hyd hxd
  have z1 : ¬ g = 0 := by omega
  have z2 : ¬ h = 0 := by omega
  have V := Lib.hid (And.intro hov hok)
  have HN := Lib.hid hnum
  have HE := Lib.hid (And.intro e1 (And.intro e2 (And.intro e3 e4)))
  clear hov hok hnum e1 e2 e3 e4
  have x0 : Fr (((w.alloc (.cells #[.int .i64 an, .int .i64 ad] 23)).alloc (.cells #[.int .i64 bn, .int .i64 bd] 23)).alloc (.cells #[.int .i64 0, .int .i64 0] 23)) w.heap.size an ad := ((Fr.new w an ad 23).tr (below1 _ (.cells #[.int .i64 bn, .int .i64 bd] 23))).tr (below1 _ (.cells #[.int .i64 0, .int .i64 0] 23))
  have y0 : Fr (((w.alloc (.cells #[.int .i64 an, .int .i64 ad] 23)).alloc (.cells #[.int .i64 bn, .int .i64 bd] 23)).alloc (.cells #[.int .i64 0, .int .i64 0] 23)) (w.heap.size + 1 + 1) 0 0 := by have := Fr.new ((w.alloc (.cells #[.int .i64 an, .int .i64 ad] 23)).alloc (.cells #[.int .i64 bn, .int .i64 bd] 23)) 0 0 23; simpa using this
  have z0 : Fr (((w.alloc (.cells #[.int .i64 an, .int .i64 ad] 23)).alloc (.cells #[.int .i64 bn, .int .i64 bd] 23)).alloc (.cells #[.int .i64 0, .int .i64 0] 23)) (w.heap.size + 1) bn bd := by have := (Fr.new (w.alloc (.cells #[.int .i64 an, .int .i64 ad] 23)) bn bd 23).tr (below1 _ (.cells #[.int .i64 0, .int .i64 0] 23)); simpa using this
  have hB0 : Below w.heap.size w (((w.alloc (.cells #[.int .i64 an, .int .i64 ad] 23)).alloc (.cells #[.int .i64 bn, .int .i64 bd] 23)).alloc (.cells #[.int .i64 0, .int .i64 0] 23)) := ((below1 _ _).alloc (by simp) _).alloc (by simp; omega) _
  go_enter Try.func12, Try.ntmps12
  go_wp2_with fail
  go_call (hA _) as e w1 ⟨rfl, hb1⟩
  have x1 := x0.tr hb1
  have y1 := y0.tr hb1
  have z1' := z0.tr hb1
  have hB1 := hB0.trans (hb1.mono hB0.size)
  obtain ⟨c0, c1, _, _⟩ := z0.tr hb1
  clear x0 y0 z0 hB0 hb1
  go_wp2_with fail
  go_call (hB _) as e w2 ⟨rfl, hb2⟩
  obtain ⟨q0, q1, _, _⟩ := x1.tr hb2
  obtain ⟨s0, s1, _, _⟩ := z1'.tr hb2
  have y2 := y1.tr hb2
  have hB2 := tr hB1 hb2
  clear x1 y1 z1' c0 c1 hb2 hB1
  go_wp2_with fail
  go_region_held3 (fun w' => w'.cell? ⟨w.heap.size, 0, none⟩ = some (.int .i64 an) ∧ w'.cell? ⟨w.heap.size, 1, none⟩ = some (.int .i64 ad) ∧ w'.cell? ⟨w.heap.size + 1, 0, none⟩ = some (.int .i64 bn) ∧ w'.cell? ⟨w.heap.size + 1, 1, none⟩ = some (.int .i64 bd) ∧ Below w2.heap.size w2 w')
    (first | exact ⟨q0, q1, s0, s1, (Below.refl _ _).drew⟩ | assumption | exact and5 (by assumption) hbk)
    (first | (go_at_call 31; (first | (with_reducible refine (hG _).mono ?_) | (with_reducible refine (hH _).mono ?_)); rintro e w' ⟨rfl, hbk⟩))
  rename_i hh
  obtain ⟨wr, rfl⟩ : ∃ x : World, x = w' := ⟨_, rfl⟩
  obtain ⟨p0, p1, t0, t1, hB3⟩ := hh
  have y3 := y2.tr hB3
  have hB4 := tr hB2 hB3
  clear q0 q1 s0 s1 y2 hB2 hB3
  go_wp2_with fail
  obtain ⟨e1, e2, e3, e4⟩ := HE.out
  go_region_held3 (fun w' => w'.cell? ⟨w.heap.size, 0, none⟩ = some (.int .i64 an) ∧ w'.cell? ⟨w.heap.size, 1, none⟩ = some (.int .i64 ad) ∧ w'.cell? ⟨w.heap.size + 1, 0, none⟩ = some (.int .i64 bn) ∧ w'.cell? ⟨w.heap.size + 1, 1, none⟩ = some (.int .i64 bd) ∧ Below wr.heap.size wr w')
    (first | exact ⟨p0, p1, t0, t1, (Below.refl _ _).drew⟩ | assumption | exact and5 (by assumption) hbk)
    (first | (go_at_call 33; (with_reducible refine (hO _).mono ?_); rintro e w' ⟨rfl, hbk⟩))
  rename_i hh
  obtain ⟨wv, rfl⟩ : ∃ x : World, x = w' := ⟨_, rfl⟩
  obtain ⟨p0', p1', t0', t1', hB5⟩ := hh
  obtain ⟨c0, c1, f0, f1⟩ := y3.tr hB5
  have hB6 := tr hB4 hB5
  clear p0 p1 t0 t1 y3 hB4 hB5
  by_cases hv : 1000000000000000 < yd * xd
  · obtain ⟨rfl, rfl, rfl⟩ := V.out.1 hv
    have hd : decide (1000000000000000 < yd * xd) = true := by simpa using hv
    rw [hd]
    clear hd hv V e1 e2 e3 e4
    go_wp2
    have r0 := put0 (.int .i64 0) c0
    have r1 := put1 (.int .i64 0) (.int .i64 0) c1
    refine bodyPost_ret (v := .tuple #[.agg #[.int .i64 0, .int .i64 0], .int .i64 10]) (by simp [results, Try.results12, go_sem, r0, r1]) rfl ⟨rfl, ?_⟩
    exact (hB6.setCell (p := ⟨w.heap.size + 1 + 1, 0, none⟩) (by simp; omega) _).setCell (p := ⟨w.heap.size + 1 + 1, 1, none⟩) (by simp; omega) _
  · have hd : decide (1000000000000000 < yd * xd) = false := by simpa using hv
    rw [hd]
    obtain ⟨hN, hM, rfl⟩ := V.out.2 (by omega)
    obtain ⟨n0, n1⟩ := HN.out
    have e5 : IntKind.i64.wrap (xn * yn) = N := by rw [hN]; exact IntWalk.i64_in _ (by omega)
    have e6 : IntKind.i64.wrap (yd * xd) = M := by rw [hM]; exact IntWalk.i64_in _ (by omega)
    clear hd hv V hN hM n0 n1 HN
    go_wp2_with fail
    go_still_tail 19, (by kernel_rfl)
    go_wp2
    have r0 := put0 (.int .i64 N) c0
    have r1 := put1 (.int .i64 N) (.int .i64 M) c1
    refine bodyPost_ret (v := .tuple #[.agg #[.int .i64 N, .int .i64 M], .int .i64 0]) (by simp [results, Try.results12, go_sem, r0, r1]) rfl ⟨rfl, ?_⟩
    exact ((hB6.setCell (p := ⟨w.heap.size + 1 + 1, 0, none⟩) (by simp; omega) _).setCell (p := ⟨w.heap.size + 1 + 1, 1, none⟩) (by simp; omega) _).drew
end Go.Proofs.Ytnpnnfbmnlgioaa
