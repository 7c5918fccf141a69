/-
  What Chance, Compare, Not, Both, rest and restOf of the reference return.
  What Not, rest and restOf of the reference return.
  What Both of the reference returns.
  What Either of the reference returns: the walk, for each way out, what it calls given.
  What Both, Not and Either of the reference return, for every two chances.
-/
import Derived.Test.YtnpnnfbmnlgioaaCb
import Derived.Test.YtnpnnfbmnlgioaaVe
import Derived.Deep.RegionHeld3
import Derived.Deep.RegionWith
namespace Go.Proofs.Ytnpnnfbmnlgioaa
open Go.RowKit
set_option linter.unusedVariables false

set_option maxRecDepth 100000 in
set_option maxHeartbeats 4000000 in
theorem refChance_ok (n d : Int) (w : World) :
    Calls Try.prog 10 #[.agg #[.int .i64 n, .int .i64 d]] w fun e w' => e = .returned (.bool (!badC n d)) ∧ Below w.heap.size w w' := by
  by_cases h1 : 1 ≤ d
  · by_cases h2 : d ≤ 1000000000000000
    · by_cases h3 : 0 ≤ n
      · by_cases h4 : n ≤ d
        · obtain ⟨G, hG⟩ : ∃ G : Int, (Int.gcd n d : Int) = G := ⟨_, rfl⟩
          have hR := fun w => refDivisor_any n d w h3 (by omega) (by omega) (by omega)
          have G1 : 1 ≤ G := by rw [← hG]; exact gcd_pos h1
          have hb : badC n d = decide (1 < G) := by unfold badC; rw [hG, show outB 1 1000000000000000 d = false by simp [outB]; omega, show outB 0 d n = false by simp [outB]; omega]; rfl
          rw [hb]
          rw [hG] at hR
          clear hb hG
          by_cases h5 : G = 1
          · subst h5
            go_enter Try.func10, Try.ntmps10
            go_wp2_with fail
            go_call (hR _) as e w1 ⟨rfl, hb1⟩
            go_wp2
            go_ret
            exact ⟨rfl, tr (below1 _ _) hb1⟩
          · have h6 : (G == 1) = false := by simpa using h5
            have h7 : decide (1 < G) = true := by simp; omega
            rw [h7]
            clear h7 h5
            go_enter Try.func10, Try.ntmps10
            go_wp2_with fail
            go_call (hR _) as e w1 ⟨rfl, hb1⟩
            go_wp2
            go_ret
            exact ⟨rfl, tr (below1 _ _) hb1⟩
        · have hb : badC n d = true := by simp [badC, outB]; omega
          rw [hb]; clear hb
          go_enter Try.func10, Try.ntmps10
          go_wp2
          go_ret
          exact ⟨rfl, below1 _ _⟩
      · have hb : badC n d = true := by simp [badC, outB]; omega
        rw [hb]; clear hb
        go_enter Try.func10, Try.ntmps10
        go_wp2
        go_ret
        exact ⟨rfl, below1 _ _⟩
    · have hb : badC n d = true := by simp [badC, outB]; omega
      rw [hb]; clear hb
      go_enter Try.func10, Try.ntmps10
      go_wp2
      go_ret
      exact ⟨rfl, below1 _ _⟩
  · have hb : badC n d = true := by simp [badC, outB]; omega
    rw [hb]; clear hb
    go_enter Try.func10, Try.ntmps10
    go_wp2
    go_ret
    exact ⟨rfl, below1 _ _⟩

/-- -1, 0 or 1. -/
def cmp3 (a b : Int) : Int := if a < b then -1 else if b < a then 1 else 0

set_option maxRecDepth 100000 in
set_option maxHeartbeats 4000000 in
theorem refCompare_ok (an ad bn bd : Int) (w : World) (a0 : 0 ≤ an) (a1 : an ≤ 1000000000000000) (b0 : 0 ≤ bn) (b1 : bn ≤ bd) (d0 : 1 ≤ ad) (d1 : ad ≤ 1000000000000000) (e0 : 1 ≤ bd) (e1 : bd ≤ 1000000000000000) :
    Calls Try.prog 11 #[.agg #[.int .i64 an, .int .i64 ad], .agg #[.int .i64 bn, .int .i64 bd]] w fun e w' => e = .returned (.int .i64 (cmp3 (an * bd) (bn * ad))) ∧ Below w.heap.size w w' := by
  obtain ⟨AD, rfl⟩ : ∃ k : Nat, ad = k := ⟨ad.toNat, by omega⟩
  have hD := fun w => refDivided_any bn bd AD w b0 e0 (by omega) (by omega) e1 (by
    show _ ≤ _
    calc bn * (AD : Int) ≤ bd * (AD : Int) := Int.mul_le_mul_of_nonneg_right b1 (by omega)
      _ ≤ bd * 1000000000000000 := Int.mul_le_mul_of_nonneg_left (by omega) (by omega)
      _ = _ := Int.mul_comm _ _)
  obtain ⟨n, hn⟩ : ∃ n, bn * (AD : Int) / bd = n := ⟨_, rfl⟩
  obtain ⟨r, hr⟩ : ∃ n, bn * (AD : Int) % bd = n := ⟨_, rfl⟩
  obtain ⟨k1, k2⟩ := cmp_by_parts (an := an) e0 hn.symm hr.symm
  have r0 : 0 ≤ r := by rw [← hr]; exact Int.emod_nonneg _ (by omega)
  rw [hn, hr] at hD
  obtain ⟨x, hx⟩ : ∃ x, cmp3 (an * bd) (bn * (AD : Int)) = x := ⟨_, rfl⟩
  obtain ⟨D, hDD⟩ : ∃ D : Int, (AD : Int) = D := ⟨_, rfl⟩
  rw [hx]
  rw [hDD] at hD ⊢
  have q1 : Hid (an < n → x = -1) := fun h => by rw [← hx, cmp3, if_pos (k1.1 (.inl h))]
  have q2 : Hid (an = n → 0 < r → x = -1) := fun h h' => by rw [← hx, cmp3, if_pos (k1.1 (.inr ⟨h, h'⟩))]
  have q3 : Hid (n < an → x = 1) := fun h => by rw [← hx, cmp3, if_neg (by have := k2.1 h; omega), if_pos (k2.1 h)]
  have q4 : Hid (an = n → ¬ 0 < r → x = 0) := fun h h' => by rw [← hx, cmp3, if_neg (fun h5 => by rcases k1.2 h5 with h | ⟨_, h⟩ <;> omega), if_neg (fun h5 => by have := k2.2 h5; omega)]
  clear hn hr k1 k2 hx hDD
  by_cases h1 : an < n
  · have HX := Lib.hid (q1.out h1)
    clear q1 q2 q3 q4
    go_enter Try.func11, Try.ntmps11
    go_wp2_with fail
    go_call (hD _) as e w1 ⟨rfl, hb1⟩
    have c0 : w1.cell? ⟨w.heap.size, 0, none⟩ = some (.int .i64 an) := cell_tr hb1 (by go_simp)
    go_wp2
    go_ret
    exact ⟨by rw [HX.out]; rfl, (((below1 _ _).alloc (by simp) _).trans (hb1.mono (by simp; omega)))⟩
  · by_cases h2 : an = n
    · subst h2
      by_cases h3 : 0 < r
      · have HX := Lib.hid (q2.out rfl h3)
        clear q1 q2 q3 q4
        go_enter Try.func11, Try.ntmps11
        go_wp2_with fail
        go_call (hD _) as e w1 ⟨rfl, hb1⟩
        have c0 : w1.cell? ⟨w.heap.size, 0, none⟩ = some (.int .i64 an) := cell_tr hb1 (by go_simp)
        go_wp2
        go_ret
        exact ⟨by rw [HX.out]; rfl, (((below1 _ _).alloc (by simp) _).trans (hb1.mono (by simp; omega)))⟩
      · have HX := Lib.hid (q4.out rfl h3)
        clear q1 q2 q3 q4
        go_enter Try.func11, Try.ntmps11
        go_wp2_with fail
        go_call (hD _) as e w1 ⟨rfl, hb1⟩
        have c0 : w1.cell? ⟨w.heap.size, 0, none⟩ = some (.int .i64 an) := cell_tr hb1 (by go_simp)
        go_wp2
        go_ret
        exact ⟨by rw [HX.out]; rfl, (((below1 _ _).alloc (by simp) _).trans (hb1.mono (by simp; omega)))⟩
    · have HX := Lib.hid (q3.out (by omega))
      have h3 : (an == n) = false := by simpa using h2
      have h4 : n < an := by omega
      clear q1 q2 q3 q4 h2
      go_enter Try.func11, Try.ntmps11
      go_wp2_with fail
      go_call (hD _) as e w1 ⟨rfl, hb1⟩
      have c0 : w1.cell? ⟨w.heap.size, 0, none⟩ = some (.int .i64 an) := cell_tr hb1 (by go_simp)
      go_wp2
      go_ret
      exact ⟨by rw [HX.out]; rfl, (((below1 _ _).alloc (by simp) _).trans (hb1.mono (by simp; omega)))⟩
end Go.Proofs.Ytnpnnfbmnlgioaa

namespace Go.Proofs.Ytnpnnfbmnlgioaa
open Go.RowKit
set_option linter.unusedVariables false

theorem put0 {W : World} {b : Nat} {u : Value} (x : Value) (h : W.cell? ⟨b, 0, none⟩ = some u) : (W.setCell ⟨b, 0, none⟩ x).cell? ⟨b, 0, none⟩ = some x := World.cell?_setCell_same' _ _ _ (by rw [h]; rfl)
theorem put1 {W : World} {b : Nat} {u : Value} (x y : Value) (h : W.cell? ⟨b, 1, none⟩ = some u) : ((W.setCell ⟨b, 0, none⟩ x).setCell ⟨b, 1, none⟩ y).cell? ⟨b, 1, none⟩ = some y := World.cell?_setCell_same' _ _ _ (by go_simp)
/-- A new block of a chance, behind what leaves it alone: its cells are free. -/
structure Fr (w : World) (q : Nat) (n d : Int) : Prop where
  c0 : w.cell? ⟨q, 0, none⟩ = some (.int .i64 n)
  c1 : w.cell? ⟨q, 1, none⟩ = some (.int .i64 d)
  f0 : w.frozen? ⟨q, 0, none⟩ = false
  f1 : w.frozen? ⟨q, 1, none⟩ = false
theorem Fr.tr {w w' : World} {q : Nat} {n d : Int} (h : Fr w q n d) (hb : Below w.heap.size w w') : Fr w' q n d :=
  ⟨cell_tr hb h.c0, cell_tr hb h.c1, free_tr hb h.c0 h.f0, free_tr hb h.c1 h.f1⟩
theorem Fr.new (w : World) (n d : Int) (t : TypeId) : Fr (w.alloc (.cells #[.int .i64 n, .int .i64 d] t)) w.heap.size n d := by
  refine ⟨?_, ?_, ?_, ?_⟩ <;> go_simp
theorem Fr.lt {w : World} {q : Nat} {n d : Int} (h : Fr w q n d) : q < w.heap.size := World.block_lt_of_cell? w _ h.c0

set_option maxRecDepth 100000 in
set_option maxHeartbeats 4000000 in
theorem refNot_ok (n d : Int) (w : World) (h : badC n d = false) :
    Calls Try.prog 13 #[.agg #[.int .i64 n, .int .i64 d]] w fun e w' => e = .returned (.tuple #[.agg #[.int .i64 (d - n), .int .i64 d], .int .i64 0]) ∧ Below w.heap.size w w' := by
  have hC := fun w => refChance_ok n d w
  rw [h] at hC
  obtain ⟨d1, d2, n1, n2, _⟩ := badC_ok h
  clear h
  have z : Fr (w.alloc (.cells #[.int .i64 n, .int .i64 d] 23)) w.heap.size n d := Fr.new _ _ _ _
  have y : Fr ((w.alloc (.cells #[.int .i64 n, .int .i64 d] 23)).alloc (.cells #[.int .i64 0, .int .i64 0] 23)) (w.heap.size + 1) 0 0 := by have := Fr.new (w.alloc (.cells #[.int .i64 n, .int .i64 d] 23)) 0 0 23; simpa using this
  have z1 := z.tr (below1 _ (.cells #[.int .i64 0, .int .i64 0] 23))
  go_enter Try.func13, Try.ntmps13
  go_wp2_with fail
  go_call (hC _) as e w1 ⟨rfl, hb1⟩
  have hB : Below w.heap.size w w1 := ((below1 _ _).alloc (by simp) _).trans (hb1.mono (by simp; omega))
  obtain ⟨c0, c1, _, _⟩ := z1.tr hb1
  obtain ⟨g0, g1, f0, f1⟩ := y.tr hb1
  clear z z1 y
  have e1 : IntKind.i64.wrap (d - n) = d - n := IntWalk.i64_in _ (by omega)
  go_wp2
  have r0 := put0 (.int .i64 (d - n)) g0
  have r1 := put1 (.int .i64 (d - n)) (.int .i64 d) g1
  refine bodyPost_ret (v := .tuple #[.agg #[.int .i64 (d - n), .int .i64 d], .int .i64 0]) (by simp [results, Try.results13, go_sem, r0, r1]) rfl ⟨rfl, ?_⟩
  exact (hB.setCell (p := ⟨w.heap.size + 1, 0, none⟩) (by simp) _).setCell (p := ⟨w.heap.size + 1, 1, none⟩) (by simp) _

set_option maxRecDepth 100000 in
set_option maxHeartbeats 4000000 in
theorem refNot_bad (n d : Int) (w : World) (h : badC n d = true) :
    Calls Try.prog 13 #[.agg #[.int .i64 n, .int .i64 d]] w fun e w' => e = .returned (.tuple #[.agg #[.int .i64 0, .int .i64 0], .int .i64 2]) ∧ Below w.heap.size w w' := by
  have hC := fun w => refChance_ok n d w
  rw [h] at hC
  clear h
  have y : Fr ((w.alloc (.cells #[.int .i64 n, .int .i64 d] 23)).alloc (.cells #[.int .i64 0, .int .i64 0] 23)) (w.heap.size + 1) 0 0 := by have := Fr.new (w.alloc (.cells #[.int .i64 n, .int .i64 d] 23)) 0 0 23; simpa using this
  go_enter Try.func13, Try.ntmps13
  go_wp2_with fail
  go_call (hC _) as e w1 ⟨rfl, hb1⟩
  have hB : Below w.heap.size w w1 := ((below1 _ _).alloc (by simp) _).trans (hb1.mono (by simp; omega))
  obtain ⟨g0, g1, f0, f1⟩ := y.tr hb1
  clear y
  go_wp2
  have r0 := put0 (.int .i64 0) g0
  have r1 := put1 (.int .i64 0) (.int .i64 0) g1
  refine bodyPost_ret (v := .tuple #[.agg #[.int .i64 0, .int .i64 0], .int .i64 2]) (by simp [results, Try.results13, go_sem, r0, r1]) rfl ⟨rfl, ?_⟩
  exact (hB.setCell (p := ⟨w.heap.size + 1, 0, none⟩) (by simp) _).setCell (p := ⟨w.heap.size + 1, 1, none⟩) (by simp) _

set_option maxRecDepth 100000 in
set_option maxHeartbeats 4000000 in
theorem refRest_ok (a b c : Int) (w : World) (ha : 0 ≤ a) (hb : 0 ≤ b) (hc : 1 ≤ c) (ha2 : a ≤ 1000000000000000) (hb2 : b ≤ 1000000000000000) (hc2 : c ≤ 1000000000000000) :
    Calls Try.prog 34 #[.int .i64 a, .int .i64 b, .int .i64 c] w fun e w' => e = .returned (.int .i64 (a * b % c)) ∧ Below w.heap.size w w' := by
  have a0 : 0 ≤ a % c := Int.emod_nonneg _ (by omega)
  have b0 : 0 ≤ b % c := Int.emod_nonneg _ (by omega)
  have a3 : a % c < c := Int.emod_lt_of_pos _ (by omega)
  have b3 : b % c < c := Int.emod_lt_of_pos _ (by omega)
  obtain ⟨y, hy⟩ : ∃ k : Nat, b % c = k := ⟨(b % c).toNat, by omega⟩
  have hD := fun w => refDivided_any (a % c) c y w a0 hc (by omega) (by omega) hc2 (by
    show _ ≤ _
    calc a % c * (y : Int) ≤ c * (y : Int) := Int.mul_le_mul_of_nonneg_right (by omega) (by omega)
      _ ≤ c * 1000000000000000 := Int.mul_le_mul_of_nonneg_left (by omega) (by omega)
      _ = _ := Int.mul_comm _ _)
  rw [← hy, ← Int.mul_emod] at hD
  have e1 : a.tmod c = a % c := Int.tmod_eq_emod_of_nonneg ha
  have e2 : b.tmod c = b % c := Int.tmod_eq_emod_of_nonneg hb
  have hz : ¬ c = 0 := by omega
  clear hy
  obtain ⟨r, hr⟩ : ∃ r, a * b % c = r := ⟨_, rfl⟩
  rw [hr] at hD ⊢
  obtain ⟨q, hq⟩ : ∃ r, a % c * (b % c) / c = r := ⟨_, rfl⟩
  rw [hq] at hD
  clear hr hq
  obtain ⟨A, hA⟩ : ∃ r, a % c = r := ⟨_, rfl⟩
  obtain ⟨B, hB⟩ : ∃ r, b % c = r := ⟨_, rfl⟩
  rw [hA] at hD e1
  rw [hB] at hD e2
  clear a0 b0 a3 b3
  go_enter Try.func34, Try.ntmps34
  go_wp2
  go_region_held3 (fun w' => Below w.heap.size w w')
    (first | with_reducible exact (Below.refl _ _).drew | with_reducible assumption | with_reducible exact tr hbw hbk)
    (first | (go_at_call 32; refine (hD _).mono ?_; rintro e w' ⟨rfl, hbk⟩; have hbw : Below w.heap.size w _ := (by assumption)))
  rename_i hh
  go_wp2
  go_ret
  exact ⟨rfl, hh⟩

set_option maxRecDepth 100000 in
set_option maxHeartbeats 4000000 in
/-- restOf, the two divisions given. -/
theorem refRestOf_ok (an ad bn bd den x r y s z : Int) (w : World) (hz : z = if 0 < r ∨ 0 < s then 1 else 0)
    (hA : ∀ w, Calls Try.prog 32 #[.int .i64 an, .int .i64 den, .int .i64 ad] w fun e w' => e = .returned (.tuple #[.int .i64 x, .int .i64 r]) ∧ Below w.heap.size w w')
    (hB : ∀ w, Calls Try.prog 32 #[.int .i64 bn, .int .i64 den, .int .i64 bd] w fun e w' => e = .returned (.tuple #[.int .i64 y, .int .i64 s]) ∧ Below w.heap.size w w') :
    Calls Try.prog 35 #[.agg #[.int .i64 an, .int .i64 ad], .agg #[.int .i64 bn, .int .i64 bd], .int .i64 den] w fun e w' => e = .returned (.int .i64 z) ∧ Below w.heap.size w w' := by
  have z0 := Fr.new w an ad 23
  have y0 : Fr ((w.alloc (.cells #[.int .i64 an, .int .i64 ad] 23)).alloc (.cells #[.int .i64 bn, .int .i64 bd] 23)) (w.heap.size + 1) bn bd := by have := Fr.new (w.alloc (.cells #[.int .i64 an, .int .i64 ad] 23)) bn bd 23; simpa using this
  by_cases h1 : 0 < r
  · have Hz : Hid (z = 1) := by show _ = _; rw [hz, if_pos (.inl h1)]
    clear hz
    go_enter Try.func35, Try.ntmps35
    go_wp2_with fail
    go_call (hA _) as e w1 ⟨rfl, hb1⟩
    have hB1 : Below w.heap.size w w1 := ((below1 _ _).alloc (by simp) _).trans (hb1.mono (by simp; omega))
    obtain ⟨c0, c1, _, _⟩ := y0.tr hb1
    clear z0 y0
    go_wp2_with fail
    go_call (hB _) as e w2 ⟨rfl, hb2⟩
    go_wp2
    go_ret
    exact ⟨by rw [Hz.out]; rfl, tr hB1 hb2⟩
  · by_cases h2 : 0 < s
    · have Hz : Hid (z = 1) := by show _ = _; rw [hz, if_pos (.inr h2)]
      clear hz
      go_enter Try.func35, Try.ntmps35
      go_wp2_with fail
      go_call (hA _) as e w1 ⟨rfl, hb1⟩
      have hB1 : Below w.heap.size w w1 := ((below1 _ _).alloc (by simp) _).trans (hb1.mono (by simp; omega))
      obtain ⟨c0, c1, _, _⟩ := y0.tr hb1
      clear z0 y0
      go_wp2_with fail
      go_call (hB _) as e w2 ⟨rfl, hb2⟩
      go_wp2
      go_ret
      exact ⟨by rw [Hz.out]; rfl, tr hB1 hb2⟩
    · have Hz : Hid (z = 0) := by show _ = _; rw [hz, if_neg (by omega)]
      clear hz
      go_enter Try.func35, Try.ntmps35
      go_wp2_with fail
      go_call (hA _) as e w1 ⟨rfl, hb1⟩
      have hB1 : Below w.heap.size w w1 := ((below1 _ _).alloc (by simp) _).trans (hb1.mono (by simp; omega))
      obtain ⟨c0, c1, _, _⟩ := y0.tr hb1
      clear z0 y0
      go_wp2_with fail
      go_call (hB _) as e w2 ⟨rfl, hb2⟩
      go_wp2
      go_ret
      exact ⟨by rw [Hz.out]; rfl, tr hB1 hb2⟩

/-- What Both returns. -/
def sBoth (an ad bn bd : Int) : Int × Int × Int :=
  if badC an ad = true ∨ badC bn bd = true then (0, 0, 2)
  else if 1000000000000000 < bd / Int.gcd an bd * (ad / Int.gcd bn ad) then (0, 0, 10)
  else (an / Int.gcd an bd * (bn / Int.gcd bn ad), bd / Int.gcd an bd * (ad / Int.gcd bn ad), 0)

set_option maxRecDepth 100000 in
set_option maxHeartbeats 4000000 in
theorem refBoth_bad (an ad bn bd : Int) (w : World) (h : badC an ad = true ∨ badC bn bd = true) :
    Calls Try.prog 12 #[.agg #[.int .i64 an, .int .i64 ad], .agg #[.int .i64 bn, .int .i64 bd]] w fun e w' => e = .returned (.tuple #[.agg #[.int .i64 0, .int .i64 0], .int .i64 2]) ∧ Below w.heap.size w w' := by
  have hA := fun w => refChance_ok an ad w
  have hB := fun w => refChance_ok bn bd w
  have y0 : Fr (((w.alloc (.cells #[.int .i64 an, .int .i64 ad] 23)).alloc (.cells #[.int .i64 bn, .int .i64 bd] 23)).alloc (.cells #[.int .i64 0, .int .i64 0] 23)) (w.heap.size + 1 + 1) 0 0 := by have := Fr.new ((w.alloc (.cells #[.int .i64 an, .int .i64 ad] 23)).alloc (.cells #[.int .i64 bn, .int .i64 bd] 23)) 0 0 23; simpa using this
  have z0 : Fr (((w.alloc (.cells #[.int .i64 an, .int .i64 ad] 23)).alloc (.cells #[.int .i64 bn, .int .i64 bd] 23)).alloc (.cells #[.int .i64 0, .int .i64 0] 23)) (w.heap.size + 1) bn bd := by have := (Fr.new (w.alloc (.cells #[.int .i64 an, .int .i64 ad] 23)) bn bd 23).tr (below1 _ (.cells #[.int .i64 0, .int .i64 0] 23)); simpa using this
  by_cases h1 : badC an ad = true
  · rw [h1] at hA
    clear h h1 hB
    go_enter Try.func12, Try.ntmps12
    go_wp2_with fail
    go_call (hA _) as e w1 ⟨rfl, hb1⟩
    have hB1 : Below w.heap.size w w1 := (((below1 _ _).alloc (by simp) _).alloc (by simp; omega) _).trans (hb1.mono (by simp; omega))
    obtain ⟨g0, g1, f0, f1⟩ := y0.tr hb1
    clear y0 z0
    go_wp2
    have r0 := put0 (.int .i64 0) g0
    have r1 := put1 (.int .i64 0) (.int .i64 0) g1
    refine bodyPost_ret (v := .tuple #[.agg #[.int .i64 0, .int .i64 0], .int .i64 2]) (by simp [results, Try.results12, go_sem, r0, r1]) rfl ⟨rfl, ?_⟩
    exact (hB1.setCell (p := ⟨w.heap.size + 1 + 1, 0, none⟩) (by simp; omega) _).setCell (p := ⟨w.heap.size + 1 + 1, 1, none⟩) (by simp; omega) _
  · have h1' : badC an ad = false := by simpa using h1
    have h2 : badC bn bd = true := h.resolve_left h1
    rw [h1'] at hA
    rw [h2] at hB
    clear h h1 h1' h2
    go_enter Try.func12, Try.ntmps12
    go_wp2_with fail
    go_call (hA _) as e w1 ⟨rfl, hb1⟩
    have hB1 : Below w.heap.size w w1 := (((below1 _ _).alloc (by simp) _).alloc (by simp; omega) _).trans (hb1.mono (by simp; omega))
    have y1 := y0.tr hb1
    obtain ⟨c0, c1, _, _⟩ := z0.tr hb1
    clear y0 z0
    go_wp2_with fail
    go_call (hB _) as e w2 ⟨rfl, hb2⟩
    have hB2 := tr hB1 hb2
    obtain ⟨g0, g1, f0, f1⟩ := y1.tr hb2
    clear y1
    go_wp2
    have r0 := put0 (.int .i64 0) g0
    have r1 := put1 (.int .i64 0) (.int .i64 0) g1
    refine bodyPost_ret (v := .tuple #[.agg #[.int .i64 0, .int .i64 0], .int .i64 2]) (by simp [results, Try.results12, go_sem, r0, r1]) rfl ⟨rfl, ?_⟩
    exact (hB2.setCell (p := ⟨w.heap.size + 1 + 1, 0, none⟩) (by simp; omega) _).setCell (p := ⟨w.heap.size + 1 + 1, 1, none⟩) (by simp; omega) _
end Go.Proofs.Ytnpnnfbmnlgioaa

namespace Go.Proofs.Ytnpnnfbmnlgioaa
open Go.RowKit
set_option linter.unusedVariables false

/-- Two chances that lie in memory, and what else was there. -/
structure Two (v w : World) (q r : Nat) (an ad bn bd : Int) : Prop where
  a0 : w.cell? ⟨q, 0, none⟩ = some (.int .i64 an)
  a1 : w.cell? ⟨q, 1, none⟩ = some (.int .i64 ad)
  b0 : w.cell? ⟨r, 0, none⟩ = some (.int .i64 bn)
  b1 : w.cell? ⟨r, 1, none⟩ = some (.int .i64 bd)
theorem and5 {v w w' : World} {q r : Nat} {an ad bn bd : Int} (h : w.cell? ⟨q, 0, none⟩ = some (.int .i64 an) ∧ w.cell? ⟨q, 1, none⟩ = some (.int .i64 ad) ∧ w.cell? ⟨r, 0, none⟩ = some (.int .i64 bn) ∧ w.cell? ⟨r, 1, none⟩ = some (.int .i64 bd) ∧ Below v.heap.size v w) (hb : Below w.heap.size w w') :
    w'.cell? ⟨q, 0, none⟩ = some (.int .i64 an) ∧ w'.cell? ⟨q, 1, none⟩ = some (.int .i64 ad) ∧ w'.cell? ⟨r, 0, none⟩ = some (.int .i64 bn) ∧ w'.cell? ⟨r, 1, none⟩ = some (.int .i64 bd) ∧ Below v.heap.size v w' :=
  ⟨cell_tr hb h.1, cell_tr hb h.2.1, cell_tr hb h.2.2.1, cell_tr hb h.2.2.2.1, tr h.2.2.2.2 hb⟩

set_option maxRecDepth 100000 in
set_option maxHeartbeats 8000000 in
theorem refBoth_main (an ad bn bd : Int) (w : World) (ha : badC an ad = false) (hb : badC bn bd = false) (g h xn xd yn yd N M E : Int) (hg : g = Int.gcd an bd) (hh : h = Int.gcd bn ad) (hxn : xn = an / g) (hyn : yn = bn / h) (hyd : yd = ad / h) (hxd : xd = bd / g)
    (hov : 1000000000000000 < yd * xd → N = 0 ∧ M = 0 ∧ E = 10) (hok : yd * xd ≤ 1000000000000000 → N = xn * yn ∧ M = yd * xd ∧ E = 0) :
    Calls Try.prog 12 #[.agg #[.int .i64 an, .int .i64 ad], .agg #[.int .i64 bn, .int .i64 bd]] w fun e w' => e = .returned (.tuple #[.agg #[.int .i64 N, .int .i64 M], .int .i64 E]) ∧ Below w.heap.size w w' := by
  have hA := fun w => refChance_ok an ad w
  have hB := fun w => refChance_ok bn bd w
  rw [ha] at hA
  rw [hb] at hB
  obtain ⟨a1, a2, a3, a4, _⟩ := badC_ok ha
  obtain ⟨b1, b2, b3, b4, _⟩ := badC_ok hb
  clear ha hb
  have g1 : 1 ≤ g := by rw [hg]; exact gcd_pos b1
  have h1 : 1 ≤ h := by rw [hh]; exact gcd_pos a1
  have hG := fun w => refDivisor_any an bd w a3 (by omega) (by omega) (by omega)
  have hH := fun w => refDivisor_any bn ad w b3 (by omega) (by omega) (by omega)
  rw [← hg] at hG
  rw [← hh] at hH
  have e1 : IntKind.i64.wrap (ad.tdiv h) = yd := by rw [hyd]; exact wdiv (by omega) (by omega) h1
  have e2 : IntKind.i64.wrap (bd.tdiv g) = xd := by rw [hxd]; exact wdiv (by omega) (by omega) g1
  have e3 : IntKind.i64.wrap (an.tdiv g) = xn := by rw [hxn]; exact wdiv (by omega) (by omega) g1
  have e4 : IntKind.i64.wrap (bn.tdiv h) = yn := by rw [hyn]; exact wdiv (by omega) (by omega) h1
  have yd0 : 0 ≤ yd := by rw [hyd]; exact Int.ediv_nonneg (by omega) (by omega)
  have yd1 : yd ≤ ad := by rw [hyd]; exact Int.ediv_le_self _ (by omega)
  have xd0 : 0 ≤ xd := by rw [hxd]; exact Int.ediv_nonneg (by omega) (by omega)
  have hO := fun w => refOver_any yd xd w yd0 (by omega)
  have hnum : 0 ≤ xn * yn ∧ xn * yn ≤ yd * xd := by
    refine ⟨Int.mul_nonneg (by rw [hxn]; exact Int.ediv_nonneg (by omega) (by omega)) (by rw [hyn]; exact Int.ediv_nonneg (by omega) (by omega)), ?_⟩
    have k1 : g * xn = an := by rw [hxn, hg]; exact Int.mul_ediv_cancel' (Int.gcd_dvd_left ..)
    have k2 : g * xd = bd := by rw [hxd, hg]; exact Int.mul_ediv_cancel' (Int.gcd_dvd_right ..)
    have k3 : h * yn = bn := by rw [hyn, hh]; exact Int.mul_ediv_cancel' (Int.gcd_dvd_left ..)
    have k4 : h * yd = ad := by rw [hyd, hh]; exact Int.mul_ediv_cancel' (Int.gcd_dvd_right ..)
    have k5 : an * bn ≤ ad * bd := Int.mul_le_mul a4 b4 b3 (by omega)
    have k6 : 0 < g * h := Int.mul_pos (by omega) (by omega)
    refine Int.le_of_mul_le_mul_left ?_ k6
    have l : g * h * (xn * yn) = an * bn := by
      calc _ = (g * xn) * (h * yn) := by ac_rfl
        _ = an * bn := by rw [k1, k3]
    have r : g * h * (yd * xd) = ad * bd := by
      calc _ = (h * yd) * (g * xd) := by ac_rfl
        _ = ad * bd := by rw [k4, k2]
    rw [l, r]; exact k5
  clear hg hh hxn hyn hyd hxd
  have z1 : ¬ g = 0 := by omega
  have z2 : ¬ h = 0 := by omega
  have V := Lib.hid (And.intro hov hok)
  have HN := Lib.hid hnum
  have HE := Lib.hid (And.intro e1 (And.intro e2 (And.intro e3 e4)))
  clear hov hok hnum e1 e2 e3 e4
  have x0 : Fr (((w.alloc (.cells #[.int .i64 an, .int .i64 ad] 23)).alloc (.cells #[.int .i64 bn, .int .i64 bd] 23)).alloc (.cells #[.int .i64 0, .int .i64 0] 23)) w.heap.size an ad := ((Fr.new w an ad 23).tr (below1 _ (.cells #[.int .i64 bn, .int .i64 bd] 23))).tr (below1 _ (.cells #[.int .i64 0, .int .i64 0] 23))
  have y0 : Fr (((w.alloc (.cells #[.int .i64 an, .int .i64 ad] 23)).alloc (.cells #[.int .i64 bn, .int .i64 bd] 23)).alloc (.cells #[.int .i64 0, .int .i64 0] 23)) (w.heap.size + 1 + 1) 0 0 := by have := Fr.new ((w.alloc (.cells #[.int .i64 an, .int .i64 ad] 23)).alloc (.cells #[.int .i64 bn, .int .i64 bd] 23)) 0 0 23; simpa using this
  have z0 : Fr (((w.alloc (.cells #[.int .i64 an, .int .i64 ad] 23)).alloc (.cells #[.int .i64 bn, .int .i64 bd] 23)).alloc (.cells #[.int .i64 0, .int .i64 0] 23)) (w.heap.size + 1) bn bd := by have := (Fr.new (w.alloc (.cells #[.int .i64 an, .int .i64 ad] 23)) bn bd 23).tr (below1 _ (.cells #[.int .i64 0, .int .i64 0] 23)); simpa using this
  have hB0 : Below w.heap.size w (((w.alloc (.cells #[.int .i64 an, .int .i64 ad] 23)).alloc (.cells #[.int .i64 bn, .int .i64 bd] 23)).alloc (.cells #[.int .i64 0, .int .i64 0] 23)) := ((below1 _ _).alloc (by simp) _).alloc (by simp; omega) _
  go_enter Try.func12, Try.ntmps12
  go_wp2_with fail
  go_call (hA _) as e w1 ⟨rfl, hb1⟩
  have x1 := x0.tr hb1
  have y1 := y0.tr hb1
  have z1' := z0.tr hb1
  have hB1 := hB0.trans (hb1.mono hB0.size)
  obtain ⟨c0, c1, _, _⟩ := z0.tr hb1
  clear x0 y0 z0 hB0 hb1
  go_wp2_with fail
  go_call (hB _) as e w2 ⟨rfl, hb2⟩
  obtain ⟨q0, q1, _, _⟩ := x1.tr hb2
  obtain ⟨s0, s1, _, _⟩ := z1'.tr hb2
  have y2 := y1.tr hb2
  have hB2 := tr hB1 hb2
  clear x1 y1 z1' c0 c1 hb2 hB1
  go_wp2_with fail
  go_region_held3 (fun w' => w'.cell? ⟨w.heap.size, 0, none⟩ = some (.int .i64 an) ∧ w'.cell? ⟨w.heap.size, 1, none⟩ = some (.int .i64 ad) ∧ w'.cell? ⟨w.heap.size + 1, 0, none⟩ = some (.int .i64 bn) ∧ w'.cell? ⟨w.heap.size + 1, 1, none⟩ = some (.int .i64 bd) ∧ Below w2.heap.size w2 w')
    (first | exact ⟨q0, q1, s0, s1, (Below.refl _ _).drew⟩ | assumption | exact and5 (by assumption) hbk)
    (first | (go_at_call 31; (first | (with_reducible refine (hG _).mono ?_) | (with_reducible refine (hH _).mono ?_)); rintro e w' ⟨rfl, hbk⟩))
  rename_i hh
  obtain ⟨wr, rfl⟩ : ∃ x : World, x = w' := ⟨_, rfl⟩
  obtain ⟨p0, p1, t0, t1, hB3⟩ := hh
  have y3 := y2.tr hB3
  have hB4 := tr hB2 hB3
  clear q0 q1 s0 s1 y2 hB2 hB3
  go_wp2_with fail
  obtain ⟨e1, e2, e3, e4⟩ := HE.out
  go_region_held3 (fun w' => w'.cell? ⟨w.heap.size, 0, none⟩ = some (.int .i64 an) ∧ w'.cell? ⟨w.heap.size, 1, none⟩ = some (.int .i64 ad) ∧ w'.cell? ⟨w.heap.size + 1, 0, none⟩ = some (.int .i64 bn) ∧ w'.cell? ⟨w.heap.size + 1, 1, none⟩ = some (.int .i64 bd) ∧ Below wr.heap.size wr w')
    (first | exact ⟨p0, p1, t0, t1, (Below.refl _ _).drew⟩ | assumption | exact and5 (by assumption) hbk)
    (first | (go_at_call 33; (with_reducible refine (hO _).mono ?_); rintro e w' ⟨rfl, hbk⟩))
  rename_i hh
  obtain ⟨wv, rfl⟩ : ∃ x : World, x = w' := ⟨_, rfl⟩
  obtain ⟨p0', p1', t0', t1', hB5⟩ := hh
  obtain ⟨c0, c1, f0, f1⟩ := y3.tr hB5
  have hB6 := tr hB4 hB5
  clear p0 p1 t0 t1 y3 hB4 hB5
  by_cases hv : 1000000000000000 < yd * xd
  · obtain ⟨rfl, rfl, rfl⟩ := V.out.1 hv
    have hd : decide (1000000000000000 < yd * xd) = true := by simpa using hv
    rw [hd]
    clear hd hv V e1 e2 e3 e4
    go_wp2
    have r0 := put0 (.int .i64 0) c0
    have r1 := put1 (.int .i64 0) (.int .i64 0) c1
    refine bodyPost_ret (v := .tuple #[.agg #[.int .i64 0, .int .i64 0], .int .i64 10]) (by simp [results, Try.results12, go_sem, r0, r1]) rfl ⟨rfl, ?_⟩
    exact (hB6.setCell (p := ⟨w.heap.size + 1 + 1, 0, none⟩) (by simp; omega) _).setCell (p := ⟨w.heap.size + 1 + 1, 1, none⟩) (by simp; omega) _
  · have hd : decide (1000000000000000 < yd * xd) = false := by simpa using hv
    rw [hd]
    obtain ⟨hN, hM, rfl⟩ := V.out.2 (by omega)
    obtain ⟨n0, n1⟩ := HN.out
    have e5 : IntKind.i64.wrap (xn * yn) = N := by rw [hN]; exact IntWalk.i64_in _ (by omega)
    have e6 : IntKind.i64.wrap (yd * xd) = M := by rw [hM]; exact IntWalk.i64_in _ (by omega)
    clear hd hv V hN hM n0 n1 HN
    go_wp2_with fail
    go_still_tail 19, (by kernel_rfl)
    go_wp2
    have r0 := put0 (.int .i64 N) c0
    have r1 := put1 (.int .i64 N) (.int .i64 M) c1
    refine bodyPost_ret (v := .tuple #[.agg #[.int .i64 N, .int .i64 M], .int .i64 0]) (by simp [results, Try.results12, go_sem, r0, r1]) rfl ⟨rfl, ?_⟩
    exact ((hB6.setCell (p := ⟨w.heap.size + 1 + 1, 0, none⟩) (by simp; omega) _).setCell (p := ⟨w.heap.size + 1 + 1, 1, none⟩) (by simp; omega) _).drew
end Go.Proofs.Ytnpnnfbmnlgioaa

namespace Go.Proofs.Ytnpnnfbmnlgioaa
open Go.RowKit
set_option linter.unusedVariables false

set_option maxRecDepth 100000 in
set_option maxHeartbeats 8000000 in
theorem refEither_e3 (an ad bn bd nn nd C : Int) (w : World)
    (hA : ∀ w, Calls Try.prog 10 #[.agg #[.int .i64 an, .int .i64 ad]] w fun e w' => e = .returned (.bool true) ∧ Below w.heap.size w w')
    (hB : ∀ w, Calls Try.prog 10 #[.agg #[.int .i64 bn, .int .i64 bd]] w fun e w' => e = .returned (.bool true) ∧ Below w.heap.size w w')
    (hN : ∀ w, Calls Try.prog 13 #[.agg #[.int .i64 bn, .int .i64 bd]] w fun e w' => e = .returned (.tuple #[.agg #[.int .i64 nn, .int .i64 nd], .int .i64 0]) ∧ Below w.heap.size w w')
    (hC : ∀ w, Calls Try.prog 11 #[.agg #[.int .i64 an, .int .i64 ad], .agg #[.int .i64 nn, .int .i64 nd]] w fun e w' => e = .returned (.int .i64 C) ∧ Below w.heap.size w w')
    (hc : 0 < C)
    : Calls Try.prog 14 #[.agg #[.int .i64 an, .int .i64 ad], .agg #[.int .i64 bn, .int .i64 bd]] w fun e w' => e = .returned (.tuple #[.agg #[.int .i64 0, .int .i64 0], .int .i64 3]) ∧ Below w.heap.size w w' := by
  have x0 : Fr (((w.alloc (.cells #[.int .i64 an, .int .i64 ad] 23)).alloc (.cells #[.int .i64 bn, .int .i64 bd] 23)).alloc (.cells #[.int .i64 0, .int .i64 0] 23)) w.heap.size an ad := ((Fr.new w an ad 23).tr (below1 _ (.cells #[.int .i64 bn, .int .i64 bd] 23))).tr (below1 _ (.cells #[.int .i64 0, .int .i64 0] 23))
  have y0 : Fr (((w.alloc (.cells #[.int .i64 an, .int .i64 ad] 23)).alloc (.cells #[.int .i64 bn, .int .i64 bd] 23)).alloc (.cells #[.int .i64 0, .int .i64 0] 23)) (w.heap.size + 1 + 1) 0 0 := by have := Fr.new ((w.alloc (.cells #[.int .i64 an, .int .i64 ad] 23)).alloc (.cells #[.int .i64 bn, .int .i64 bd] 23)) 0 0 23; simpa using this
  have z0 : Fr (((w.alloc (.cells #[.int .i64 an, .int .i64 ad] 23)).alloc (.cells #[.int .i64 bn, .int .i64 bd] 23)).alloc (.cells #[.int .i64 0, .int .i64 0] 23)) (w.heap.size + 1) bn bd := by have := (Fr.new (w.alloc (.cells #[.int .i64 an, .int .i64 ad] 23)) bn bd 23).tr (below1 _ (.cells #[.int .i64 0, .int .i64 0] 23)); simpa using this
  have hB0 : Below w.heap.size w (((w.alloc (.cells #[.int .i64 an, .int .i64 ad] 23)).alloc (.cells #[.int .i64 bn, .int .i64 bd] 23)).alloc (.cells #[.int .i64 0, .int .i64 0] 23)) := ((below1 _ _).alloc (by simp) _).alloc (by simp; omega) _
  go_enter Try.func14, Try.ntmps14
  go_wp2_with fail
  go_call (hA _) as e w1 ⟨rfl, hb1⟩
  have x1 := x0.tr hb1
  have y1 := y0.tr hb1
  have z1 := z0.tr hb1
  have hB1 := hB0.trans (hb1.mono hB0.size)
  obtain ⟨c0, c1, _, _⟩ := z0.tr hb1
  clear x0 y0 z0 hB0 hb1
  go_wp2_with fail
  go_call (hB _) as e w2 ⟨rfl, hb2⟩
  obtain ⟨c0, c1, _, _⟩ := z1.tr hb2
  have x2 := x1.tr hb2
  have y2 := y1.tr hb2
  have z2 := z1.tr hb2
  have hB2 := tr hB1 hb2
  clear x1 y1 z1 hb2 hB1
  go_wp2_with fail
  go_call (hN _) as e w3 ⟨rfl, hb3⟩
  have x3 := x2.tr hb3
  have y3 := y2.tr hb3
  have z3 := z2.tr hb3
  have hB3 := tr hB2 hb3
  have hl3 : w.heap.size + 1 + 1 < w3.heap.size := y3.lt
  obtain ⟨c0, c1, _, _⟩ := x3.tr (below1 w3 (.cells #[.int .i64 nn, .int .i64 nd] 23))
  clear x2 y2 z2 hb3 hB2
  go_wp2_with fail
  go_call (hC _) as e w4 ⟨rfl, hb4⟩
  have hb4' := (below1 w3 (.cells #[.int .i64 nn, .int .i64 nd] 23)).trans (hb4.mono (by simp))
  have x4 := x3.tr hb4'
  have y4 := y3.tr hb4'
  have z4 := z3.tr hb4'
  have hB4 := tr hB3 hb4'
  clear x3 y3 z3 hb4 hb4' hB3
  obtain ⟨g0, g1, f0, f1⟩ := y4
  go_wp2
  have r0 := put0 (.int .i64 0) g0
  have r1 := put1 (.int .i64 0) (.int .i64 0) g1
  refine bodyPost_ret (v := .tuple #[.agg #[.int .i64 0, .int .i64 0], .int .i64 3]) (by simp [results, Try.results14, go_sem, r0, r1]) rfl ⟨rfl, ?_⟩
  exact (hB4.setCell (p := ⟨w.heap.size + 1 + 1, 0, none⟩) (by simp; omega) _).setCell (p := ⟨w.heap.size + 1 + 1, 1, none⟩) (by simp; omega) _

set_option maxRecDepth 100000 in
set_option maxHeartbeats 8000000 in
theorem refEither_e10a (an ad bn bd nn nd C g p q R1 R2 S T h : Int) (w : World)
    (hA : ∀ w, Calls Try.prog 10 #[.agg #[.int .i64 an, .int .i64 ad]] w fun e w' => e = .returned (.bool true) ∧ Below w.heap.size w w')
    (hB : ∀ w, Calls Try.prog 10 #[.agg #[.int .i64 bn, .int .i64 bd]] w fun e w' => e = .returned (.bool true) ∧ Below w.heap.size w w')
    (hN : ∀ w, Calls Try.prog 13 #[.agg #[.int .i64 bn, .int .i64 bd]] w fun e w' => e = .returned (.tuple #[.agg #[.int .i64 nn, .int .i64 nd], .int .i64 0]) ∧ Below w.heap.size w w')
    (hC : ∀ w, Calls Try.prog 11 #[.agg #[.int .i64 an, .int .i64 ad], .agg #[.int .i64 nn, .int .i64 nd]] w fun e w' => e = .returned (.int .i64 C) ∧ Below w.heap.size w w')
    (hc : ¬ 0 < C)
    (hG : ∀ w, Calls Try.prog 31 #[.int .i64 ad, .int .i64 bd] w fun e w' => e = .returned (.int .i64 g) ∧ Below w.heap.size w w')
    (hg : 1 ≤ g)
    (HE1 : Hid (IntKind.i64.wrap (ad.tdiv g) = p ∧ IntKind.i64.wrap (bd.tdiv g) = q))
    (hR1 : ∀ w, Calls Try.prog 34 #[.int .i64 an, .int .i64 q, .int .i64 g] w fun e w' => e = .returned (.int .i64 R1) ∧ Below w.heap.size w w')
    (hR2 : ∀ w, Calls Try.prog 34 #[.int .i64 bn, .int .i64 p, .int .i64 g] w fun e w' => e = .returned (.int .i64 R2) ∧ Below w.heap.size w w')
    (HE2 : Hid (IntKind.i64.wrap (R1 + R2) = S ∧ S.tmod g = T))
    (hH : ∀ w, Calls Try.prog 31 #[.int .i64 T, .int .i64 g] w fun e w' => e = .returned (.int .i64 h) ∧ Below w.heap.size w w')
    (hh : 1 ≤ h)
    (hO1 : ∀ w, Calls Try.prog 33 #[.int .i64 p, .int .i64 q] w fun e w' => e = .returned (.bool true) ∧ Below w.heap.size w w')
    : Calls Try.prog 14 #[.agg #[.int .i64 an, .int .i64 ad], .agg #[.int .i64 bn, .int .i64 bd]] w fun e w' => e = .returned (.tuple #[.agg #[.int .i64 0, .int .i64 0], .int .i64 10]) ∧ Below w.heap.size w w' := by
  have x0 : Fr (((w.alloc (.cells #[.int .i64 an, .int .i64 ad] 23)).alloc (.cells #[.int .i64 bn, .int .i64 bd] 23)).alloc (.cells #[.int .i64 0, .int .i64 0] 23)) w.heap.size an ad := ((Fr.new w an ad 23).tr (below1 _ (.cells #[.int .i64 bn, .int .i64 bd] 23))).tr (below1 _ (.cells #[.int .i64 0, .int .i64 0] 23))
  have y0 : Fr (((w.alloc (.cells #[.int .i64 an, .int .i64 ad] 23)).alloc (.cells #[.int .i64 bn, .int .i64 bd] 23)).alloc (.cells #[.int .i64 0, .int .i64 0] 23)) (w.heap.size + 1 + 1) 0 0 := by have := Fr.new ((w.alloc (.cells #[.int .i64 an, .int .i64 ad] 23)).alloc (.cells #[.int .i64 bn, .int .i64 bd] 23)) 0 0 23; simpa using this
  have z0 : Fr (((w.alloc (.cells #[.int .i64 an, .int .i64 ad] 23)).alloc (.cells #[.int .i64 bn, .int .i64 bd] 23)).alloc (.cells #[.int .i64 0, .int .i64 0] 23)) (w.heap.size + 1) bn bd := by have := (Fr.new (w.alloc (.cells #[.int .i64 an, .int .i64 ad] 23)) bn bd 23).tr (below1 _ (.cells #[.int .i64 0, .int .i64 0] 23)); simpa using this
  have hB0 : Below w.heap.size w (((w.alloc (.cells #[.int .i64 an, .int .i64 ad] 23)).alloc (.cells #[.int .i64 bn, .int .i64 bd] 23)).alloc (.cells #[.int .i64 0, .int .i64 0] 23)) := ((below1 _ _).alloc (by simp) _).alloc (by simp; omega) _
  go_enter Try.func14, Try.ntmps14
  go_wp2_with fail
  go_call (hA _) as e w1 ⟨rfl, hb1⟩
  have x1 := x0.tr hb1
  have y1 := y0.tr hb1
  have z1 := z0.tr hb1
  have hB1 := hB0.trans (hb1.mono hB0.size)
  obtain ⟨c0, c1, _, _⟩ := z0.tr hb1
  clear x0 y0 z0 hB0 hb1
  go_wp2_with fail
  go_call (hB _) as e w2 ⟨rfl, hb2⟩
  obtain ⟨c0, c1, _, _⟩ := z1.tr hb2
  have x2 := x1.tr hb2
  have y2 := y1.tr hb2
  have z2 := z1.tr hb2
  have hB2 := tr hB1 hb2
  clear x1 y1 z1 hb2 hB1
  go_wp2_with fail
  go_call (hN _) as e w3 ⟨rfl, hb3⟩
  have x3 := x2.tr hb3
  have y3 := y2.tr hb3
  have z3 := z2.tr hb3
  have hB3 := tr hB2 hb3
  have hl3 : w.heap.size + 1 + 1 < w3.heap.size := y3.lt
  obtain ⟨c0, c1, _, _⟩ := x3.tr (below1 w3 (.cells #[.int .i64 nn, .int .i64 nd] 23))
  clear x2 y2 z2 hb3 hB2
  go_wp2_with fail
  go_call (hC _) as e w4 ⟨rfl, hb4⟩
  have hb4' := (below1 w3 (.cells #[.int .i64 nn, .int .i64 nd] 23)).trans (hb4.mono (by simp))
  have x4 := x3.tr hb4'
  have y4 := y3.tr hb4'
  have z4 := z3.tr hb4'
  have hB4 := tr hB3 hb4'
  clear x3 y3 z3 hb4 hb4' hB3
  obtain ⟨a0, a1, _, _⟩ := id x4
  obtain ⟨b0, b1, _, _⟩ := id z4
  go_wp2_with fail
  go_call (hG _) as e w5 ⟨rfl, hb5⟩
  have x5 := x4.tr hb5
  have y5 := y4.tr hb5
  have z5 := z4.tr hb5
  have hB5 := tr hB4 hb5
  clear a0 a1 b0 b1 x4 y4 z4 hb5 hB4
  obtain ⟨a0, a1, _, _⟩ := id x5
  obtain ⟨b0, b1, _, _⟩ := id z5
  have zg : ¬ g = 0 := by omega
  obtain ⟨e1, e2⟩ := HE1.out
  go_wp2_with fail
  go_quiet (fail)
  clear e1 e2
  have hd := below_drewN (Below.refl w5.heap.size w5) nq
  have x6 := x5.tr hd
  have y6 := y5.tr hd
  have z6 := z5.tr hd
  have hB6 := tr hB5 hd
  obtain ⟨w6, hw6⟩ : ∃ x, w5.drewN nq = x := ⟨_, rfl⟩
  rw [hw6] at x6 y6 z6 hB6 ⊢
  clear a0 a1 b0 b1 x5 y5 z5 hd hB5 hw6
  obtain ⟨a0, a1, _, _⟩ := id x6
  obtain ⟨b0, b1, _, _⟩ := id z6
  obtain ⟨e1, e2⟩ := HE2.out
  go_wp2_with fail
  go_region_held3 (fun w' => w'.cell? ⟨w.heap.size, 0, none⟩ = some (.int .i64 an) ∧ w'.cell? ⟨w.heap.size, 1, none⟩ = some (.int .i64 ad) ∧ w'.cell? ⟨w.heap.size + 1, 0, none⟩ = some (.int .i64 bn) ∧ w'.cell? ⟨w.heap.size + 1, 1, none⟩ = some (.int .i64 bd) ∧ Below w6.heap.size w6 w')
    (first | exact ⟨a0, a1, b0, b1, (Below.refl _ _).drew⟩ | assumption | exact and5 (by assumption) hbk)
    (first | (go_at_call 34; (first | (with_reducible refine (hR1 _).mono ?_) | (with_reducible refine (hR2 _).mono ?_)); rintro e w' ⟨rfl, hbk⟩) | (go_at_call 31; (with_reducible refine (hH _).mono ?_); rintro e w' ⟨rfl, hbk⟩))
  rename_i hh7
  obtain ⟨w7, rfl⟩ : ∃ x : World, x = w' := ⟨_, rfl⟩
  obtain ⟨_, _, _, _, hd⟩ := hh7
  have x7 := x6.tr hd
  have y7 := y6.tr hd
  have z7 := z6.tr hd
  have hB7 := tr hB6 hd
  clear a0 a1 b0 b1 x6 y6 z6 hd hB6 e1 e2
  go_wp2_with fail
  go_call (hO1 _) as e w8 ⟨rfl, hb8⟩
  have x8 := x7.tr hb8
  have y8 := y7.tr hb8
  have z8 := z7.tr hb8
  have hB8 := tr hB7 hb8
  clear x7 y7 z7 hb8 hB7
  obtain ⟨g0, g1, f0, f1⟩ := y8
  go_wp2
  have r0 := put0 (.int .i64 0) g0
  have r1 := put1 (.int .i64 0) (.int .i64 0) g1
  refine bodyPost_ret (v := .tuple #[.agg #[.int .i64 0, .int .i64 0], .int .i64 10]) (by simp [results, Try.results14, go_sem, r0, r1]) rfl ⟨rfl, ?_⟩
  exact (hB8.setCell (p := ⟨w.heap.size + 1 + 1, 0, none⟩) (by simp; omega) _).setCell (p := ⟨w.heap.size + 1 + 1, 1, none⟩) (by simp; omega) _

set_option maxRecDepth 100000 in
set_option maxHeartbeats 8000000 in
theorem refEither_e10b (an ad bn bd nn nd C g p q R1 R2 S T h PQ G : Int) (w : World)
    (hA : ∀ w, Calls Try.prog 10 #[.agg #[.int .i64 an, .int .i64 ad]] w fun e w' => e = .returned (.bool true) ∧ Below w.heap.size w w')
    (hB : ∀ w, Calls Try.prog 10 #[.agg #[.int .i64 bn, .int .i64 bd]] w fun e w' => e = .returned (.bool true) ∧ Below w.heap.size w w')
    (hN : ∀ w, Calls Try.prog 13 #[.agg #[.int .i64 bn, .int .i64 bd]] w fun e w' => e = .returned (.tuple #[.agg #[.int .i64 nn, .int .i64 nd], .int .i64 0]) ∧ Below w.heap.size w w')
    (hC : ∀ w, Calls Try.prog 11 #[.agg #[.int .i64 an, .int .i64 ad], .agg #[.int .i64 nn, .int .i64 nd]] w fun e w' => e = .returned (.int .i64 C) ∧ Below w.heap.size w w')
    (hc : ¬ 0 < C)
    (hG : ∀ w, Calls Try.prog 31 #[.int .i64 ad, .int .i64 bd] w fun e w' => e = .returned (.int .i64 g) ∧ Below w.heap.size w w')
    (hg : 1 ≤ g)
    (HE1 : Hid (IntKind.i64.wrap (ad.tdiv g) = p ∧ IntKind.i64.wrap (bd.tdiv g) = q))
    (hR1 : ∀ w, Calls Try.prog 34 #[.int .i64 an, .int .i64 q, .int .i64 g] w fun e w' => e = .returned (.int .i64 R1) ∧ Below w.heap.size w w')
    (hR2 : ∀ w, Calls Try.prog 34 #[.int .i64 bn, .int .i64 p, .int .i64 g] w fun e w' => e = .returned (.int .i64 R2) ∧ Below w.heap.size w w')
    (HE2 : Hid (IntKind.i64.wrap (R1 + R2) = S ∧ S.tmod g = T))
    (hH : ∀ w, Calls Try.prog 31 #[.int .i64 T, .int .i64 g] w fun e w' => e = .returned (.int .i64 h) ∧ Below w.heap.size w w')
    (hh : 1 ≤ h)
    (hO1 : ∀ w, Calls Try.prog 33 #[.int .i64 p, .int .i64 q] w fun e w' => e = .returned (.bool false) ∧ Below w.heap.size w w')
    (HE3 : Hid (IntKind.i64.wrap (p * q) = PQ ∧ IntKind.i64.wrap (g.tdiv h) = G))
    (hO2 : ∀ w, Calls Try.prog 33 #[.int .i64 PQ, .int .i64 G] w fun e w' => e = .returned (.bool true) ∧ Below w.heap.size w w')
    : Calls Try.prog 14 #[.agg #[.int .i64 an, .int .i64 ad], .agg #[.int .i64 bn, .int .i64 bd]] w fun e w' => e = .returned (.tuple #[.agg #[.int .i64 0, .int .i64 0], .int .i64 10]) ∧ Below w.heap.size w w' := by
  have x0 : Fr (((w.alloc (.cells #[.int .i64 an, .int .i64 ad] 23)).alloc (.cells #[.int .i64 bn, .int .i64 bd] 23)).alloc (.cells #[.int .i64 0, .int .i64 0] 23)) w.heap.size an ad := ((Fr.new w an ad 23).tr (below1 _ (.cells #[.int .i64 bn, .int .i64 bd] 23))).tr (below1 _ (.cells #[.int .i64 0, .int .i64 0] 23))
  have y0 : Fr (((w.alloc (.cells #[.int .i64 an, .int .i64 ad] 23)).alloc (.cells #[.int .i64 bn, .int .i64 bd] 23)).alloc (.cells #[.int .i64 0, .int .i64 0] 23)) (w.heap.size + 1 + 1) 0 0 := by have := Fr.new ((w.alloc (.cells #[.int .i64 an, .int .i64 ad] 23)).alloc (.cells #[.int .i64 bn, .int .i64 bd] 23)) 0 0 23; simpa using this
  have z0 : Fr (((w.alloc (.cells #[.int .i64 an, .int .i64 ad] 23)).alloc (.cells #[.int .i64 bn, .int .i64 bd] 23)).alloc (.cells #[.int .i64 0, .int .i64 0] 23)) (w.heap.size + 1) bn bd := by have := (Fr.new (w.alloc (.cells #[.int .i64 an, .int .i64 ad] 23)) bn bd 23).tr (below1 _ (.cells #[.int .i64 0, .int .i64 0] 23)); simpa using this
  have hB0 : Below w.heap.size w (((w.alloc (.cells #[.int .i64 an, .int .i64 ad] 23)).alloc (.cells #[.int .i64 bn, .int .i64 bd] 23)).alloc (.cells #[.int .i64 0, .int .i64 0] 23)) := ((below1 _ _).alloc (by simp) _).alloc (by simp; omega) _
  go_enter Try.func14, Try.ntmps14
  go_wp2_with fail
  go_call (hA _) as e w1 ⟨rfl, hb1⟩
  have x1 := x0.tr hb1
  have y1 := y0.tr hb1
  have z1 := z0.tr hb1
  have hB1 := hB0.trans (hb1.mono hB0.size)
  obtain ⟨c0, c1, _, _⟩ := z0.tr hb1
  clear x0 y0 z0 hB0 hb1
  go_wp2_with fail
  go_call (hB _) as e w2 ⟨rfl, hb2⟩
  obtain ⟨c0, c1, _, _⟩ := z1.tr hb2
  have x2 := x1.tr hb2
  have y2 := y1.tr hb2
  have z2 := z1.tr hb2
  have hB2 := tr hB1 hb2
  clear x1 y1 z1 hb2 hB1
  go_wp2_with fail
  go_call (hN _) as e w3 ⟨rfl, hb3⟩
  have x3 := x2.tr hb3
  have y3 := y2.tr hb3
  have z3 := z2.tr hb3
  have hB3 := tr hB2 hb3
  have hl3 : w.heap.size + 1 + 1 < w3.heap.size := y3.lt
  obtain ⟨c0, c1, _, _⟩ := x3.tr (below1 w3 (.cells #[.int .i64 nn, .int .i64 nd] 23))
  clear x2 y2 z2 hb3 hB2
  go_wp2_with fail
  go_call (hC _) as e w4 ⟨rfl, hb4⟩
  have hb4' := (below1 w3 (.cells #[.int .i64 nn, .int .i64 nd] 23)).trans (hb4.mono (by simp))
  have x4 := x3.tr hb4'
  have y4 := y3.tr hb4'
  have z4 := z3.tr hb4'
  have hB4 := tr hB3 hb4'
  clear x3 y3 z3 hb4 hb4' hB3
  obtain ⟨a0, a1, _, _⟩ := id x4
  obtain ⟨b0, b1, _, _⟩ := id z4
  go_wp2_with fail
  go_call (hG _) as e w5 ⟨rfl, hb5⟩
  have x5 := x4.tr hb5
  have y5 := y4.tr hb5
  have z5 := z4.tr hb5
  have hB5 := tr hB4 hb5
  clear a0 a1 b0 b1 x4 y4 z4 hb5 hB4
  obtain ⟨a0, a1, _, _⟩ := id x5
  obtain ⟨b0, b1, _, _⟩ := id z5
  have zg : ¬ g = 0 := by omega
  obtain ⟨e1, e2⟩ := HE1.out
  go_wp2_with fail
  go_quiet (fail)
  clear e1 e2
  have hd := below_drewN (Below.refl w5.heap.size w5) nq
  have x6 := x5.tr hd
  have y6 := y5.tr hd
  have z6 := z5.tr hd
  have hB6 := tr hB5 hd
  obtain ⟨w6, hw6⟩ : ∃ x, w5.drewN nq = x := ⟨_, rfl⟩
  rw [hw6] at x6 y6 z6 hB6 ⊢
  clear a0 a1 b0 b1 x5 y5 z5 hd hB5 hw6
  obtain ⟨a0, a1, _, _⟩ := id x6
  obtain ⟨b0, b1, _, _⟩ := id z6
  obtain ⟨e1, e2⟩ := HE2.out
  go_wp2_with fail
  go_region_held3 (fun w' => w'.cell? ⟨w.heap.size, 0, none⟩ = some (.int .i64 an) ∧ w'.cell? ⟨w.heap.size, 1, none⟩ = some (.int .i64 ad) ∧ w'.cell? ⟨w.heap.size + 1, 0, none⟩ = some (.int .i64 bn) ∧ w'.cell? ⟨w.heap.size + 1, 1, none⟩ = some (.int .i64 bd) ∧ Below w6.heap.size w6 w')
    (first | exact ⟨a0, a1, b0, b1, (Below.refl _ _).drew⟩ | assumption | exact and5 (by assumption) hbk)
    (first | (go_at_call 34; (first | (with_reducible refine (hR1 _).mono ?_) | (with_reducible refine (hR2 _).mono ?_)); rintro e w' ⟨rfl, hbk⟩) | (go_at_call 31; (with_reducible refine (hH _).mono ?_); rintro e w' ⟨rfl, hbk⟩))
  rename_i hh7
  obtain ⟨w7, rfl⟩ : ∃ x : World, x = w' := ⟨_, rfl⟩
  obtain ⟨_, _, _, _, hd⟩ := hh7
  have x7 := x6.tr hd
  have y7 := y6.tr hd
  have z7 := z6.tr hd
  have hB7 := tr hB6 hd
  clear a0 a1 b0 b1 x6 y6 z6 hd hB6 e1 e2
  go_wp2_with fail
  go_call (hO1 _) as e w8 ⟨rfl, hb8⟩
  have x8 := x7.tr hb8
  have y8 := y7.tr hb8
  have z8 := z7.tr hb8
  have hB8 := tr hB7 hb8
  clear x7 y7 z7 hb8 hB7
  obtain ⟨e1, e2⟩ := HE3.out
  have zh : ¬ h = 0 := by omega
  go_wp2_with fail
  go_call (hO2 _) as e w9 ⟨rfl, hb9⟩
  have x9 := x8.tr hb9
  have y9 := y8.tr hb9
  have z9 := z8.tr hb9
  have hB9 := tr hB8 hb9
  clear x8 y8 z8 hb9 hB8
  clear e1 e2
  obtain ⟨g0, g1, f0, f1⟩ := y9
  go_wp2
  have r0 := put0 (.int .i64 0) g0
  have r1 := put1 (.int .i64 0) (.int .i64 0) g1
  refine bodyPost_ret (v := .tuple #[.agg #[.int .i64 0, .int .i64 0], .int .i64 10]) (by simp [results, Try.results14, go_sem, r0, r1]) rfl ⟨rfl, ?_⟩
  exact (hB9.setCell (p := ⟨w.heap.size + 1 + 1, 0, none⟩) (by simp; omega) _).setCell (p := ⟨w.heap.size + 1 + 1, 1, none⟩) (by simp; omega) _

set_option maxRecDepth 100000 in
set_option maxHeartbeats 8000000 in
theorem refEither_e0 (an ad bn bd nn nd C g p q R1 R2 S T h PQ G D n r m s z nm N : Int) (w : World)
    (hA : ∀ w, Calls Try.prog 10 #[.agg #[.int .i64 an, .int .i64 ad]] w fun e w' => e = .returned (.bool true) ∧ Below w.heap.size w w')
    (hB : ∀ w, Calls Try.prog 10 #[.agg #[.int .i64 bn, .int .i64 bd]] w fun e w' => e = .returned (.bool true) ∧ Below w.heap.size w w')
    (hN : ∀ w, Calls Try.prog 13 #[.agg #[.int .i64 bn, .int .i64 bd]] w fun e w' => e = .returned (.tuple #[.agg #[.int .i64 nn, .int .i64 nd], .int .i64 0]) ∧ Below w.heap.size w w')
    (hC : ∀ w, Calls Try.prog 11 #[.agg #[.int .i64 an, .int .i64 ad], .agg #[.int .i64 nn, .int .i64 nd]] w fun e w' => e = .returned (.int .i64 C) ∧ Below w.heap.size w w')
    (hc : ¬ 0 < C)
    (hG : ∀ w, Calls Try.prog 31 #[.int .i64 ad, .int .i64 bd] w fun e w' => e = .returned (.int .i64 g) ∧ Below w.heap.size w w')
    (hg : 1 ≤ g)
    (HE1 : Hid (IntKind.i64.wrap (ad.tdiv g) = p ∧ IntKind.i64.wrap (bd.tdiv g) = q))
    (hR1 : ∀ w, Calls Try.prog 34 #[.int .i64 an, .int .i64 q, .int .i64 g] w fun e w' => e = .returned (.int .i64 R1) ∧ Below w.heap.size w w')
    (hR2 : ∀ w, Calls Try.prog 34 #[.int .i64 bn, .int .i64 p, .int .i64 g] w fun e w' => e = .returned (.int .i64 R2) ∧ Below w.heap.size w w')
    (HE2 : Hid (IntKind.i64.wrap (R1 + R2) = S ∧ S.tmod g = T))
    (hH : ∀ w, Calls Try.prog 31 #[.int .i64 T, .int .i64 g] w fun e w' => e = .returned (.int .i64 h) ∧ Below w.heap.size w w')
    (hh : 1 ≤ h)
    (hO1 : ∀ w, Calls Try.prog 33 #[.int .i64 p, .int .i64 q] w fun e w' => e = .returned (.bool false) ∧ Below w.heap.size w w')
    (HE3 : Hid (IntKind.i64.wrap (p * q) = PQ ∧ IntKind.i64.wrap (g.tdiv h) = G))
    (hO2 : ∀ w, Calls Try.prog 33 #[.int .i64 PQ, .int .i64 G] w fun e w' => e = .returned (.bool false) ∧ Below w.heap.size w w')
    (HE4 : Hid (IntKind.i64.wrap (PQ * G) = D))
    (hX : ∀ w, Calls Try.prog 32 #[.int .i64 an, .int .i64 D, .int .i64 ad] w fun e w' => e = .returned (.tuple #[.int .i64 n, .int .i64 r]) ∧ Below w.heap.size w w')
    (hY : ∀ w, Calls Try.prog 32 #[.int .i64 bn, .int .i64 D, .int .i64 bd] w fun e w' => e = .returned (.tuple #[.int .i64 m, .int .i64 s]) ∧ Below w.heap.size w w')
    (hZ : ∀ w, Calls Try.prog 35 #[.agg #[.int .i64 an, .int .i64 ad], .agg #[.int .i64 bn, .int .i64 bd], .int .i64 D] w fun e w' => e = .returned (.int .i64 z) ∧ Below w.heap.size w w')
    (HE5 : Hid (IntKind.i64.wrap (n + m) = nm ∧ IntKind.i64.wrap (nm + z) = N))
    : Calls Try.prog 14 #[.agg #[.int .i64 an, .int .i64 ad], .agg #[.int .i64 bn, .int .i64 bd]] w fun e w' => e = .returned (.tuple #[.agg #[.int .i64 N, .int .i64 D], .int .i64 0]) ∧ Below w.heap.size w w' := by
  have x0 : Fr (((w.alloc (.cells #[.int .i64 an, .int .i64 ad] 23)).alloc (.cells #[.int .i64 bn, .int .i64 bd] 23)).alloc (.cells #[.int .i64 0, .int .i64 0] 23)) w.heap.size an ad := ((Fr.new w an ad 23).tr (below1 _ (.cells #[.int .i64 bn, .int .i64 bd] 23))).tr (below1 _ (.cells #[.int .i64 0, .int .i64 0] 23))
  have y0 : Fr (((w.alloc (.cells #[.int .i64 an, .int .i64 ad] 23)).alloc (.cells #[.int .i64 bn, .int .i64 bd] 23)).alloc (.cells #[.int .i64 0, .int .i64 0] 23)) (w.heap.size + 1 + 1) 0 0 := by have := Fr.new ((w.alloc (.cells #[.int .i64 an, .int .i64 ad] 23)).alloc (.cells #[.int .i64 bn, .int .i64 bd] 23)) 0 0 23; simpa using this
  have z0 : Fr (((w.alloc (.cells #[.int .i64 an, .int .i64 ad] 23)).alloc (.cells #[.int .i64 bn, .int .i64 bd] 23)).alloc (.cells #[.int .i64 0, .int .i64 0] 23)) (w.heap.size + 1) bn bd := by have := (Fr.new (w.alloc (.cells #[.int .i64 an, .int .i64 ad] 23)) bn bd 23).tr (below1 _ (.cells #[.int .i64 0, .int .i64 0] 23)); simpa using this
  have hB0 : Below w.heap.size w (((w.alloc (.cells #[.int .i64 an, .int .i64 ad] 23)).alloc (.cells #[.int .i64 bn, .int .i64 bd] 23)).alloc (.cells #[.int .i64 0, .int .i64 0] 23)) := ((below1 _ _).alloc (by simp) _).alloc (by simp; omega) _
  go_enter Try.func14, Try.ntmps14
  go_wp2_with fail
  go_call (hA _) as e w1 ⟨rfl, hb1⟩
  have x1 := x0.tr hb1
  have y1 := y0.tr hb1
  have z1 := z0.tr hb1
  have hB1 := hB0.trans (hb1.mono hB0.size)
  obtain ⟨c0, c1, _, _⟩ := z0.tr hb1
  clear x0 y0 z0 hB0 hb1
  go_wp2_with fail
  go_call (hB _) as e w2 ⟨rfl, hb2⟩
  obtain ⟨c0, c1, _, _⟩ := z1.tr hb2
  have x2 := x1.tr hb2
  have y2 := y1.tr hb2
  have z2 := z1.tr hb2
  have hB2 := tr hB1 hb2
  clear x1 y1 z1 hb2 hB1
  go_wp2_with fail
  go_call (hN _) as e w3 ⟨rfl, hb3⟩
  have x3 := x2.tr hb3
  have y3 := y2.tr hb3
  have z3 := z2.tr hb3
  have hB3 := tr hB2 hb3
  have hl3 : w.heap.size + 1 + 1 < w3.heap.size := y3.lt
  obtain ⟨c0, c1, _, _⟩ := x3.tr (below1 w3 (.cells #[.int .i64 nn, .int .i64 nd] 23))
  clear x2 y2 z2 hb3 hB2
  go_wp2_with fail
  go_call (hC _) as e w4 ⟨rfl, hb4⟩
  have hb4' := (below1 w3 (.cells #[.int .i64 nn, .int .i64 nd] 23)).trans (hb4.mono (by simp))
  have x4 := x3.tr hb4'
  have y4 := y3.tr hb4'
  have z4 := z3.tr hb4'
  have hB4 := tr hB3 hb4'
  clear x3 y3 z3 hb4 hb4' hB3
  obtain ⟨a0, a1, _, _⟩ := id x4
  obtain ⟨b0, b1, _, _⟩ := id z4
  go_wp2_with fail
  go_call (hG _) as e w5 ⟨rfl, hb5⟩
  have x5 := x4.tr hb5
  have y5 := y4.tr hb5
  have z5 := z4.tr hb5
  have hB5 := tr hB4 hb5
  clear a0 a1 b0 b1 x4 y4 z4 hb5 hB4
  obtain ⟨a0, a1, _, _⟩ := id x5
  obtain ⟨b0, b1, _, _⟩ := id z5
  have zg : ¬ g = 0 := by omega
  obtain ⟨e1, e2⟩ := HE1.out
  go_wp2_with fail
  go_quiet (fail)
  clear e1 e2
  have hd := below_drewN (Below.refl w5.heap.size w5) nq
  have x6 := x5.tr hd
  have y6 := y5.tr hd
  have z6 := z5.tr hd
  have hB6 := tr hB5 hd
  obtain ⟨w6, hw6⟩ : ∃ x, w5.drewN nq = x := ⟨_, rfl⟩
  rw [hw6] at x6 y6 z6 hB6 ⊢
  clear a0 a1 b0 b1 x5 y5 z5 hd hB5 hw6
  obtain ⟨a0, a1, _, _⟩ := id x6
  obtain ⟨b0, b1, _, _⟩ := id z6
  obtain ⟨e1, e2⟩ := HE2.out
  go_wp2_with fail
  go_region_held3 (fun w' => w'.cell? ⟨w.heap.size, 0, none⟩ = some (.int .i64 an) ∧ w'.cell? ⟨w.heap.size, 1, none⟩ = some (.int .i64 ad) ∧ w'.cell? ⟨w.heap.size + 1, 0, none⟩ = some (.int .i64 bn) ∧ w'.cell? ⟨w.heap.size + 1, 1, none⟩ = some (.int .i64 bd) ∧ Below w6.heap.size w6 w')
    (first | exact ⟨a0, a1, b0, b1, (Below.refl _ _).drew⟩ | assumption | exact and5 (by assumption) hbk)
    (first | (go_at_call 34; (first | (with_reducible refine (hR1 _).mono ?_) | (with_reducible refine (hR2 _).mono ?_)); rintro e w' ⟨rfl, hbk⟩) | (go_at_call 31; (with_reducible refine (hH _).mono ?_); rintro e w' ⟨rfl, hbk⟩))
  rename_i hh7
  obtain ⟨w7, rfl⟩ : ∃ x : World, x = w' := ⟨_, rfl⟩
  obtain ⟨_, _, _, _, hd⟩ := hh7
  have x7 := x6.tr hd
  have y7 := y6.tr hd
  have z7 := z6.tr hd
  have hB7 := tr hB6 hd
  clear a0 a1 b0 b1 x6 y6 z6 hd hB6 e1 e2
  go_wp2_with fail
  go_call (hO1 _) as e w8 ⟨rfl, hb8⟩
  have x8 := x7.tr hb8
  have y8 := y7.tr hb8
  have z8 := z7.tr hb8
  have hB8 := tr hB7 hb8
  clear x7 y7 z7 hb8 hB7
  obtain ⟨e1, e2⟩ := HE3.out
  have zh : ¬ h = 0 := by omega
  go_wp2_with fail
  go_call (hO2 _) as e w9 ⟨rfl, hb9⟩
  have x9 := x8.tr hb9
  have y9 := y8.tr hb9
  have z9 := z8.tr hb9
  have hB9 := tr hB8 hb9
  clear x8 y8 z8 hb9 hB8
  have e3 := HE4.out
  obtain ⟨a0, a1, _, _⟩ := id x9
  obtain ⟨b0, b1, _, _⟩ := id z9
  go_wp2_with fail
  go_call (hX _) as e w10 ⟨rfl, hb10⟩
  have x10 := x9.tr hb10
  have y10 := y9.tr hb10
  have z10 := z9.tr hb10
  have hB10 := tr hB9 hb10
  clear a0 a1 b0 b1 x9 y9 z9 hb10 hB9 e1 e2 e3
  obtain ⟨a0, a1, _, _⟩ := id x10
  obtain ⟨b0, b1, _, _⟩ := id z10
  go_wp2_with fail
  go_call (hY _) as e w11 ⟨rfl, hb11⟩
  have x11 := x10.tr hb11
  have y11 := y10.tr hb11
  have z11 := z10.tr hb11
  have hB11 := tr hB10 hb11
  clear a0 a1 b0 b1 x10 y10 z10 hb11 hB10
  obtain ⟨a0, a1, _, _⟩ := id x11
  obtain ⟨b0, b1, _, _⟩ := id z11
  obtain ⟨e1, e2⟩ := HE5.out
  go_wp2_with fail
  go_call (hZ _) as e w12 ⟨rfl, hb12⟩
  have y12 := y11.tr hb12
  have hB12 := tr hB11 hb12
  clear a0 a1 b0 b1 x11 y11 z11 hb12 hB11
  obtain ⟨g0, g1, f0, f1⟩ := y12
  go_wp2
  have r0 := put0 (.int .i64 N) g0
  have r1 := put1 (.int .i64 N) (.int .i64 D) g1
  refine bodyPost_ret (v := .tuple #[.agg #[.int .i64 N, .int .i64 D], .int .i64 0]) (by simp [results, Try.results14, go_sem, r0, r1]) rfl ⟨rfl, ?_⟩
  exact (hB12.setCell (p := ⟨w.heap.size + 1 + 1, 0, none⟩) (by simp; omega) _).setCell (p := ⟨w.heap.size + 1 + 1, 1, none⟩) (by simp; omega) _

end Go.Proofs.Ytnpnnfbmnlgioaa

namespace Go.Proofs.Ytnpnnfbmnlgioaa
open Go.RowKit
set_option linter.unusedVariables false

def eG (ad bd : Int) : Int := Int.gcd ad bd
def eNum (an ad bn bd : Int) : Int := an * (bd / eG ad bd) + bn * (ad / eG ad bd)
def eBy (an ad bn bd : Int) : Int := Int.gcd (eNum an ad bn bd % eG ad bd) (eG ad bd)
/-- What Either returns. -/
def sEither (an ad bn bd : Int) : Int × Int × Int :=
  if badC an ad = true ∨ badC bn bd = true then (0, 0, 2)
  else if ad * (bd / eG ad bd) < eNum an ad bn bd then (0, 0, 3)
  else if 1000000000000000 < ad / eG ad bd * (bd / eBy an ad bn bd) then (0, 0, 10)
  else (eNum an ad bn bd / eBy an ad bn bd, ad / eG ad bd * (bd / eBy an ad bn bd), 0)

/-- The facts that an addition of two valid chances stands on. -/
structure EFacts (an ad bn bd g p q num h G : Int) : Prop where
  g1 : 1 ≤ g
  gle : g ≤ bd
  ap : ad = g * p
  bq : bd = g * q
  p1 : 1 ≤ p
  q1 : 1 ≤ q
  nm : num = an * q + bn * p
  h1 : 1 ≤ h
  hG : g = h * G
  G1 : 1 ≤ G
  hd : h ∣ num
  bh : bd / h = q * G
  hle : h ≤ g

theorem eFacts {an ad bn bd : Int} (ha : badC an ad = false) (hb : badC bn bd = false) :
    EFacts an ad bn bd (eG ad bd) (ad / eG ad bd) (bd / eG ad bd) (eNum an ad bn bd) (eBy an ad bn bd) (eG ad bd / eBy an ad bn bd) := by
  obtain ⟨a1, a2, a3, a4, _⟩ := badC_ok ha
  obtain ⟨b1, b2, b3, b4, _⟩ := badC_ok hb
  have g1 : 1 ≤ eG ad bd := gcd_pos b1
  have d1 : eG ad bd ∣ ad := Int.gcd_dvd_left ..
  have d2 : eG ad bd ∣ bd := Int.gcd_dvd_right ..
  have h1 : 1 ≤ eBy an ad bn bd := gcd_pos g1
  have k1 : eBy an ad bn bd ∣ eG ad bd := Int.gcd_dvd_right ..
  have k2 : eBy an ad bn bd ∣ eNum an ad bn bd % eG ad bd := Int.gcd_dvd_left ..
  have k3 : eBy an ad bn bd ∣ eNum an ad bn bd := by
    have := Int.mul_ediv_add_emod (eNum an ad bn bd) (eG ad bd)
    rw [← this]
    exact Int.dvd_add (Int.dvd_trans k1 (Int.dvd_mul_right _ _)) k2
  have e1 : ad = eG ad bd * (ad / eG ad bd) := (Int.mul_ediv_cancel' d1).symm
  have e2 : bd = eG ad bd * (bd / eG ad bd) := (Int.mul_ediv_cancel' d2).symm
  have e3 : eG ad bd = eBy an ad bn bd * (eG ad bd / eBy an ad bn bd) := (Int.mul_ediv_cancel' k1).symm
  refine ⟨g1, Int.le_of_dvd (by omega) d2, e1, e2, ?_, ?_, rfl, h1, e3, ?_, k3, ?_, Int.le_of_dvd (by omega) k1⟩
  · exact (Int.le_ediv_iff_mul_le (by omega)).2 (by have := Int.le_of_dvd (by omega) d1; omega)
  · exact (Int.le_ediv_iff_mul_le (by omega)).2 (by have := Int.le_of_dvd (by omega) d2; omega)
  · exact (Int.le_ediv_iff_mul_le (by omega)).2 (by have := Int.le_of_dvd (by omega) k1; omega)
  · generalize bd / eG ad bd = q at *
    generalize eG ad bd / eBy an ad bn bd = G at *
    generalize eBy an ad bn bd = h at *
    rw [e2, e3, Int.mul_assoc, Int.mul_ediv_cancel_left _ (by omega), Int.mul_comm]

theorem refNot_any (n d : Int) (w : World) :
    Calls Try.prog 13 #[.agg #[.int .i64 n, .int .i64 d]] w fun e w' => e = .returned (.tuple #[.agg #[.int .i64 (if badC n d = true then 0 else d - n), .int .i64 (if badC n d = true then 0 else d)], .int .i64 (if badC n d = true then 2 else 0)]) ∧ Below w.heap.size w w' := by
  by_cases h : badC n d = true
  · simp only [h, if_true]; exact refNot_bad n d w h
  · have h' : badC n d = false := by simpa using h
    simp only [h', Bool.false_eq_true, if_false]; exact refNot_ok n d w h'

theorem refBoth_any (an ad bn bd : Int) (w : World) :
    Calls Try.prog 12 #[.agg #[.int .i64 an, .int .i64 ad], .agg #[.int .i64 bn, .int .i64 bd]] w fun e w' => e = .returned (.tuple #[.agg #[.int .i64 (sBoth an ad bn bd).1, .int .i64 (sBoth an ad bn bd).2.1], .int .i64 (sBoth an ad bn bd).2.2]) ∧ Below w.heap.size w w' := by
  by_cases h : badC an ad = true ∨ badC bn bd = true
  · unfold sBoth; rw [if_pos h]; exact refBoth_bad an ad bn bd w h
  · have ha : badC an ad = false := by simpa using fun e => h (.inl e)
    have hb : badC bn bd = false := by simpa using fun e => h (.inr e)
    refine refBoth_main an ad bn bd w ha hb _ _ _ _ _ _ _ _ _ rfl rfl rfl rfl rfl rfl ?_ ?_
    · intro hv
      rw [Int.mul_comm] at hv
      unfold sBoth; rw [if_neg h, if_pos hv]; exact ⟨rfl, rfl, rfl⟩
    · intro hv
      rw [Int.mul_comm] at hv
      unfold sBoth; rw [if_neg h, if_neg (by omega)]; exact ⟨rfl, Int.mul_comm _ _, rfl⟩
set_option maxRecDepth 100000 in
set_option maxHeartbeats 4000000 in
theorem refEither_bad (an ad bn bd : Int) (w : World) (h : badC an ad = true ∨ badC bn bd = true) :
    Calls Try.prog 14 #[.agg #[.int .i64 an, .int .i64 ad], .agg #[.int .i64 bn, .int .i64 bd]] w fun e w' => e = .returned (.tuple #[.agg #[.int .i64 0, .int .i64 0], .int .i64 2]) ∧ Below w.heap.size w w' := by
  have hA := fun w => refChance_ok an ad w
  have hB := fun w => refChance_ok bn bd w
  have y0 : Fr (((w.alloc (.cells #[.int .i64 an, .int .i64 ad] 23)).alloc (.cells #[.int .i64 bn, .int .i64 bd] 23)).alloc (.cells #[.int .i64 0, .int .i64 0] 23)) (w.heap.size + 1 + 1) 0 0 := by have := Fr.new ((w.alloc (.cells #[.int .i64 an, .int .i64 ad] 23)).alloc (.cells #[.int .i64 bn, .int .i64 bd] 23)) 0 0 23; simpa using this
  have z0 : Fr (((w.alloc (.cells #[.int .i64 an, .int .i64 ad] 23)).alloc (.cells #[.int .i64 bn, .int .i64 bd] 23)).alloc (.cells #[.int .i64 0, .int .i64 0] 23)) (w.heap.size + 1) bn bd := by have := (Fr.new (w.alloc (.cells #[.int .i64 an, .int .i64 ad] 23)) bn bd 23).tr (below1 _ (.cells #[.int .i64 0, .int .i64 0] 23)); simpa using this
  by_cases h1 : badC an ad = true
  · rw [h1] at hA
    clear h h1 hB
    go_enter Try.func14, Try.ntmps14
    go_wp2_with fail
    go_call (hA _) as e w1 ⟨rfl, hb1⟩
    have hB1 : Below w.heap.size w w1 := (((below1 _ _).alloc (by simp) _).alloc (by simp; omega) _).trans (hb1.mono (by simp; omega))
    obtain ⟨g0, g1, f0, f1⟩ := y0.tr hb1
    clear y0 z0
    go_wp2
    have r0 := put0 (.int .i64 0) g0
    have r1 := put1 (.int .i64 0) (.int .i64 0) g1
    refine bodyPost_ret (v := .tuple #[.agg #[.int .i64 0, .int .i64 0], .int .i64 2]) (by simp [results, Try.results14, go_sem, r0, r1]) rfl ⟨rfl, ?_⟩
    exact (hB1.setCell (p := ⟨w.heap.size + 1 + 1, 0, none⟩) (by simp; omega) _).setCell (p := ⟨w.heap.size + 1 + 1, 1, none⟩) (by simp; omega) _
  · have h1' : badC an ad = false := by simpa using h1
    have h2 : badC bn bd = true := h.resolve_left h1
    rw [h1'] at hA
    rw [h2] at hB
    clear h h1 h1' h2
    go_enter Try.func14, Try.ntmps14
    go_wp2_with fail
    go_call (hA _) as e w1 ⟨rfl, hb1⟩
    have hB1 : Below w.heap.size w w1 := (((below1 _ _).alloc (by simp) _).alloc (by simp; omega) _).trans (hb1.mono (by simp; omega))
    have y1 := y0.tr hb1
    obtain ⟨c0, c1, _, _⟩ := z0.tr hb1
    clear y0 z0
    go_wp2_with fail
    go_call (hB _) as e w2 ⟨rfl, hb2⟩
    have hB2 := tr hB1 hb2
    obtain ⟨g0, g1, f0, f1⟩ := y1.tr hb2
    clear y1
    go_wp2
    have r0 := put0 (.int .i64 0) g0
    have r1 := put1 (.int .i64 0) (.int .i64 0) g1
    refine bodyPost_ret (v := .tuple #[.agg #[.int .i64 0, .int .i64 0], .int .i64 2]) (by simp [results, Try.results14, go_sem, r0, r1]) rfl ⟨rfl, ?_⟩
    exact (hB2.setCell (p := ⟨w.heap.size + 1 + 1, 0, none⟩) (by simp; omega) _).setCell (p := ⟨w.heap.size + 1 + 1, 1, none⟩) (by simp; omega) _

theorem refEither_any (an ad bn bd : Int) (w : World) :
    Calls Try.prog 14 #[.agg #[.int .i64 an, .int .i64 ad], .agg #[.int .i64 bn, .int .i64 bd]] w fun e w' => e = .returned (.tuple #[.agg #[.int .i64 (sEither an ad bn bd).1, .int .i64 (sEither an ad bn bd).2.1], .int .i64 (sEither an ad bn bd).2.2]) ∧ Below w.heap.size w w' := by
  by_cases hbad : badC an ad = true ∨ badC bn bd = true
  · unfold sEither; rw [if_pos hbad]; exact refEither_bad an ad bn bd w hbad
  · have ha : badC an ad = false := by simpa using fun e => hbad (.inl e)
    have hb : badC bn bd = false := by simpa using fun e => hbad (.inr e)
    have F := eFacts ha hb
    obtain ⟨a1, a2, a3, a4, _⟩ := badC_ok ha
    obtain ⟨b1, b2, b3, b4, _⟩ := badC_ok hb
    have hA := fun w => refChance_ok an ad w
    have hB := fun w => refChance_ok bn bd w
    rw [ha] at hA
    rw [hb] at hB
    have hN := fun w => refNot_ok bn bd w hb
    have hs : sEither an ad bn bd = if ad * (bd / eG ad bd) < eNum an ad bn bd then (0, 0, 3)
      else if 1000000000000000 < ad / eG ad bd * (bd / eBy an ad bn bd) then (0, 0, 10)
      else (eNum an ad bn bd / eBy an ad bn bd, ad / eG ad bd * (bd / eBy an ad bn bd), 0) := by unfold sEither; rw [if_neg hbad]
    rw [hs]
    clear hs hbad
    have hC := fun w => refCompare_ok an ad (bd - bn) bd w a3 (by omega) (by omega) (by omega) a1 a2 b1 b2
    have hg : (Int.gcd ad bd : Int) = eG ad bd := rfl
    have hby : (Int.gcd (eNum an ad bn bd % eG ad bd) (eG ad bd) : Int) = eBy an ad bn bd := rfl
    have hG := fun w => refDivisor_any ad bd w (by omega) (by omega) (by omega) (by omega)
    rw [hg] at hG
    obtain ⟨g, eg⟩ : ∃ g, eG ad bd = g := ⟨_, rfl⟩
    obtain ⟨p, ep⟩ : ∃ p, ad / eG ad bd = p := ⟨_, rfl⟩
    obtain ⟨q, eq⟩ : ∃ q, bd / eG ad bd = q := ⟨_, rfl⟩
    obtain ⟨num, en⟩ : ∃ x, eNum an ad bn bd = x := ⟨_, rfl⟩
    obtain ⟨h, eh⟩ : ∃ x, eBy an ad bn bd = x := ⟨_, rfl⟩
    obtain ⟨G, eGG⟩ : ∃ x, eG ad bd / eBy an ad bn bd = x := ⟨_, rfl⟩
    rw [ep, eq, en, eGG, eh, eg] at F
    rw [en, eg, eh] at hby
    rw [ep, eq, en, eh]
    rw [eg] at hG ep eq eGG
    rw [eh] at eGG
    clear en eh eg hg
    obtain ⟨g1, gle, ap, bq, p1, q1, nm, h1, hGe, G1, hd, bh, hle⟩ := F
    have E1 : Hid (IntKind.i64.wrap (ad.tdiv g) = p ∧ IntKind.i64.wrap (bd.tdiv g) = q) := ⟨by rw [← ep]; exact wdiv (by omega) (by omega) g1, by rw [← eq]; exact wdiv (by omega) (by omega) g1⟩
    have pl : p ≤ ad := by rw [← ep]; exact Int.ediv_le_self _ (by omega)
    have ql : q ≤ bd := by rw [← eq]; exact Int.ediv_le_self _ (by omega)
    have hR1 := fun w => refRest_ok an q g w a3 (by omega) g1 (by omega) (by omega) (by omega)
    have hR2 := fun w => refRest_ok bn p g w b3 (by omega) g1 (by omega) (by omega) (by omega)
    have r0 : 0 ≤ an * q % g := Int.emod_nonneg _ (by omega)
    have r1 : an * q % g < g := Int.emod_lt_of_pos _ (by omega)
    have s0 : 0 ≤ bn * p % g := Int.emod_nonneg _ (by omega)
    have s1 : bn * p % g < g := Int.emod_lt_of_pos _ (by omega)
    have E2 : Hid (IntKind.i64.wrap (an * q % g + bn * p % g) = an * q % g + bn * p % g ∧ (an * q % g + bn * p % g).tmod g = num % g) := ⟨IntWalk.i64_in _ (by omega), by rw [Int.tmod_eq_emod_of_nonneg (by omega), ← Int.add_emod, nm]⟩
    have hH := fun w => refDivisor_any (num % g) g w (Int.emod_nonneg _ (by omega)) (by omega) (by have := Int.emod_lt_of_pos num (show 0 < g by omega); omega) (by omega)
    rw [hby] at hH
    have hO1 := fun w => refOver_any p q w (by omega) (by omega)
    have kc : 0 < cmp3 (an * bd) ((bd - bn) * ad) ↔ ad * q < num := by
      have x1 : an * bd = g * (an * q) := by rw [bq]; ac_rfl
      have y1 : bd * ad = g * (ad * q) := by rw [bq]; ac_rfl
      have y2 : bn * ad = g * (bn * p) := by rw [ap]; ac_rfl
      have x2 : (bd - bn) * ad = g * (ad * q) - g * (bn * p) := by rw [Int.sub_mul, y1, y2]
      have x3 : g * num = g * (an * q) + g * (bn * p) := by rw [nm, Int.mul_add]
      have x4 : (bd - bn) * ad < an * bd ↔ g * (ad * q) < g * num := by rw [x1, x2, x3]; omega
      have x5 : g * (ad * q) < g * num ↔ ad * q < num := ⟨fun h => Int.lt_of_mul_lt_mul_left h (by omega), fun h => Int.mul_lt_mul_of_pos_left h (by omega)⟩
      rw [← x5, ← x4]
      unfold cmp3
      split
      · constructor <;> intro h <;> omega
      · split <;> constructor <;> intro h <;> omega
    by_cases hc : ad * q < num
    · rw [if_pos hc]
      exact refEither_e3 an ad bn bd (bd - bn) bd _ w hA hB hN hC (kc.2 hc)
    · rw [if_neg hc]
      have hc' := fun h => hc (kc.1 h)
      have eD : p * (bd / h) = p * q * G := by rw [bh, Int.mul_assoc]
      rw [eD]
      have pq1 : 1 ≤ p * q := Int.mul_pos (show 0 < p by omega) (show 0 < q by omega)
      by_cases o1 : 1000000000000000 < p * q
      · have o3 : 1000000000000000 < p * q * G := Int.lt_of_lt_of_le o1 (by have := Int.mul_le_mul_of_nonneg_left G1 (show 0 ≤ p * q by omega); rwa [Int.mul_one] at this)
        rw [if_pos o3]
        have hd1 : decide (1000000000000000 < p * q) = true := by simpa using o1
        rw [hd1] at hO1
        exact refEither_e10a an ad bn bd (bd - bn) bd _ g p q _ _ _ _ h w hA hB hN hC hc' hG g1 E1 hR1 hR2 E2 hH h1 hO1
      · have hd1 : decide (1000000000000000 < p * q) = false := by simpa using o1
        rw [hd1] at hO1
        have Gle : G ≤ g := by rw [← eGG]; exact Int.ediv_le_self _ (by omega)
        have E3 : Hid (IntKind.i64.wrap (p * q) = p * q ∧ IntKind.i64.wrap (g.tdiv h) = G) := ⟨IntWalk.i64_in _ (by omega), by rw [← eGG]; exact wdiv (by omega) (by omega) h1⟩
        have hO2 := fun w => refOver_any (p * q) G w (by omega) (by omega)
        by_cases o2 : 1000000000000000 < p * q * G
        · rw [if_pos o2]
          have hd2 : decide (1000000000000000 < p * q * G) = true := by simpa using o2
          rw [hd2] at hO2
          exact refEither_e10b an ad bn bd (bd - bn) bd _ g p q _ _ _ _ h (p * q) G w hA hB hN hC hc' hG g1 E1 hR1 hR2 E2 hH h1 hO1 E3 hO2
        · rw [if_neg o2]
          have hd2 : decide (1000000000000000 < p * q * G) = false := by simpa using o2
          rw [hd2] at hO2
          have D0 : 0 ≤ p * q * G := Int.mul_nonneg (by omega) (by omega)
          obtain ⟨D, hD⟩ : ∃ k : Nat, p * q * G = k := ⟨(p * q * G).toNat, by omega⟩
          have hX := fun w => refDivided_any an ad D w a3 a1 (by omega) (by omega) a2 (by
            show _ ≤ _
            calc an * (D : Int) ≤ ad * (D : Int) := Int.mul_le_mul_of_nonneg_right a4 (by omega)
              _ ≤ ad * 1000000000000000 := Int.mul_le_mul_of_nonneg_left (by omega) (by omega)
              _ = _ := Int.mul_comm _ _)
          have hY := fun w => refDivided_any bn bd D w b3 b1 (by omega) (by omega) b2 (by
            show _ ≤ _
            calc bn * (D : Int) ≤ bd * (D : Int) := Int.mul_le_mul_of_nonneg_right b4 (by omega)
              _ ≤ bd * 1000000000000000 := Int.mul_le_mul_of_nonneg_left (by omega) (by omega)
              _ = _ := Int.mul_comm _ _)
          have pG : 1 ≤ p * G := Int.mul_pos (show 0 < p by omega) (show 0 < G by omega)
          have qG : 1 ≤ q * G := Int.mul_pos (show 0 < q by omega) (show 0 < G by omega)
          have c1 : an * (D : Int) = an * q * (p * G) := by rw [← hD]; ac_rfl
          have c2 : bn * (D : Int) = bn * p * (q * G) := by rw [← hD]; ac_rfl
          have c3 : ad = h * (p * G) := by rw [ap, hGe]; ac_rfl
          have c4 : bd = h * (q * G) := by rw [bq, hGe]; ac_rfl
          obtain ⟨x1, x2⟩ := cut_quo (x := an * q) (d := h) pG
          obtain ⟨y1, y2⟩ := cut_quo (x := bn * p) (d := h) qG
          rw [← c1, ← c3] at x1 x2
          rw [← c2, ← c4] at y1 y2
          rw [x1, x2] at hX
          rw [y1, y2] at hY
          have hs := sum_quo (x := an * q) (y := bn * p) h1 (by rw [← nm]; exact hd)
          rw [← nm] at hs
          have z1 : (0 < an * q % h * (p * G)) ↔ 0 < an * q % h := ⟨fun k => by
            by_cases k2 : 0 < an * q % h
            · exact k2
            · have := Int.emod_nonneg (an * q) (show h ≠ 0 by omega)
              rw [show an * q % h = 0 by omega, Int.zero_mul] at k; omega, fun k => Int.mul_pos k (by omega)⟩
          have z2 : (0 < bn * p % h * (q * G)) ↔ 0 < bn * p % h := ⟨fun k => by
            by_cases k2 : 0 < bn * p % h
            · exact k2
            · have := Int.emod_nonneg (bn * p) (show h ≠ 0 by omega)
              rw [show bn * p % h = 0 by omega, Int.zero_mul] at k; omega, fun k => Int.mul_pos k (by omega)⟩
          have hZ := fun w => refRestOf_ok an ad bn bd (D : Int) _ _ _ _ (if 0 < an * q % h ∨ 0 < bn * p % h then 1 else 0) w (by simp only [z1, z2]) hX hY
          have hle2 : num / h ≤ (D : Int) := by
            refine Int.le_of_mul_le_mul_right ?_ (show 0 < h by omega)
            rw [Int.ediv_mul_cancel hd, ← hD]
            have : p * q * G * h = ad * q := by rw [ap, hGe]; ac_rfl
            rw [this]; omega
          have n0 : 0 ≤ an * q / h := Int.ediv_nonneg (Int.mul_nonneg a3 (by omega)) (by omega)
          have m0 : 0 ≤ bn * p / h := Int.ediv_nonneg (Int.mul_nonneg b3 (by omega)) (by omega)
          have E4 : Hid (IntKind.i64.wrap (p * q * G) = (D : Int)) := by show _ = _; rw [hD]; exact IntWalk.i64_in _ (by omega)
          rw [hD]
          refine refEither_e0 an ad bn bd (bd - bn) bd _ g p q _ _ _ _ h (p * q) G (D : Int) _ _ _ _ _ (an * q / h + bn * p / h) (num / h) w hA hB hN hC hc' hG g1 E1 hR1 hR2 E2 hH h1 hO1 E3 hO2 E4 hX hY hZ ?_
          constructor
          · refine IntWalk.i64_in _ ?_
            split at hs <;> omega
          · rw [← hs]
            refine IntWalk.i64_in _ ?_
            omega
end Go.Proofs.Ytnpnnfbmnlgioaa

