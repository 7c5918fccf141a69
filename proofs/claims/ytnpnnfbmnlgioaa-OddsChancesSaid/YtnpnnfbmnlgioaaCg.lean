/-
  What Either of the reference returns: the walk, for each way out, what it calls given.
-/
import Derived.Test.YtnpnnfbmnlgioaaCf
namespace Go.Proofs.Ytnpnnfbmnlgioaa
open Go.RowKit
set_option linter.unusedVariables false

set_option maxRecDepth 100000 in
set_option maxHeartbeats 8000000 in
theorem refEither_e3 (an ad bn bd nn nd C : Int) (w : World)
    (hA : ∀ w, Calls Try.prog 10 #[.agg #[.int .i64 an, .int .i64 ad]] w fun e w' => e = .returned (.bool true) ∧ Below w.heap.size w w')
    (hB : ∀ w, Calls Try.prog 10 #[.agg #[.int .i64 bn, .int .i64 bd]] w fun e w' => e = .returned (.bool true) ∧ Below w.heap.size w w')
    (hN : ∀ w, Calls Try.prog 13 #[.agg #[.int .i64 bn, .int .i64 bd]] w fun e w' => e = .returned (.tuple #[.agg #[.int .i64 nn, .int .i64 nd], .int .i64 0]) ∧ Below w.heap.size w w')
    (hC : ∀ w, Calls Try.prog 11 #[.agg #[.int .i64 an, .int .i64 ad], .agg #[.int .i64 nn, .int .i64 nd]] w fun e w' => e = .returned (.int .i64 C) ∧ Below w.heap.size w w')
    (hc : 0 < C)
    : Calls Try.prog 14 #[.agg #[.int .i64 an, .int .i64 ad], .agg #[.int .i64 bn, .int .i64 bd]] w fun e w' => e = .returned (.tuple #[.agg #[.int .i64 0, .int .i64 0], .int .i64 3]) ∧ Below w.heap.size w w' := by
  have x0 : Fr (((w.alloc (.cells #[.int .i64 an, .int .i64 ad] 23)).alloc (.cells #[.int .i64 bn, .int .i64 bd] 23)).alloc (.cells #[.int .i64 0, .int .i64 0] 23)) w.heap.size an ad := ((Fr.new w an ad 23).tr (below1 _ (.cells #[.int .i64 bn, .int .i64 bd] 23))).tr (below1 _ (.cells #[.int .i64 0, .int .i64 0] 23))
  have y0 : Fr (((w.alloc (.cells #[.int .i64 an, .int .i64 ad] 23)).alloc (.cells #[.int .i64 bn, .int .i64 bd] 23)).alloc (.cells #[.int .i64 0, .int .i64 0] 23)) (w.heap.size + 1 + 1) 0 0 := by have := Fr.new ((w.alloc (.cells #[.int .i64 an, .int .i64 ad] 23)).alloc (.cells #[.int .i64 bn, .int .i64 bd] 23)) 0 0 23; simpa using this
  have z0 : Fr (((w.alloc (.cells #[.int .i64 an, .int .i64 ad] 23)).alloc (.cells #[.int .i64 bn, .int .i64 bd] 23)).alloc (.cells #[.int .i64 0, .int .i64 0] 23)) (w.heap.size + 1) bn bd := by have := (Fr.new (w.alloc (.cells #[.int .i64 an, .int .i64 ad] 23)) bn bd 23).tr (below1 _ (.cells #[.int .i64 0, .int .i64 0] 23)); simpa using this
  have hB0 : Below w.heap.size w (((w.alloc (.cells #[.int .i64 an, .int .i64 ad] 23)).alloc (.cells #[.int .i64 bn, .int .i64 bd] 23)).alloc (.cells #[.int .i64 0, .int .i64 0] 23)) := ((below1 _ _).alloc (by simp) _).alloc (by simp; omega) _
  go_enter Try.func14, Try.ntmps14
  go_wp2_with fail
  go_call (hA _) as e w1 ⟨rfl, hb1⟩
  have x1 := x0.tr hb1
  have y1 := y0.tr hb1
  have z1 := z0.tr hb1
  have hB1 := hB0.trans (hb1.mono hB0.size)
  obtain ⟨c0, c1, _, _⟩ := z0.tr hb1
  clear x0 y0 z0 hB0 hb1
  go_wp2_with fail
  go_call (hB _) as e w2 ⟨rfl, hb2⟩
  obtain ⟨c0, c1, _, _⟩ := z1.tr hb2
  have x2 := x1.tr hb2
  have y2 := y1.tr hb2
  have z2 := z1.tr hb2
  have hB2 := tr hB1 hb2
  clear x1 y1 z1 hb2 hB1
  go_wp2_with fail
  go_call (hN _) as e w3 ⟨rfl, hb3⟩
  have x3 := x2.tr hb3
  have y3 := y2.tr hb3
  have z3 := z2.tr hb3
  have hB3 := tr hB2 hb3
  have hl3 : w.heap.size + 1 + 1 < w3.heap.size := y3.lt
  obtain ⟨c0, c1, _, _⟩ := x3.tr (below1 w3 (.cells #[.int .i64 nn, .int .i64 nd] 23))
  clear x2 y2 z2 hb3 hB2
  go_wp2_with fail
  go_call (hC _) as e w4 ⟨rfl, hb4⟩
  have hb4' := (below1 w3 (.cells #[.int .i64 nn, .int .i64 nd] 23)).trans (hb4.mono (by simp))
  have x4 := x3.tr hb4'
  have y4 := y3.tr hb4'
  have z4 := z3.tr hb4'
  have hB4 := tr hB3 hb4'
  clear x3 y3 z3 hb4 hb4' hB3
  obtain ⟨g0, g1, f0, f1⟩ := y4
  go_wp2
  have r0 := put0 (.int .i64 0) g0
  have r1 := put1 (.int .i64 0) (.int .i64 0) g1
  refine bodyPost_ret (v := .tuple #[.agg #[.int .i64 0, .int .i64 0], .int .i64 3]) (by simp [results, Try.results14, go_sem, r0, r1]) rfl ⟨rfl, ?_⟩
  exact (hB4.setCell (p := ⟨w.heap.size + 1 + 1, 0, none⟩) (by simp; omega) _).setCell (p := ⟨w.heap.size + 1 + 1, 1, none⟩) (by simp; omega) _

set_option maxRecDepth 100000 in
set_option maxHeartbeats 8000000 in
theorem refEither_e10a (an ad bn bd nn nd C g p q R1 R2 S T h : Int) (w : World)
    (hA : ∀ w, Calls Try.prog 10 #[.agg #[.int .i64 an, .int .i64 ad]] w fun e w' => e = .returned (.bool true) ∧ Below w.heap.size w w')
    (hB : ∀ w, Calls Try.prog 10 #[.agg #[.int .i64 bn, .int .i64 bd]] w fun e w' => e = .returned (.bool true) ∧ Below w.heap.size w w')
    (hN : ∀ w, Calls Try.prog 13 #[.agg #[.int .i64 bn, .int .i64 bd]] w fun e w' => e = .returned (.tuple #[.agg #[.int .i64 nn, .int .i64 nd], .int .i64 0]) ∧ Below w.heap.size w w')
    (hC : ∀ w, Calls Try.prog 11 #[.agg #[.int .i64 an, .int .i64 ad], .agg #[.int .i64 nn, .int .i64 nd]] w fun e w' => e = .returned (.int .i64 C) ∧ Below w.heap.size w w')
    (hc : ¬ 0 < C)
    (hG : ∀ w, Calls Try.prog 31 #[.int .i64 ad, .int .i64 bd] w fun e w' => e = .returned (.int .i64 g) ∧ Below w.heap.size w w')
    (hg : 1 ≤ g)
    (HE1 : Hid (IntKind.i64.wrap (ad.tdiv g) = p ∧ IntKind.i64.wrap (bd.tdiv g) = q))
    (hR1 : ∀ w, Calls Try.prog 34 #[.int .i64 an, .int .i64 q, .int .i64 g] w fun e w' => e = .returned (.int .i64 R1) ∧ Below w.heap.size w w')
    (hR2 : ∀ w, Calls Try.prog 34 #[.int .i64 bn, .int .i64 p, .int .i64 g] w fun e w' => e = .returned (.int .i64 R2) ∧ Below w.heap.size w w')
    (HE2 : Hid (IntKind.i64.wrap (R1 + R2) = S ∧ S.tmod g = T))
    (hH : ∀ w, Calls Try.prog 31 #[.int .i64 T, .int .i64 g] w fun e w' => e = .returned (.int .i64 h) ∧ Below w.heap.size w w')
    (hh : 1 ≤ h)
    (hO1 : ∀ w, Calls Try.prog 33 #[.int .i64 p, .int .i64 q] w fun e w' => e = .returned (.bool true) ∧ Below w.heap.size w w')
    : Calls Try.prog 14 #[.agg #[.int .i64 an, .int .i64 ad], .agg #[.int .i64 bn, .int .i64 bd]] w fun e w' => e = .returned (.tuple #[.agg #[.int .i64 0, .int .i64 0], .int .i64 10]) ∧ Below w.heap.size w w' := by
  have x0 : Fr (((w.alloc (.cells #[.int .i64 an, .int .i64 ad] 23)).alloc (.cells #[.int .i64 bn, .int .i64 bd] 23)).alloc (.cells #[.int .i64 0, .int .i64 0] 23)) w.heap.size an ad := ((Fr.new w an ad 23).tr (below1 _ (.cells #[.int .i64 bn, .int .i64 bd] 23))).tr (below1 _ (.cells #[.int .i64 0, .int .i64 0] 23))
  have y0 : Fr (((w.alloc (.cells #[.int .i64 an, .int .i64 ad] 23)).alloc (.cells #[.int .i64 bn, .int .i64 bd] 23)).alloc (.cells #[.int .i64 0, .int .i64 0] 23)) (w.heap.size + 1 + 1) 0 0 := by have := Fr.new ((w.alloc (.cells #[.int .i64 an, .int .i64 ad] 23)).alloc (.cells #[.int .i64 bn, .int .i64 bd] 23)) 0 0 23; simpa using this
  have z0 : Fr (((w.alloc (.cells #[.int .i64 an, .int .i64 ad] 23)).alloc (.cells #[.int .i64 bn, .int .i64 bd] 23)).alloc (.cells #[.int .i64 0, .int .i64 0] 23)) (w.heap.size + 1) bn bd := by have := (Fr.new (w.alloc (.cells #[.int .i64 an, .int .i64 ad] 23)) bn bd 23).tr (below1 _ (.cells #[.int .i64 0, .int .i64 0] 23)); simpa using this
  have hB0 : Below w.heap.size w (((w.alloc (.cells #[.int .i64 an, .int .i64 ad] 23)).alloc (.cells #[.int .i64 bn, .int .i64 bd] 23)).alloc (.cells #[.int .i64 0, .int .i64 0] 23)) := ((below1 _ _).alloc (by simp) _).alloc (by simp; omega) _
  go_enter Try.func14, Try.ntmps14
  go_wp2_with fail
  go_call (hA _) as e w1 ⟨rfl, hb1⟩
  have x1 := x0.tr hb1
  have y1 := y0.tr hb1
  have z1 := z0.tr hb1
  have hB1 := hB0.trans (hb1.mono hB0.size)
  obtain ⟨c0, c1, _, _⟩ := z0.tr hb1
  clear x0 y0 z0 hB0 hb1
  go_wp2_with fail
  go_call (hB _) as e w2 ⟨rfl, hb2⟩
  obtain ⟨c0, c1, _, _⟩ := z1.tr hb2
  have x2 := x1.tr hb2
  have y2 := y1.tr hb2
  have z2 := z1.tr hb2
  have hB2 := tr hB1 hb2
  clear x1 y1 z1 hb2 hB1
  go_wp2_with fail
  go_call (hN _) as e w3 ⟨rfl, hb3⟩
  have x3 := x2.tr hb3
  have y3 := y2.tr hb3
  have z3 := z2.tr hb3
  have hB3 := tr hB2 hb3
  have hl3 : w.heap.size + 1 + 1 < w3.heap.size := y3.lt
  obtain ⟨c0, c1, _, _⟩ := x3.tr (below1 w3 (.cells #[.int .i64 nn, .int .i64 nd] 23))
  clear x2 y2 z2 hb3 hB2
  go_wp2_with fail
  go_call (hC _) as e w4 ⟨rfl, hb4⟩
  have hb4' := (below1 w3 (.cells #[.int .i64 nn, .int .i64 nd] 23)).trans (hb4.mono (by simp))
  have x4 := x3.tr hb4'
  have y4 := y3.tr hb4'
  have z4 := z3.tr hb4'
  have hB4 := tr hB3 hb4'
  clear x3 y3 z3 hb4 hb4' hB3
  obtain ⟨a0, a1, _, _⟩ := id x4
  obtain ⟨b0, b1, _, _⟩ := id z4
  go_wp2_with fail
  go_call (hG _) as e w5 ⟨rfl, hb5⟩
  have x5 := x4.tr hb5
  have y5 := y4.tr hb5
  have z5 := z4.tr hb5
  have hB5 := tr hB4 hb5
  clear a0 a1 b0 b1 x4 y4 z4 hb5 hB4
  obtain ⟨a0, a1, _, _⟩ := id x5
  obtain ⟨b0, b1, _, _⟩ := id z5
  have zg : ¬ g = 0 := by omega
  obtain ⟨e1, e2⟩ := HE1.out
  go_wp2_with fail
  go_quiet (fail)
  clear e1 e2
  have hd := below_drewN (Below.refl w5.heap.size w5) nq
  have x6 := x5.tr hd
  have y6 := y5.tr hd
  have z6 := z5.tr hd
  have hB6 := tr hB5 hd
  obtain ⟨w6, hw6⟩ : ∃ x, w5.drewN nq = x := ⟨_, rfl⟩
  rw [hw6] at x6 y6 z6 hB6 ⊢
  clear a0 a1 b0 b1 x5 y5 z5 hd hB5 hw6
  obtain ⟨a0, a1, _, _⟩ := id x6
  obtain ⟨b0, b1, _, _⟩ := id z6
  obtain ⟨e1, e2⟩ := HE2.out
  go_wp2_with fail
  go_region_held3 (fun w' => w'.cell? ⟨w.heap.size, 0, none⟩ = some (.int .i64 an) ∧ w'.cell? ⟨w.heap.size, 1, none⟩ = some (.int .i64 ad) ∧ w'.cell? ⟨w.heap.size + 1, 0, none⟩ = some (.int .i64 bn) ∧ w'.cell? ⟨w.heap.size + 1, 1, none⟩ = some (.int .i64 bd) ∧ Below w6.heap.size w6 w')
    (first | exact ⟨a0, a1, b0, b1, (Below.refl _ _).drew⟩ | assumption | exact and5 (by assumption) hbk)
    (first | (go_at_call 34; (first | (with_reducible refine (hR1 _).mono ?_) | (with_reducible refine (hR2 _).mono ?_)); rintro e w' ⟨rfl, hbk⟩) | (go_at_call 31; (with_reducible refine (hH _).mono ?_); rintro e w' ⟨rfl, hbk⟩))
  rename_i hh7
  obtain ⟨w7, rfl⟩ : ∃ x : World, x = w' := ⟨_, rfl⟩
  obtain ⟨_, _, _, _, hd⟩ := hh7
  have x7 := x6.tr hd
  have y7 := y6.tr hd
  have z7 := z6.tr hd
  have hB7 := tr hB6 hd
  clear a0 a1 b0 b1 x6 y6 z6 hd hB6 e1 e2
  go_wp2_with fail
  go_call (hO1 _) as e w8 ⟨rfl, hb8⟩
  have x8 := x7.tr hb8
  have y8 := y7.tr hb8
  have z8 := z7.tr hb8
  have hB8 := tr hB7 hb8
  clear x7 y7 z7 hb8 hB7
  obtain ⟨g0, g1, f0, f1⟩ := y8
  go_wp2
  have r0 := put0 (.int .i64 0) g0
  have r1 := put1 (.int .i64 0) (.int .i64 0) g1
  refine bodyPost_ret (v := .tuple #[.agg #[.int .i64 0, .int .i64 0], .int .i64 10]) (by simp [results, Try.results14, go_sem, r0, r1]) rfl ⟨rfl, ?_⟩
  exact (hB8.setCell (p := ⟨w.heap.size + 1 + 1, 0, none⟩) (by simp; omega) _).setCell (p := ⟨w.heap.size + 1 + 1, 1, none⟩) (by simp; omega) _

set_option maxRecDepth 100000 in
set_option maxHeartbeats 8000000 in
theorem refEither_e10b (an ad bn bd nn nd C g p q R1 R2 S T h PQ G : Int) (w : World)
    (hA : ∀ w, Calls Try.prog 10 #[.agg #[.int .i64 an, .int .i64 ad]] w fun e w' => e = .returned (.bool true) ∧ Below w.heap.size w w')
    (hB : ∀ w, Calls Try.prog 10 #[.agg #[.int .i64 bn, .int .i64 bd]] w fun e w' => e = .returned (.bool true) ∧ Below w.heap.size w w')
    (hN : ∀ w, Calls Try.prog 13 #[.agg #[.int .i64 bn, .int .i64 bd]] w fun e w' => e = .returned (.tuple #[.agg #[.int .i64 nn, .int .i64 nd], .int .i64 0]) ∧ Below w.heap.size w w')
    (hC : ∀ w, Calls Try.prog 11 #[.agg #[.int .i64 an, .int .i64 ad], .agg #[.int .i64 nn, .int .i64 nd]] w fun e w' => e = .returned (.int .i64 C) ∧ Below w.heap.size w w')
    (hc : ¬ 0 < C)
    (hG : ∀ w, Calls Try.prog 31 #[.int .i64 ad, .int .i64 bd] w fun e w' => e = .returned (.int .i64 g) ∧ Below w.heap.size w w')
    (hg : 1 ≤ g)
    (HE1 : Hid (IntKind.i64.wrap (ad.tdiv g) = p ∧ IntKind.i64.wrap (bd.tdiv g) = q))
    (hR1 : ∀ w, Calls Try.prog 34 #[.int .i64 an, .int .i64 q, .int .i64 g] w fun e w' => e = .returned (.int .i64 R1) ∧ Below w.heap.size w w')
    (hR2 : ∀ w, Calls Try.prog 34 #[.int .i64 bn, .int .i64 p, .int .i64 g] w fun e w' => e = .returned (.int .i64 R2) ∧ Below w.heap.size w w')
    (HE2 : Hid (IntKind.i64.wrap (R1 + R2) = S ∧ S.tmod g = T))
    (hH : ∀ w, Calls Try.prog 31 #[.int .i64 T, .int .i64 g] w fun e w' => e = .returned (.int .i64 h) ∧ Below w.heap.size w w')
    (hh : 1 ≤ h)
    (hO1 : ∀ w, Calls Try.prog 33 #[.int .i64 p, .int .i64 q] w fun e w' => e = .returned (.bool false) ∧ Below w.heap.size w w')
    (HE3 : Hid (IntKind.i64.wrap (p * q) = PQ ∧ IntKind.i64.wrap (g.tdiv h) = G))
    (hO2 : ∀ w, Calls Try.prog 33 #[.int .i64 PQ, .int .i64 G] w fun e w' => e = .returned (.bool true) ∧ Below w.heap.size w w')
    : Calls Try.prog 14 #[.agg #[.int .i64 an, .int .i64 ad], .agg #[.int .i64 bn, .int .i64 bd]] w fun e w' => e = .returned (.tuple #[.agg #[.int .i64 0, .int .i64 0], .int .i64 10]) ∧ Below w.heap.size w w' := by
  have x0 : Fr (((w.alloc (.cells #[.int .i64 an, .int .i64 ad] 23)).alloc (.cells #[.int .i64 bn, .int .i64 bd] 23)).alloc (.cells #[.int .i64 0, .int .i64 0] 23)) w.heap.size an ad := ((Fr.new w an ad 23).tr (below1 _ (.cells #[.int .i64 bn, .int .i64 bd] 23))).tr (below1 _ (.cells #[.int .i64 0, .int .i64 0] 23))
  have y0 : Fr (((w.alloc (.cells #[.int .i64 an, .int .i64 ad] 23)).alloc (.cells #[.int .i64 bn, .int .i64 bd] 23)).alloc (.cells #[.int .i64 0, .int .i64 0] 23)) (w.heap.size + 1 + 1) 0 0 := by have := Fr.new ((w.alloc (.cells #[.int .i64 an, .int .i64 ad] 23)).alloc (.cells #[.int .i64 bn, .int .i64 bd] 23)) 0 0 23; simpa using this
  have z0 : Fr (((w.alloc (.cells #[.int .i64 an, .int .i64 ad] 23)).alloc (.cells #[.int .i64 bn, .int .i64 bd] 23)).alloc (.cells #[.int .i64 0, .int .i64 0] 23)) (w.heap.size + 1) bn bd := by have := (Fr.new (w.alloc (.cells #[.int .i64 an, .int .i64 ad] 23)) bn bd 23).tr (below1 _ (.cells #[.int .i64 0, .int .i64 0] 23)); simpa using this
  have hB0 : Below w.heap.size w (((w.alloc (.cells #[.int .i64 an, .int .i64 ad] 23)).alloc (.cells #[.int .i64 bn, .int .i64 bd] 23)).alloc (.cells #[.int .i64 0, .int .i64 0] 23)) := ((below1 _ _).alloc (by simp) _).alloc (by simp; omega) _
  go_enter Try.func14, Try.ntmps14
  go_wp2_with fail
  go_call (hA _) as e w1 ⟨rfl, hb1⟩
  have x1 := x0.tr hb1
  have y1 := y0.tr hb1
  have z1 := z0.tr hb1
  have hB1 := hB0.trans (hb1.mono hB0.size)
  obtain ⟨c0, c1, _, _⟩ := z0.tr hb1
  clear x0 y0 z0 hB0 hb1
  go_wp2_with fail
  go_call (hB _) as e w2 ⟨rfl, hb2⟩
  obtain ⟨c0, c1, _, _⟩ := z1.tr hb2
  have x2 := x1.tr hb2
  have y2 := y1.tr hb2
  have z2 := z1.tr hb2
  have hB2 := tr hB1 hb2
  clear x1 y1 z1 hb2 hB1
  go_wp2_with fail
  go_call (hN _) as e w3 ⟨rfl, hb3⟩
  have x3 := x2.tr hb3
  have y3 := y2.tr hb3
  have z3 := z2.tr hb3
  have hB3 := tr hB2 hb3
  have hl3 : w.heap.size + 1 + 1 < w3.heap.size := y3.lt
  obtain ⟨c0, c1, _, _⟩ := x3.tr (below1 w3 (.cells #[.int .i64 nn, .int .i64 nd] 23))
  clear x2 y2 z2 hb3 hB2
  go_wp2_with fail
  go_call (hC _) as e w4 ⟨rfl, hb4⟩
  have hb4' := (below1 w3 (.cells #[.int .i64 nn, .int .i64 nd] 23)).trans (hb4.mono (by simp))
  have x4 := x3.tr hb4'
  have y4 := y3.tr hb4'
  have z4 := z3.tr hb4'
  have hB4 := tr hB3 hb4'
  clear x3 y3 z3 hb4 hb4' hB3
  obtain ⟨a0, a1, _, _⟩ := id x4
  obtain ⟨b0, b1, _, _⟩ := id z4
  go_wp2_with fail
  go_call (hG _) as e w5 ⟨rfl, hb5⟩
  have x5 := x4.tr hb5
  have y5 := y4.tr hb5
  have z5 := z4.tr hb5
  have hB5 := tr hB4 hb5
  clear a0 a1 b0 b1 x4 y4 z4 hb5 hB4
  obtain ⟨a0, a1, _, _⟩ := id x5
  obtain ⟨b0, b1, _, _⟩ := id z5
  have zg : ¬ g = 0 := by omega
  obtain ⟨e1, e2⟩ := HE1.out
  go_wp2_with fail
  go_quiet (fail)
  clear e1 e2
  have hd := below_drewN (Below.refl w5.heap.size w5) nq
  have x6 := x5.tr hd
  have y6 := y5.tr hd
  have z6 := z5.tr hd
  have hB6 := tr hB5 hd
  obtain ⟨w6, hw6⟩ : ∃ x, w5.drewN nq = x := ⟨_, rfl⟩
  rw [hw6] at x6 y6 z6 hB6 ⊢
  clear a0 a1 b0 b1 x5 y5 z5 hd hB5 hw6
  obtain ⟨a0, a1, _, _⟩ := id x6
  obtain ⟨b0, b1, _, _⟩ := id z6
  obtain ⟨e1, e2⟩ := HE2.out
  go_wp2_with fail
  go_region_held3 (fun w' => w'.cell? ⟨w.heap.size, 0, none⟩ = some (.int .i64 an) ∧ w'.cell? ⟨w.heap.size, 1, none⟩ = some (.int .i64 ad) ∧ w'.cell? ⟨w.heap.size + 1, 0, none⟩ = some (.int .i64 bn) ∧ w'.cell? ⟨w.heap.size + 1, 1, none⟩ = some (.int .i64 bd) ∧ Below w6.heap.size w6 w')
    (first | exact ⟨a0, a1, b0, b1, (Below.refl _ _).drew⟩ | assumption | exact and5 (by assumption) hbk)
    (first | (go_at_call 34; (first | (with_reducible refine (hR1 _).mono ?_) | (with_reducible refine (hR2 _).mono ?_)); rintro e w' ⟨rfl, hbk⟩) | (go_at_call 31; (with_reducible refine (hH _).mono ?_); rintro e w' ⟨rfl, hbk⟩))
  rename_i hh7
  obtain ⟨w7, rfl⟩ : ∃ x : World, x = w' := ⟨_, rfl⟩
  obtain ⟨_, _, _, _, hd⟩ := hh7
  have x7 := x6.tr hd
  have y7 := y6.tr hd
  have z7 := z6.tr hd
  have hB7 := tr hB6 hd
  clear a0 a1 b0 b1 x6 y6 z6 hd hB6 e1 e2
  go_wp2_with fail
  go_call (hO1 _) as e w8 ⟨rfl, hb8⟩
  have x8 := x7.tr hb8
  have y8 := y7.tr hb8
  have z8 := z7.tr hb8
  have hB8 := tr hB7 hb8
  clear x7 y7 z7 hb8 hB7
  obtain ⟨e1, e2⟩ := HE3.out
  have zh : ¬ h = 0 := by omega
  go_wp2_with fail
  go_call (hO2 _) as e w9 ⟨rfl, hb9⟩
  have x9 := x8.tr hb9
  have y9 := y8.tr hb9
  have z9 := z8.tr hb9
  have hB9 := tr hB8 hb9
  clear x8 y8 z8 hb9 hB8
  clear e1 e2
  obtain ⟨g0, g1, f0, f1⟩ := y9
  go_wp2
  have r0 := put0 (.int .i64 0) g0
  have r1 := put1 (.int .i64 0) (.int .i64 0) g1
  refine bodyPost_ret (v := .tuple #[.agg #[.int .i64 0, .int .i64 0], .int .i64 10]) (by simp [results, Try.results14, go_sem, r0, r1]) rfl ⟨rfl, ?_⟩
  exact (hB9.setCell (p := ⟨w.heap.size + 1 + 1, 0, none⟩) (by simp; omega) _).setCell (p := ⟨w.heap.size + 1 + 1, 1, none⟩) (by simp; omega) _

set_option maxRecDepth 100000 in
set_option maxHeartbeats 8000000 in
theorem refEither_e0 (an ad bn bd nn nd C g p q R1 R2 S T h PQ G D n r m s z nm N : Int) (w : World)
    (hA : ∀ w, Calls Try.prog 10 #[.agg #[.int .i64 an, .int .i64 ad]] w fun e w' => e = .returned (.bool true) ∧ Below w.heap.size w w')
    (hB : ∀ w, Calls Try.prog 10 #[.agg #[.int .i64 bn, .int .i64 bd]] w fun e w' => e = .returned (.bool true) ∧ Below w.heap.size w w')
    (hN : ∀ w, Calls Try.prog 13 #[.agg #[.int .i64 bn, .int .i64 bd]] w fun e w' => e = .returned (.tuple #[.agg #[.int .i64 nn, .int .i64 nd], .int .i64 0]) ∧ Below w.heap.size w w')
    (hC : ∀ w, Calls Try.prog 11 #[.agg #[.int .i64 an, .int .i64 ad], .agg #[.int .i64 nn, .int .i64 nd]] w fun e w' => e = .returned (.int .i64 C) ∧ Below w.heap.size w w')
    (hc : ¬ 0 < C)
    (hG : ∀ w, Calls Try.prog 31 #[.int .i64 ad, .int .i64 bd] w fun e w' => e = .returned (.int .i64 g) ∧ Below w.heap.size w w')
    (hg : 1 ≤ g)
    (HE1 : Hid (IntKind.i64.wrap (ad.tdiv g) = p ∧ IntKind.i64.wrap (bd.tdiv g) = q))
    (hR1 : ∀ w, Calls Try.prog 34 #[.int .i64 an, .int .i64 q, .int .i64 g] w fun e w' => e = .returned (.int .i64 R1) ∧ Below w.heap.size w w')
    (hR2 : ∀ w, Calls Try.prog 34 #[.int .i64 bn, .int .i64 p, .int .i64 g] w fun e w' => e = .returned (.int .i64 R2) ∧ Below w.heap.size w w')
    (HE2 : Hid (IntKind.i64.wrap (R1 + R2) = S ∧ S.tmod g = T))
    (hH : ∀ w, Calls Try.prog 31 #[.int .i64 T, .int .i64 g] w fun e w' => e = .returned (.int .i64 h) ∧ Below w.heap.size w w')
    (hh : 1 ≤ h)
    (hO1 : ∀ w, Calls Try.prog 33 #[.int .i64 p, .int .i64 q] w fun e w' => e = .returned (.bool false) ∧ Below w.heap.size w w')
    (HE3 : Hid (IntKind.i64.wrap (p * q) = PQ ∧ IntKind.i64.wrap (g.tdiv h) = G))
    (hO2 : ∀ w, Calls Try.prog 33 #[.int .i64 PQ, .int .i64 G] w fun e w' => e = .returned (.bool false) ∧ Below w.heap.size w w')
    (HE4 : Hid (IntKind.i64.wrap (PQ * G) = D))
    (hX : ∀ w, Calls Try.prog 32 #[.int .i64 an, .int .i64 D, .int .i64 ad] w fun e w' => e = .returned (.tuple #[.int .i64 n, .int .i64 r]) ∧ Below w.heap.size w w')
    (hY : ∀ w, Calls Try.prog 32 #[.int .i64 bn, .int .i64 D, .int .i64 bd] w fun e w' => e = .returned (.tuple #[.int .i64 m, .int .i64 s]) ∧ Below w.heap.size w w')
    (hZ : ∀ w, Calls Try.prog 35 #[.agg #[.int .i64 an, .int .i64 ad], .agg #[.int .i64 bn, .int .i64 bd], .int .i64 D] w fun e w' => e = .returned (.int .i64 z) ∧ Below w.heap.size w w')
    (HE5 : Hid (IntKind.i64.wrap (n + m) = nm ∧ IntKind.i64.wrap (nm + z) = N))
    : Calls Try.prog 14 #[.agg #[.int .i64 an, .int .i64 ad], .agg #[.int .i64 bn, .int .i64 bd]] w fun e w' => e = .returned (.tuple #[.agg #[.int .i64 N, .int .i64 D], .int .i64 0]) ∧ Below w.heap.size w w' := by
  have x0 : Fr (((w.alloc (.cells #[.int .i64 an, .int .i64 ad] 23)).alloc (.cells #[.int .i64 bn, .int .i64 bd] 23)).alloc (.cells #[.int .i64 0, .int .i64 0] 23)) w.heap.size an ad := ((Fr.new w an ad 23).tr (below1 _ (.cells #[.int .i64 bn, .int .i64 bd] 23))).tr (below1 _ (.cells #[.int .i64 0, .int .i64 0] 23))
  have y0 : Fr (((w.alloc (.cells #[.int .i64 an, .int .i64 ad] 23)).alloc (.cells #[.int .i64 bn, .int .i64 bd] 23)).alloc (.cells #[.int .i64 0, .int .i64 0] 23)) (w.heap.size + 1 + 1) 0 0 := by have := Fr.new ((w.alloc (.cells #[.int .i64 an, .int .i64 ad] 23)).alloc (.cells #[.int .i64 bn, .int .i64 bd] 23)) 0 0 23; simpa using this
  have z0 : Fr (((w.alloc (.cells #[.int .i64 an, .int .i64 ad] 23)).alloc (.cells #[.int .i64 bn, .int .i64 bd] 23)).alloc (.cells #[.int .i64 0, .int .i64 0] 23)) (w.heap.size + 1) bn bd := by have := (Fr.new (w.alloc (.cells #[.int .i64 an, .int .i64 ad] 23)) bn bd 23).tr (below1 _ (.cells #[.int .i64 0, .int .i64 0] 23)); simpa using this
  have hB0 : Below w.heap.size w (((w.alloc (.cells #[.int .i64 an, .int .i64 ad] 23)).alloc (.cells #[.int .i64 bn, .int .i64 bd] 23)).alloc (.cells #[.int .i64 0, .int .i64 0] 23)) := ((below1 _ _).alloc (by simp) _).alloc (by simp; omega) _
  go_enter Try.func14, Try.ntmps14
  go_wp2_with fail
  go_call (hA _) as e w1 ⟨rfl, hb1⟩
  have x1 := x0.tr hb1
  have y1 := y0.tr hb1
  have z1 := z0.tr hb1
  have hB1 := hB0.trans (hb1.mono hB0.size)
  obtain ⟨c0, c1, _, _⟩ := z0.tr hb1
  clear x0 y0 z0 hB0 hb1
  go_wp2_with fail
  go_call (hB _) as e w2 ⟨rfl, hb2⟩
  obtain ⟨c0, c1, _, _⟩ := z1.tr hb2
  have x2 := x1.tr hb2
  have y2 := y1.tr hb2
  have z2 := z1.tr hb2
  have hB2 := tr hB1 hb2
  clear x1 y1 z1 hb2 hB1
  go_wp2_with fail
  go_call (hN _) as e w3 ⟨rfl, hb3⟩
  have x3 := x2.tr hb3
  have y3 := y2.tr hb3
  have z3 := z2.tr hb3
  have hB3 := tr hB2 hb3
  have hl3 : w.heap.size + 1 + 1 < w3.heap.size := y3.lt
  obtain ⟨c0, c1, _, _⟩ := x3.tr (below1 w3 (.cells #[.int .i64 nn, .int .i64 nd] 23))
  clear x2 y2 z2 hb3 hB2
  go_wp2_with fail
  go_call (hC _) as e w4 ⟨rfl, hb4⟩
  have hb4' := (below1 w3 (.cells #[.int .i64 nn, .int .i64 nd] 23)).trans (hb4.mono (by simp))
  have x4 := x3.tr hb4'
  have y4 := y3.tr hb4'
  have z4 := z3.tr hb4'
  have hB4 := tr hB3 hb4'
  clear x3 y3 z3 hb4 hb4' hB3
  obtain ⟨a0, a1, _, _⟩ := id x4
  obtain ⟨b0, b1, _, _⟩ := id z4
  go_wp2_with fail
  go_call (hG _) as e w5 ⟨rfl, hb5⟩
  have x5 := x4.tr hb5
  have y5 := y4.tr hb5
  have z5 := z4.tr hb5
  have hB5 := tr hB4 hb5
  clear a0 a1 b0 b1 x4 y4 z4 hb5 hB4
  obtain ⟨a0, a1, _, _⟩ := id x5
  obtain ⟨b0, b1, _, _⟩ := id z5
  have zg : ¬ g = 0 := by omega
  obtain ⟨e1, e2⟩ := HE1.out
  go_wp2_with fail
  go_quiet (fail)
  clear e1 e2
  have hd := below_drewN (Below.refl w5.heap.size w5) nq
  have x6 := x5.tr hd
  have y6 := y5.tr hd
  have z6 := z5.tr hd
  have hB6 := tr hB5 hd
  obtain ⟨w6, hw6⟩ : ∃ x, w5.drewN nq = x := ⟨_, rfl⟩
  rw [hw6] at x6 y6 z6 hB6 ⊢
  clear a0 a1 b0 b1 x5 y5 z5 hd hB5 hw6
  obtain ⟨a0, a1, _, _⟩ := id x6
  obtain ⟨b0, b1, _, _⟩ := id z6
  obtain ⟨e1, e2⟩ := HE2.out
  go_wp2_with fail
  go_region_held3 (fun w' => w'.cell? ⟨w.heap.size, 0, none⟩ = some (.int .i64 an) ∧ w'.cell? ⟨w.heap.size, 1, none⟩ = some (.int .i64 ad) ∧ w'.cell? ⟨w.heap.size + 1, 0, none⟩ = some (.int .i64 bn) ∧ w'.cell? ⟨w.heap.size + 1, 1, none⟩ = some (.int .i64 bd) ∧ Below w6.heap.size w6 w')
    (first | exact ⟨a0, a1, b0, b1, (Below.refl _ _).drew⟩ | assumption | exact and5 (by assumption) hbk)
    (first | (go_at_call 34; (first | (with_reducible refine (hR1 _).mono ?_) | (with_reducible refine (hR2 _).mono ?_)); rintro e w' ⟨rfl, hbk⟩) | (go_at_call 31; (with_reducible refine (hH _).mono ?_); rintro e w' ⟨rfl, hbk⟩))
  rename_i hh7
  obtain ⟨w7, rfl⟩ : ∃ x : World, x = w' := ⟨_, rfl⟩
  obtain ⟨_, _, _, _, hd⟩ := hh7
  have x7 := x6.tr hd
  have y7 := y6.tr hd
  have z7 := z6.tr hd
  have hB7 := tr hB6 hd
  clear a0 a1 b0 b1 x6 y6 z6 hd hB6 e1 e2
  go_wp2_with fail
  go_call (hO1 _) as e w8 ⟨rfl, hb8⟩
  have x8 := x7.tr hb8
  have y8 := y7.tr hb8
  have z8 := z7.tr hb8
  have hB8 := tr hB7 hb8
  clear x7 y7 z7 hb8 hB7
  obtain ⟨e1, e2⟩ := HE3.out
  have zh : ¬ h = 0 := by omega
  go_wp2_with fail
  go_call (hO2 _) as e w9 ⟨rfl, hb9⟩
  have x9 := x8.tr hb9
  have y9 := y8.tr hb9
  have z9 := z8.tr hb9
  have hB9 := tr hB8 hb9
  clear x8 y8 z8 hb9 hB8
  have e3 := HE4.out
  obtain ⟨a0, a1, _, _⟩ := id x9
  obtain ⟨b0, b1, _, _⟩ := id z9
  go_wp2_with fail
  go_call (hX _) as e w10 ⟨rfl, hb10⟩
  have x10 := x9.tr hb10
  have y10 := y9.tr hb10
  have z10 := z9.tr hb10
  have hB10 := tr hB9 hb10
  clear a0 a1 b0 b1 x9 y9 z9 hb10 hB9 e1 e2 e3
  obtain ⟨a0, a1, _, _⟩ := id x10
  obtain ⟨b0, b1, _, _⟩ := id z10
  go_wp2_with fail
  go_call (hY _) as e w11 ⟨rfl, hb11⟩
  have x11 := x10.tr hb11
  have y11 := y10.tr hb11
  have z11 := z10.tr hb11
  have hB11 := tr hB10 hb11
  clear a0 a1 b0 b1 x10 y10 z10 hb11 hB10
  obtain ⟨a0, a1, _, _⟩ := id x11
  obtain ⟨b0, b1, _, _⟩ := id z11
  obtain ⟨e1, e2⟩ := HE5.out
  go_wp2_with fail
  go_call (hZ _) as e w12 ⟨rfl, hb12⟩
  have y12 := y11.tr hb12
  have hB12 := tr hB11 hb12
  clear a0 a1 b0 b1 x11 y11 z11 hb12 hB11
  obtain ⟨g0, g1, f0, f1⟩ := y12
  go_wp2
  have r0 := put0 (.int .i64 N) g0
  have r1 := put1 (.int .i64 N) (.int .i64 D) g1
  refine bodyPost_ret (v := .tuple #[.agg #[.int .i64 N, .int .i64 D], .int .i64 0]) (by simp [results, Try.results14, go_sem, r0, r1]) rfl ⟨rfl, ?_⟩
  exact (hB12.setCell (p := ⟨w.heap.size + 1 + 1, 0, none⟩) (by simp; omega) _).setCell (p := ⟨w.heap.size + 1 + 1, 1, none⟩) (by simp; omega) _

end Go.Proofs.Ytnpnnfbmnlgioaa
