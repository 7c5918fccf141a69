/-
  The circle of houses: enter, with one house named.
-/
import Derived.Test.YtdnccdobnhbpeaaDoorHoJ3
import Derived.Deep.QuietTactic
import Derived.BigQuiet
namespace Go.Proofs.YtdnccdobnhbpeaaDoor
open Go Go.RowKit Go.Maps Go.ChangeShapes
set_option linter.unusedVariables false

set_option maxRecDepth 100000 in
set_option maxHeartbeats 8000000 in
theorem enter_ok (s0 s1 s2 s3 s4 s5 s6 s7 s8 s9 s10 s11 n : Int) (HC : Hid (chkF [s0, s1, s2, s3, s4, s5, s6, s7, s8, s9, s10, s11] = 0)) (HN : Hid (chkH [n] = 0)) (p : Option Addr) (c : Nat) (w : World) (hR : Reads w p [n]) :
    Calls Tryd.prog 33 #[.agg #[.int .i64 s0, .int .i64 s1, .int .i64 s2, .int .i64 s3, .int .i64 s4, .int .i64 s5, .int .i64 s6, .int .i64 s7, .int .i64 s8, .int .i64 s9, .int .i64 s10, .int .i64 s11], .slice p 1 c] w fun e w' => ∃ (base mb : Nat) (D : DataW Unit), e = .returned (.tuple #[.agg #[.int .i64 s0, .int .i64 s1, .int .i64 s2, .int .i64 s3, .int .i64 s4, .int .i64 s5, .int .i64 s6, .int .i64 s7, .int .i64 s8, .int .i64 s9, .int .i64 s10, .int .i64 s11, .map (some mb)], .int .i64 0]) ∧ w.heap.size ≤ mb ∧ w'.ownsGroups Tryd.prog 22 base 3 .i64 mb 12 D ∧ (∀ f : Int, D.atKey (.int .i64 f) .nil = stD [s0, s1, s2, s3, s4, s5, s6, s7, s8, s9, s10, s11] f 12) ∧ Below w.heap.size w w' := by
  have HFIG := Lib.hid (fun j (hj : j < 12) => chkF_zero HC.out j hj)
  have hB0 : Below w.heap.size w ((w.alloc (.cells #[.int .i64 s0, .int .i64 s1, .int .i64 s2, .int .i64 s3, .int .i64 s4, .int .i64 s5, .int .i64 s6, .int .i64 s7, .int .i64 s8, .int .i64 s9, .int .i64 s10, .int .i64 s11] 24)).alloc (.cells #[.int .i64 0, .int .i64 0, .int .i64 0, .int .i64 0, .int .i64 0, .int .i64 0, .int .i64 0, .int .i64 0, .int .i64 0, .int .i64 0, .int .i64 0, .int .i64 0, .map none] 84)) := ((Below.refl _ _).alloc (Nat.le_refl _) _).alloc (by simp) _
  have HZ := Lib.hid (show Blk ((w.alloc (.cells #[.int .i64 s0, .int .i64 s1, .int .i64 s2, .int .i64 s3, .int .i64 s4, .int .i64 s5, .int .i64 s6, .int .i64 s7, .int .i64 s8, .int .i64 s9, .int .i64 s10, .int .i64 s11] 24)).alloc (.cells #[.int .i64 0, .int .i64 0, .int .i64 0, .int .i64 0, .int .i64 0, .int .i64 0, .int .i64 0, .int .i64 0, .int .i64 0, .int .i64 0, .int .i64 0, .int .i64 0, .map none] 84)) (w.heap.size + 1) 84 #[.int .i64 0, .int .i64 0, .int .i64 0, .int .i64 0, .int .i64 0, .int .i64 0, .int .i64 0, .int .i64 0, .int .i64 0, .int .i64 0, .int .i64 0, .int .i64 0, .map none] from blk_newN _ _ (by simp))
  have HX := Lib.hid (show Blk ((w.alloc (.cells #[.int .i64 s0, .int .i64 s1, .int .i64 s2, .int .i64 s3, .int .i64 s4, .int .i64 s5, .int .i64 s6, .int .i64 s7, .int .i64 s8, .int .i64 s9, .int .i64 s10, .int .i64 s11] 24)).alloc (.cells #[.int .i64 0, .int .i64 0, .int .i64 0, .int .i64 0, .int .i64 0, .int .i64 0, .int .i64 0, .int .i64 0, .int .i64 0, .int .i64 0, .int .i64 0, .int .i64 0, .map none] 84)) w.heap.size 24 #[.int .i64 s0, .int .i64 s1, .int .i64 s2, .int .i64 s3, .int .i64 s4, .int .i64 s5, .int .i64 s6, .int .i64 s7, .int .i64 s8, .int .i64 s9, .int .i64 s10, .int .i64 s11] from Blk.alloc (blk_newN _ _ rfl) _)
  go_enter Tryd.func33, Tryd.ntmps33
  go_wp2_with fail
  refine (checkHs_any [s0, s1, s2, s3, s4, s5, s6, s7, s8, s9, s10, s11] (Lib.hid rfl) _).mono ?_
  rintro e w1 ⟨rfl, hb1⟩
  rw [HC.out]
  have hB1 := tr hB0 hb1
  have HZ1 := Lib.hid (HZ.out.below hb1 HZ.out.lt)
  have HX1 := Lib.hid (HX.out.below hb1 HX.out.lt)
  have hR1 := hR.below hB1 (Nat.le_refl _)
  clear hb1 hB0 HZ HX
  go_wp2_with fail
  refine (checkH_any p [n] c _ (by simp) hR1).mono ?_
  rintro e w2 ⟨rfl, hb2⟩
  rw [HN.out]
  have hB2 := tr hB1 hb2
  have HZ2 := Lib.hid (HZ1.out.below hb2 HZ1.out.lt)
  have HX2 := Lib.hid (HX1.out.below hb2 HX1.out.lt)
  clear hb2 hB1 HZ1 HX1 hR1
  go_wp2
  go_quiet (fail)
  have hB3 := below_drewN hB2 nq
  have HZ3 := Lib.hid (show Blk (w2.drewN nq) (w.heap.size + 1) 84 #[.int .i64 0, .int .i64 0, .int .i64 0, .int .i64 0, .int .i64 0, .int .i64 0, .int .i64 0, .int .i64 0, .int .i64 0, .int .i64 0, .int .i64 0, .int .i64 0, .map none] from HZ2.out)
  have hX3 : Blk (w2.drewN nq) w.heap.size 24 #[.int .i64 s0, .int .i64 s1, .int .i64 s2, .int .i64 s3, .int .i64 s4, .int .i64 s5, .int .i64 s6, .int .i64 s7, .int .i64 s8, .int .i64 s9, .int .i64 s10, .int .i64 s11] := HX2.out
  obtain ⟨V, hV⟩ : ∃ V, w2.drewN nq = V := ⟨_, rfl⟩
  rw [hV] at hB3 HZ3 hX3 ⊢
  clear hV hB2 HZ2 HX2
  have c0 : V.cell? ⟨w.heap.size, 0, none⟩ = some (.int .i64 s0) := hX3.cell 0
  have c1 : V.cell? ⟨w.heap.size, 1, none⟩ = some (.int .i64 s1) := hX3.cell 1
  have c2 : V.cell? ⟨w.heap.size, 2, none⟩ = some (.int .i64 s2) := hX3.cell 2
  have c3 : V.cell? ⟨w.heap.size, 3, none⟩ = some (.int .i64 s3) := hX3.cell 3
  have c4 : V.cell? ⟨w.heap.size, 4, none⟩ = some (.int .i64 s4) := hX3.cell 4
  have c5 : V.cell? ⟨w.heap.size, 5, none⟩ = some (.int .i64 s5) := hX3.cell 5
  have c6 : V.cell? ⟨w.heap.size, 6, none⟩ = some (.int .i64 s6) := hX3.cell 6
  have c7 : V.cell? ⟨w.heap.size, 7, none⟩ = some (.int .i64 s7) := hX3.cell 7
  have c8 : V.cell? ⟨w.heap.size, 8, none⟩ = some (.int .i64 s8) := hX3.cell 8
  have c9 : V.cell? ⟨w.heap.size, 9, none⟩ = some (.int .i64 s9) := hX3.cell 9
  have c10 : V.cell? ⟨w.heap.size, 10, none⟩ = some (.int .i64 s10) := hX3.cell 10
  have c11 : V.cell? ⟨w.heap.size, 11, none⟩ = some (.int .i64 s11) := hX3.cell 11
  go_wp2_with fail
  refine (joined_any s0 s1 s2 s3 s4 s5 s6 s7 s8 s9 s10 s11 HFIG _).mono ?_
  rintro e w4 ⟨base, mb, D, rfl, hmb, hog, hat, hb4⟩
  have HZ4 := HZ3.out.below hb4 HZ3.out.lt
  have hB4 := tr hB3 hb4
  have HI13 := Lib.hid (show (Tryd.prog.info? 84).map (·.size) = some (#[.int .i64 s0, .int .i64 s1, .int .i64 s2, .int .i64 s3, .int .i64 s4, .int .i64 s5, .int .i64 s6, .int .i64 s7, .int .i64 s8, .int .i64 s9, .int .i64 s10, .int .i64 s11, .map (some mb)] : Array Value).size from info_circle)
  have hmw : w.heap.size ≤ mb := Nat.le_trans hB3.size hmb
  have hzl := HZ3.out.lt
  clear c0 c1 c2 c3 c4 c5 c6 c7 c8 c9 c10 c11
  go_wp2_with (first
    | (refine wpList_store_row rfl 84 (.tmp 4) (.tmp 34) rfl (w.heap.size + 1) #[.int .i64 s0, .int .i64 s1, .int .i64 s2, .int .i64 s3, .int .i64 s4, .int .i64 s5, .int .i64 s6, .int .i64 s7, .int .i64 s8, .int .i64 s9, .int .i64 s10, .int .i64 s11, .map (some mb)] rfl rfl 84 _ HZ4 HI13.out rfl (by simp [Value.oneCell']) ?_) | fail)
  have hbb : mb < base := by
    obtain ⟨es, ck, g1, g2, g3, g4, g5, g6, g7⟩ := hog
    exact g5
  exact bodyPost_ret (v := .tuple #[.agg #[.int .i64 s0, .int .i64 s1, .int .i64 s2, .int .i64 s3, .int .i64 s4, .int .i64 s5, .int .i64 s6, .int .i64 s7, .int .i64 s8, .int .i64 s9, .int .i64 s10, .int .i64 s11, .map (some mb)], .int .i64 0]) (results_cell_slot Tryd.results33 _ _ (w.heap.size + 1) 84 _ (0, 0) _ rfl (HZ4.row _) Tryd.underlying84 rfl HI13.out _ rfl) rfl ⟨base, mb, D, rfl, hmw, groups_kept hog (row := some (w.heap.size + 1)) ⟨rfl, rfl, rfl, by simp [World.setRow], fun j hj hne => setRow_other w4 (w.heap.size + 1) j _ (fun e => hne (by rw [e]))⟩ (fun r e => by cases e; omega), hat, below_setRow hB4 (by omega) _⟩

set_option maxRecDepth 100000 in
set_option maxHeartbeats 8000000 in
theorem enter_bad1 (s0 s1 s2 s3 s4 s5 s6 s7 s8 s9 s10 s11 n : Int) (HC : Hid (chkF [s0, s1, s2, s3, s4, s5, s6, s7, s8, s9, s10, s11] = 2)) (p : Option Addr) (c : Nat) (w : World) (hR : Reads w p [n]) :
    Calls Tryd.prog 33 #[.agg #[.int .i64 s0, .int .i64 s1, .int .i64 s2, .int .i64 s3, .int .i64 s4, .int .i64 s5, .int .i64 s6, .int .i64 s7, .int .i64 s8, .int .i64 s9, .int .i64 s10, .int .i64 s11], .slice p 1 c] w fun e w' => e = .returned (.tuple #[.agg #[.int .i64 0, .int .i64 0, .int .i64 0, .int .i64 0, .int .i64 0, .int .i64 0, .int .i64 0, .int .i64 0, .int .i64 0, .int .i64 0, .int .i64 0, .int .i64 0, .map none], .int .i64 2]) ∧ Below w.heap.size w w' := by
  have hB0 : Below w.heap.size w ((w.alloc (.cells #[.int .i64 s0, .int .i64 s1, .int .i64 s2, .int .i64 s3, .int .i64 s4, .int .i64 s5, .int .i64 s6, .int .i64 s7, .int .i64 s8, .int .i64 s9, .int .i64 s10, .int .i64 s11] 24)).alloc (.cells #[.int .i64 0, .int .i64 0, .int .i64 0, .int .i64 0, .int .i64 0, .int .i64 0, .int .i64 0, .int .i64 0, .int .i64 0, .int .i64 0, .int .i64 0, .int .i64 0, .map none] 84)) := ((Below.refl _ _).alloc (Nat.le_refl _) _).alloc (by simp) _
  have HZ := Lib.hid (show Blk ((w.alloc (.cells #[.int .i64 s0, .int .i64 s1, .int .i64 s2, .int .i64 s3, .int .i64 s4, .int .i64 s5, .int .i64 s6, .int .i64 s7, .int .i64 s8, .int .i64 s9, .int .i64 s10, .int .i64 s11] 24)).alloc (.cells #[.int .i64 0, .int .i64 0, .int .i64 0, .int .i64 0, .int .i64 0, .int .i64 0, .int .i64 0, .int .i64 0, .int .i64 0, .int .i64 0, .int .i64 0, .int .i64 0, .map none] 84)) (w.heap.size + 1) 84 #[.int .i64 0, .int .i64 0, .int .i64 0, .int .i64 0, .int .i64 0, .int .i64 0, .int .i64 0, .int .i64 0, .int .i64 0, .int .i64 0, .int .i64 0, .int .i64 0, .map none] from blk_newN _ _ (by simp))
  have HI13 := Lib.hid (show (Tryd.prog.info? 84).map (·.size) = some (#[.int .i64 0, .int .i64 0, .int .i64 0, .int .i64 0, .int .i64 0, .int .i64 0, .int .i64 0, .int .i64 0, .int .i64 0, .int .i64 0, .int .i64 0, .int .i64 0, .map none] : Array Value).size from info_circle)
  go_enter Tryd.func33, Tryd.ntmps33
  go_wp2_with fail
  refine (checkHs_any [s0, s1, s2, s3, s4, s5, s6, s7, s8, s9, s10, s11] (Lib.hid rfl) _).mono ?_
  rintro e w1 ⟨rfl, hb1⟩
  rw [HC.out]
  have hB1 := tr hB0 hb1
  have HZ1 := Lib.hid (HZ.out.below hb1 HZ.out.lt)
  have hR1 := hR.below hB1 (Nat.le_refl _)
  clear hb1 hB0 HZ
  clear hR1
  go_wp2_with (first
    | (refine wpList_store_row rfl 84 (.tmp 4) (.tmp 12) rfl (w.heap.size + 1) #[.int .i64 0, .int .i64 0, .int .i64 0, .int .i64 0, .int .i64 0, .int .i64 0, .int .i64 0, .int .i64 0, .int .i64 0, .int .i64 0, .int .i64 0, .int .i64 0, .map none] rfl rfl 84 _ HZ1.out HI13.out rfl (by simp [Value.oneCell']) ?_) | fail)
  exact bodyPost_ret (v := .tuple #[.agg #[.int .i64 0, .int .i64 0, .int .i64 0, .int .i64 0, .int .i64 0, .int .i64 0, .int .i64 0, .int .i64 0, .int .i64 0, .int .i64 0, .int .i64 0, .int .i64 0, .map none], .int .i64 2]) (results_cell_slot Tryd.results33 _ _ (w.heap.size + 1) 84 _ (0, 0) _ rfl (HZ1.out.row _) Tryd.underlying84 rfl HI13.out _ rfl) rfl ⟨rfl, below_setRow hB1 (by omega) _⟩

set_option maxRecDepth 100000 in
set_option maxHeartbeats 8000000 in
theorem enter_bad2 (s0 s1 s2 s3 s4 s5 s6 s7 s8 s9 s10 s11 n : Int) (HC : Hid (chkF [s0, s1, s2, s3, s4, s5, s6, s7, s8, s9, s10, s11] = 0)) (HN : Hid (chkH [n] = 3)) (p : Option Addr) (c : Nat) (w : World) (hR : Reads w p [n]) :
    Calls Tryd.prog 33 #[.agg #[.int .i64 s0, .int .i64 s1, .int .i64 s2, .int .i64 s3, .int .i64 s4, .int .i64 s5, .int .i64 s6, .int .i64 s7, .int .i64 s8, .int .i64 s9, .int .i64 s10, .int .i64 s11], .slice p 1 c] w fun e w' => e = .returned (.tuple #[.agg #[.int .i64 0, .int .i64 0, .int .i64 0, .int .i64 0, .int .i64 0, .int .i64 0, .int .i64 0, .int .i64 0, .int .i64 0, .int .i64 0, .int .i64 0, .int .i64 0, .map none], .int .i64 3]) ∧ Below w.heap.size w w' := by
  have hB0 : Below w.heap.size w ((w.alloc (.cells #[.int .i64 s0, .int .i64 s1, .int .i64 s2, .int .i64 s3, .int .i64 s4, .int .i64 s5, .int .i64 s6, .int .i64 s7, .int .i64 s8, .int .i64 s9, .int .i64 s10, .int .i64 s11] 24)).alloc (.cells #[.int .i64 0, .int .i64 0, .int .i64 0, .int .i64 0, .int .i64 0, .int .i64 0, .int .i64 0, .int .i64 0, .int .i64 0, .int .i64 0, .int .i64 0, .int .i64 0, .map none] 84)) := ((Below.refl _ _).alloc (Nat.le_refl _) _).alloc (by simp) _
  have HZ := Lib.hid (show Blk ((w.alloc (.cells #[.int .i64 s0, .int .i64 s1, .int .i64 s2, .int .i64 s3, .int .i64 s4, .int .i64 s5, .int .i64 s6, .int .i64 s7, .int .i64 s8, .int .i64 s9, .int .i64 s10, .int .i64 s11] 24)).alloc (.cells #[.int .i64 0, .int .i64 0, .int .i64 0, .int .i64 0, .int .i64 0, .int .i64 0, .int .i64 0, .int .i64 0, .int .i64 0, .int .i64 0, .int .i64 0, .int .i64 0, .map none] 84)) (w.heap.size + 1) 84 #[.int .i64 0, .int .i64 0, .int .i64 0, .int .i64 0, .int .i64 0, .int .i64 0, .int .i64 0, .int .i64 0, .int .i64 0, .int .i64 0, .int .i64 0, .int .i64 0, .map none] from blk_newN _ _ (by simp))
  have HI13 := Lib.hid (show (Tryd.prog.info? 84).map (·.size) = some (#[.int .i64 0, .int .i64 0, .int .i64 0, .int .i64 0, .int .i64 0, .int .i64 0, .int .i64 0, .int .i64 0, .int .i64 0, .int .i64 0, .int .i64 0, .int .i64 0, .map none] : Array Value).size from info_circle)
  go_enter Tryd.func33, Tryd.ntmps33
  go_wp2_with fail
  refine (checkHs_any [s0, s1, s2, s3, s4, s5, s6, s7, s8, s9, s10, s11] (Lib.hid rfl) _).mono ?_
  rintro e w1 ⟨rfl, hb1⟩
  rw [HC.out]
  have hB1 := tr hB0 hb1
  have HZ1 := Lib.hid (HZ.out.below hb1 HZ.out.lt)
  have hR1 := hR.below hB1 (Nat.le_refl _)
  clear hb1 hB0 HZ
  go_wp2_with fail
  refine (checkH_any p [n] c _ (by simp) hR1).mono ?_
  rintro e w2 ⟨rfl, hb2⟩
  rw [HN.out]
  replace hB1 := tr hB1 hb2
  replace HZ1 := Lib.hid (HZ1.out.below hb2 HZ1.out.lt)
  clear hb2 hR1
  go_wp2_with (first
    | (refine wpList_store_row rfl 84 (.tmp 4) (.tmp 18) rfl (w.heap.size + 1) #[.int .i64 0, .int .i64 0, .int .i64 0, .int .i64 0, .int .i64 0, .int .i64 0, .int .i64 0, .int .i64 0, .int .i64 0, .int .i64 0, .int .i64 0, .int .i64 0, .map none] rfl rfl 84 _ HZ1.out HI13.out rfl (by simp [Value.oneCell']) ?_) | fail)
  exact bodyPost_ret (v := .tuple #[.agg #[.int .i64 0, .int .i64 0, .int .i64 0, .int .i64 0, .int .i64 0, .int .i64 0, .int .i64 0, .int .i64 0, .int .i64 0, .int .i64 0, .int .i64 0, .int .i64 0, .map none], .int .i64 3]) (results_cell_slot Tryd.results33 _ _ (w.heap.size + 1) 84 _ (0, 0) _ rfl (HZ1.out.row _) Tryd.underlying84 rfl HI13.out _ rfl) rfl ⟨rfl, below_setRow hB1 (by omega) _⟩
end Go.Proofs.YtdnccdobnhbpeaaDoor
