/-
  The circle of houses: enter, with two houses named.
  Package house: Ties and Judge of valid houses.
-/
import Derived.Test.YtdnccdobnhbpeaaDoorHoJe
import Derived.Test.YtdnccdobnhbpeaaDoorHcM
import Derived.Deep.QuietTactic
import Derived.BigQuiet
namespace Go.Proofs.YtdnccdobnhbpeaaDoor
open Go Go.RowKit Go.Maps Go.ChangeShapes
set_option linter.unusedVariables false

set_option maxRecDepth 100000 in
set_option maxHeartbeats 8000000 in
theorem enter_ok2 (s0 s1 s2 s3 s4 s5 s6 s7 s8 s9 s10 s11 a b : Int) (HC : Hid (chkF [s0, s1, s2, s3, s4, s5, s6, s7, s8, s9, s10, s11] = 0)) (HN : Hid (chkH [a, b] = 0)) (HAB : Hid ((a == b) = false)) (g c : Nat) (w : World) (hR : Reads w (some ⟨g, 0, none⟩) [a, b]) :
    Calls Tryd.prog 33 #[.agg #[.int .i64 s0, .int .i64 s1, .int .i64 s2, .int .i64 s3, .int .i64 s4, .int .i64 s5, .int .i64 s6, .int .i64 s7, .int .i64 s8, .int .i64 s9, .int .i64 s10, .int .i64 s11], .slice (some ⟨g, 0, none⟩) 2 c] w fun e w' => ∃ (base mb : Nat) (D : DataW Unit), e = .returned (.tuple #[.agg #[.int .i64 s0, .int .i64 s1, .int .i64 s2, .int .i64 s3, .int .i64 s4, .int .i64 s5, .int .i64 s6, .int .i64 s7, .int .i64 s8, .int .i64 s9, .int .i64 s10, .int .i64 s11, .map (some mb)], .int .i64 0]) ∧ w.heap.size ≤ mb ∧ w'.ownsGroups Tryd.prog 22 base 3 .i64 mb 12 D ∧ (∀ f : Int, D.atKey (.int .i64 f) .nil = stD [s0, s1, s2, s3, s4, s5, s6, s7, s8, s9, s10, s11] f 12) ∧ Below w.heap.size w w' := by
  have HFIG := Lib.hid (fun j (hj : j < 12) => chkF_zero HC.out j hj)
  have hB0 : Below w.heap.size w ((w.alloc (.cells #[.int .i64 s0, .int .i64 s1, .int .i64 s2, .int .i64 s3, .int .i64 s4, .int .i64 s5, .int .i64 s6, .int .i64 s7, .int .i64 s8, .int .i64 s9, .int .i64 s10, .int .i64 s11] 24)).alloc (.cells #[.int .i64 0, .int .i64 0, .int .i64 0, .int .i64 0, .int .i64 0, .int .i64 0, .int .i64 0, .int .i64 0, .int .i64 0, .int .i64 0, .int .i64 0, .int .i64 0, .map none] 84)) := ((Below.refl _ _).alloc (Nat.le_refl _) _).alloc (by simp) _
  have HZ := Lib.hid (show Blk ((w.alloc (.cells #[.int .i64 s0, .int .i64 s1, .int .i64 s2, .int .i64 s3, .int .i64 s4, .int .i64 s5, .int .i64 s6, .int .i64 s7, .int .i64 s8, .int .i64 s9, .int .i64 s10, .int .i64 s11] 24)).alloc (.cells #[.int .i64 0, .int .i64 0, .int .i64 0, .int .i64 0, .int .i64 0, .int .i64 0, .int .i64 0, .int .i64 0, .int .i64 0, .int .i64 0, .int .i64 0, .int .i64 0, .map none] 84)) (w.heap.size + 1) 84 #[.int .i64 0, .int .i64 0, .int .i64 0, .int .i64 0, .int .i64 0, .int .i64 0, .int .i64 0, .int .i64 0, .int .i64 0, .int .i64 0, .int .i64 0, .int .i64 0, .map none] from blk_newN _ _ (by simp))
  have HX := Lib.hid (show Blk ((w.alloc (.cells #[.int .i64 s0, .int .i64 s1, .int .i64 s2, .int .i64 s3, .int .i64 s4, .int .i64 s5, .int .i64 s6, .int .i64 s7, .int .i64 s8, .int .i64 s9, .int .i64 s10, .int .i64 s11] 24)).alloc (.cells #[.int .i64 0, .int .i64 0, .int .i64 0, .int .i64 0, .int .i64 0, .int .i64 0, .int .i64 0, .int .i64 0, .int .i64 0, .int .i64 0, .int .i64 0, .int .i64 0, .map none] 84)) w.heap.size 24 #[.int .i64 s0, .int .i64 s1, .int .i64 s2, .int .i64 s3, .int .i64 s4, .int .i64 s5, .int .i64 s6, .int .i64 s7, .int .i64 s8, .int .i64 s9, .int .i64 s10, .int .i64 s11] from Blk.alloc (blk_newN _ _ rfl) _)
  go_enter Tryd.func33, Tryd.ntmps33
  go_wp2_with fail
  refine (checkHs_any [s0, s1, s2, s3, s4, s5, s6, s7, s8, s9, s10, s11] (Lib.hid rfl) _).mono ?_
  rintro e w1 ⟨rfl, hb1⟩
  rw [HC.out]
  have hB1 := tr hB0 hb1
  have HZ1 := Lib.hid (HZ.out.below hb1 HZ.out.lt)
  have HX1 := Lib.hid (HX.out.below hb1 HX.out.lt)
  have hR1 := hR.below hB1 (Nat.le_refl _)
  clear hb1 hB0 HZ HX
  go_wp2_with fail
  refine (checkH_any (some ⟨g, 0, none⟩) [a, b] c _ (by simp) hR1).mono ?_
  rintro e w2 ⟨rfl, hb2⟩
  rw [HN.out]
  have hB2 := tr hB1 hb2
  have HZ2 := Lib.hid (HZ1.out.below hb2 HZ1.out.lt)
  have HX2 := Lib.hid (HX1.out.below hb2 HX1.out.lt)
  have hR2 := hR1.below hb2 (Nat.le_refl _)
  have x0 : w2.cell? ⟨g, 0, none⟩ = some (.int .i64 a) := by
    obtain ⟨q, o, e, hc⟩ := hR2 0 (by simp)
    cases e
    exact hc
  have x1 : w2.cell? ⟨g, 1, none⟩ = some (.int .i64 b) := by
    obtain ⟨q, o, e, hc⟩ := hR2 1 (by simp)
    cases e
    exact hc
  have hab := HAB.out
  clear hb2 hB1 HZ1 HX1 hR1 hR2
  go_wp2
  go_quiet (fail)
  clear x0 x1 hab
  have hB3 := below_drewN hB2 nq
  have HZ3 := Lib.hid (show Blk (w2.drewN nq) (w.heap.size + 1) 84 #[.int .i64 0, .int .i64 0, .int .i64 0, .int .i64 0, .int .i64 0, .int .i64 0, .int .i64 0, .int .i64 0, .int .i64 0, .int .i64 0, .int .i64 0, .int .i64 0, .map none] from HZ2.out)
  have hX3 : Blk (w2.drewN nq) w.heap.size 24 #[.int .i64 s0, .int .i64 s1, .int .i64 s2, .int .i64 s3, .int .i64 s4, .int .i64 s5, .int .i64 s6, .int .i64 s7, .int .i64 s8, .int .i64 s9, .int .i64 s10, .int .i64 s11] := HX2.out
  obtain ⟨V, hV⟩ : ∃ V, w2.drewN nq = V := ⟨_, rfl⟩
  rw [hV] at hB3 HZ3 hX3 ⊢
  clear hV hB2 HZ2 HX2
  have c0 : V.cell? ⟨w.heap.size, 0, none⟩ = some (.int .i64 s0) := hX3.cell 0
  have c1 : V.cell? ⟨w.heap.size, 1, none⟩ = some (.int .i64 s1) := hX3.cell 1
  have c2 : V.cell? ⟨w.heap.size, 2, none⟩ = some (.int .i64 s2) := hX3.cell 2
  have c3 : V.cell? ⟨w.heap.size, 3, none⟩ = some (.int .i64 s3) := hX3.cell 3
  have c4 : V.cell? ⟨w.heap.size, 4, none⟩ = some (.int .i64 s4) := hX3.cell 4
  have c5 : V.cell? ⟨w.heap.size, 5, none⟩ = some (.int .i64 s5) := hX3.cell 5
  have c6 : V.cell? ⟨w.heap.size, 6, none⟩ = some (.int .i64 s6) := hX3.cell 6
  have c7 : V.cell? ⟨w.heap.size, 7, none⟩ = some (.int .i64 s7) := hX3.cell 7
  have c8 : V.cell? ⟨w.heap.size, 8, none⟩ = some (.int .i64 s8) := hX3.cell 8
  have c9 : V.cell? ⟨w.heap.size, 9, none⟩ = some (.int .i64 s9) := hX3.cell 9
  have c10 : V.cell? ⟨w.heap.size, 10, none⟩ = some (.int .i64 s10) := hX3.cell 10
  have c11 : V.cell? ⟨w.heap.size, 11, none⟩ = some (.int .i64 s11) := hX3.cell 11
  go_wp2_with fail
  refine (joined_any s0 s1 s2 s3 s4 s5 s6 s7 s8 s9 s10 s11 HFIG _).mono ?_
  rintro e w4 ⟨base, mb, D, rfl, hmb, hog, hat, hb4⟩
  have HZ4 := HZ3.out.below hb4 HZ3.out.lt
  have hB4 := tr hB3 hb4
  have HI13 := Lib.hid (show (Tryd.prog.info? 84).map (·.size) = some (#[.int .i64 s0, .int .i64 s1, .int .i64 s2, .int .i64 s3, .int .i64 s4, .int .i64 s5, .int .i64 s6, .int .i64 s7, .int .i64 s8, .int .i64 s9, .int .i64 s10, .int .i64 s11, .map (some mb)] : Array Value).size from info_circle)
  have hmw : w.heap.size ≤ mb := Nat.le_trans hB3.size hmb
  have hzl := HZ3.out.lt
  clear c0 c1 c2 c3 c4 c5 c6 c7 c8 c9 c10 c11
  go_wp2_with (first
    | (refine wpList_store_row rfl 84 (.tmp 4) (.tmp 34) rfl (w.heap.size + 1) #[.int .i64 s0, .int .i64 s1, .int .i64 s2, .int .i64 s3, .int .i64 s4, .int .i64 s5, .int .i64 s6, .int .i64 s7, .int .i64 s8, .int .i64 s9, .int .i64 s10, .int .i64 s11, .map (some mb)] rfl rfl 84 _ HZ4 HI13.out rfl (by simp [Value.oneCell']) ?_) | fail)
  have hbb : mb < base := by
    obtain ⟨es, ck, g1, g2, g3, g4, g5, g6, g7⟩ := hog
    exact g5
  exact bodyPost_ret (v := .tuple #[.agg #[.int .i64 s0, .int .i64 s1, .int .i64 s2, .int .i64 s3, .int .i64 s4, .int .i64 s5, .int .i64 s6, .int .i64 s7, .int .i64 s8, .int .i64 s9, .int .i64 s10, .int .i64 s11, .map (some mb)], .int .i64 0]) (results_cell_slot Tryd.results33 _ _ (w.heap.size + 1) 84 _ (0, 0) _ rfl (HZ4.row _) Tryd.underlying84 rfl HI13.out _ rfl) rfl ⟨base, mb, D, rfl, hmw, groups_kept hog (row := some (w.heap.size + 1)) ⟨rfl, rfl, rfl, by simp [World.setRow], fun j hj hne => setRow_other w4 (w.heap.size + 1) j _ (fun e => hne (by rw [e]))⟩ (fun r e => by cases e; omega), hat, below_setRow hB4 (by omega) _⟩
end Go.Proofs.YtdnccdobnhbpeaaDoor

namespace Go.Proofs.YtdnccdobnhbpeaaDoor
open Go Go.RowKit Go.Shelf Go.Maps Go.ChangeShapes
set_option linter.unusedVariables false
set_option linter.unusedSimpArgs false

theorem hou_lt {a : Int} (h : Hou a) : (a - 1).toNat < 12 := by
  unfold Hou at h
  omega
theorem circ_of (s0 s1 s2 s3 s4 s5 s6 s7 s8 s9 s10 s11 : Int) (mb : Nat) : Circ #[.int .i64 s0, .int .i64 s1, .int .i64 s2, .int .i64 s3, .int .i64 s4, .int .i64 s5, .int .i64 s6, .int .i64 s7, .int .i64 s8, .int .i64 s9, .int .i64 s10, .int .i64 s11, .map (some mb)] [s0, s1, s2, s3, s4, s5, s6, s7, s8, s9, s10, s11] (some mb) where
  size := rfl
  fig j hj := by
    have e : j = 0 ∨ j = 1 ∨ j = 2 ∨ j = 3 ∨ j = 4 ∨ j = 5 ∨ j = 6 ∨ j = 7 ∨ j = 8 ∨ j = 9 ∨ j = 10 ∨ j = 11 := by omega
    rcases e with rfl | rfl | rfl | rfl | rfl | rfl | rfl | rfl | rfl | rfl | rfl | rfl <;> rfl
  map := rfl
  one := by simp [Value.oneCell']
set_option maxRecDepth 100000 in
set_option maxHeartbeats 8000000 in
theorem tiesS_any (s0 s1 s2 s3 s4 s5 s6 s7 s8 s9 s10 s11 : Int) (HC : Hid (chkF [s0, s1, s2, s3, s4, s5, s6, s7, s8, s9, s10, s11] = 0)) (a b : Int) (ha : Hou a) (hb : Hou b) (HAB : Hid ((a == b) = false)) (w : World) (hw6 : 6 ≤ w.heap.size) :
    Calls Tryd.prog 17 #[.agg #[.int .i64 s0, .int .i64 s1, .int .i64 s2, .int .i64 s3, .int .i64 s4, .int .i64 s5, .int .i64 s6, .int .i64 s7, .int .i64 s8, .int .i64 s9, .int .i64 s10, .int .i64 s11], .int .i64 a, .int .i64 b] w fun e w' => (∃ v ts, e = .returned (.tuple #[v, .int .i64 0]) ∧ ts.Perm (rawL [s0, s1, s2, s3, s4, s5, s6, s7, s8, s9, s10, s11] a b) ∧ w'.ownsRow w.heap.size 66 3 v ts.length (rowT ts)) ∧ Below w.heap.size w w' := by
  have HN := Lib.hid (show chkH [a, b] = 0 by
    rcases chkH_two (a := a) (b := b) with ⟨h, _⟩ | ⟨_, h⟩
    · exact h
    · exact absurd ⟨ha, hb⟩ h)
  have hX := Blk.new w 24 #[.int .i64 s0, .int .i64 s1, .int .i64 s2, .int .i64 s3, .int .i64 s4, .int .i64 s5, .int .i64 s6, .int .i64 s7, .int .i64 s8, .int .i64 s9, .int .i64 s10, .int .i64 s11]
  have hB0 := below1 w (.cells #[.int .i64 s0, .int .i64 s1, .int .i64 s2, .int .i64 s3, .int .i64 s4, .int .i64 s5, .int .i64 s6, .int .i64 s7, .int .i64 s8, .int .i64 s9, .int .i64 s10, .int .i64 s11] 24)
  have HX := Lib.hid hX
  clear hX
  have HIh := Lib.hid (show (Tryd.prog.info? 24).map (·.size) = some (#[.int .i64 s0, .int .i64 s1, .int .i64 s2, .int .i64 s3, .int .i64 s4, .int .i64 s5, .int .i64 s6, .int .i64 s7, .int .i64 s8, .int .i64 s9, .int .i64 s10, .int .i64 s11] : Array Value).size from info_houses)
  go_enter Tryd.func17, Tryd.ntmps17
  go_wp2_with (refine wpList_load_row rfl 24 (.tmp 3) rfl w.heap.size rfl 24 #[.int .i64 s0, .int .i64 s1, .int .i64 s2, .int .i64 s3, .int .i64 s4, .int .i64 s5, .int .i64 s6, .int .i64 s7, .int .i64 s8, .int .i64 s9, .int .i64 s10, .int .i64 s11] (0, 0) _ HX.out Tryd.underlying24 rfl HIh.out ?_)
  have hR2 : Reads ((w.alloc (.cells #[.int .i64 s0, .int .i64 s1, .int .i64 s2, .int .i64 s3, .int .i64 s4, .int .i64 s5, .int .i64 s6, .int .i64 s7, .int .i64 s8, .int .i64 s9, .int .i64 s10, .int .i64 s11] 24)).alloc (.cells #[.int .i64 a, .int .i64 b] 3)) (some ⟨w.heap.size + 1, 0, none⟩) [a, b] := by
    have e1 : (w.alloc (.cells #[.int .i64 s0, .int .i64 s1, .int .i64 s2, .int .i64 s3, .int .i64 s4, .int .i64 s5, .int .i64 s6, .int .i64 s7, .int .i64 s8, .int .i64 s9, .int .i64 s10, .int .i64 s11] 24)).heap.size = w.heap.size + 1 := by simp
    rw [← e1]; exact reads_new _ 3 [a, b]
  refine (enter_ok2 s0 s1 s2 s3 s4 s5 s6 s7 s8 s9 s10 s11 a b HC HN HAB (w.heap.size + 1) 2 _ hR2).mono ?_
  rintro e w4 ⟨base, mb, D, rfl, hmb, hog, hat, hb4⟩
  have hB4 : Below w.heap.size w w4 := (hB0.alloc hB0.size _).trans (hb4.mono (hB0.alloc hB0.size _).size)
  clear hmb
  clear hb4 hB0 HX hR2
  have HI13 := Lib.hid (show (Tryd.prog.info? 84).map (·.size) = some (#[.int .i64 s0, .int .i64 s1, .int .i64 s2, .int .i64 s3, .int .i64 s4, .int .i64 s5, .int .i64 s6, .int .i64 s7, .int .i64 s8, .int .i64 s9, .int .i64 s10, .int .i64 s11, .map (some mb)] : Array Value).size from info_circle)
  have HZ := Lib.hid (show Blk (w4.alloc (.cells #[.int .i64 0, .int .i64 0, .int .i64 0, .int .i64 0, .int .i64 0, .int .i64 0, .int .i64 0, .int .i64 0, .int .i64 0, .int .i64 0, .int .i64 0, .int .i64 0, .map none] 84)) w4.heap.size 84 #[.int .i64 0, .int .i64 0, .int .i64 0, .int .i64 0, .int .i64 0, .int .i64 0, .int .i64 0, .int .i64 0, .int .i64 0, .int .i64 0, .int .i64 0, .int .i64 0, .map none] from blk_newN _ _ rfl)
  have HST := Lib.hid (HZ.out.row #[.int .i64 s0, .int .i64 s1, .int .i64 s2, .int .i64 s3, .int .i64 s4, .int .i64 s5, .int .i64 s6, .int .i64 s7, .int .i64 s8, .int .i64 s9, .int .i64 s10, .int .i64 s11, .map (some mb)])
  go_wp2_with (first
    | (refine wpList_store_row rfl 84 (.tmp 8) (.tmp 16) rfl w4.heap.size #[.int .i64 s0, .int .i64 s1, .int .i64 s2, .int .i64 s3, .int .i64 s4, .int .i64 s5, .int .i64 s6, .int .i64 s7, .int .i64 s8, .int .i64 s9, .int .i64 s10, .int .i64 s11, .map (some mb)] rfl rfl 84 _ HZ.out HI13.out rfl (by simp [Value.oneCell']) ?_)
    | (refine wpList_load_row rfl 84 (.tmp 8) rfl w4.heap.size rfl 84 #[.int .i64 s0, .int .i64 s1, .int .i64 s2, .int .i64 s3, .int .i64 s4, .int .i64 s5, .int .i64 s6, .int .i64 s7, .int .i64 s8, .int .i64 s9, .int .i64 s10, .int .i64 s11, .map (some mb)] (0, 0) _ HST.out Tryd.underlying84 rfl HI13.out ?_) | fail)
  generalize hW5 : World.setRow _ _ _ = W5
  have hg5 : w4.grownBy W5 none := by
    rw [← hW5]
    exact ⟨rfl, rfl, rfl, by simp [World.setRow], fun j hj _ => (setRow_other _ w4.heap.size j _ (Nat.ne_of_lt hj)).trans (Below.heap_alloc _ _ j hj)⟩
  have HOG := Lib.hid (groups_kept hog hg5 (fun r e => by cases e))
  have hB5 : Below w.heap.size w W5 := hB4.grown hg5 hB4.size (fun j e => by cases e)
  have HFF := Lib.hid (show Fig (fg [s0, s1, s2, s3, s4, s5, s6, s7, s8, s9, s10, s11] a) from chkF_zero HC.out (a - 1).toNat (hou_lt ha))
  have hCi := circ_of s0 s1 s2 s3 s4 s5 s6 s7 s8 s9 s10 s11 mb
  clear hog hB4 hg5 hW5 HZ
  refine (callsIn_wide.1 (ties_in _ [s0, s1, s2, s3, s4, s5, s6, s7, s8, s9, s10, s11] mb hCi a b ha hb base D W5 HOG (Lib.hid hat) HFF.out (Nat.le_trans hw6 hB5.size))).mono ?_
  rintro e w6 ⟨v, ts, rfl, hperm, _, hown, hb6⟩
  go_wp2
  go_ret2
  exact ⟨⟨v, ts, rfl, hperm, ownsRow_base hown hB5.size⟩, hB5.trans (hb6.mono hB5.size)⟩
set_option maxRecDepth 100000 in
set_option maxHeartbeats 8000000 in
theorem judgeS_any (s0 s1 s2 s3 s4 s5 s6 s7 s8 s9 s10 s11 : Int) (HC : Hid (chkF [s0, s1, s2, s3, s4, s5, s6, s7, s8, s9, s10, s11] = 0)) (a b : Int) (ha : Hou a) (hb : Hou b) (HAB : Hid ((a == b) = false)) (w : World) (hw6 : 6 ≤ w.heap.size) :
    Calls Tryd.prog 19 #[.agg #[.int .i64 s0, .int .i64 s1, .int .i64 s2, .int .i64 s3, .int .i64 s4, .int .i64 s5, .int .i64 s6, .int .i64 s7, .int .i64 s8, .int .i64 s9, .int .i64 s10, .int .i64 s11], .int .i64 a, .int .i64 b] w fun e w' => e = .returned (.tuple #[.int .i64 (jdg [s0, s1, s2, s3, s4, s5, s6, s7, s8, s9, s10, s11] a b), .int .i64 0]) ∧ Below w.heap.size w w' := by
  have HN := Lib.hid (show chkH [a, b] = 0 by
    rcases chkH_two (a := a) (b := b) with ⟨h, _⟩ | ⟨_, h⟩
    · exact h
    · exact absurd ⟨ha, hb⟩ h)
  have hX := Blk.new w 24 #[.int .i64 s0, .int .i64 s1, .int .i64 s2, .int .i64 s3, .int .i64 s4, .int .i64 s5, .int .i64 s6, .int .i64 s7, .int .i64 s8, .int .i64 s9, .int .i64 s10, .int .i64 s11]
  have hB0 := below1 w (.cells #[.int .i64 s0, .int .i64 s1, .int .i64 s2, .int .i64 s3, .int .i64 s4, .int .i64 s5, .int .i64 s6, .int .i64 s7, .int .i64 s8, .int .i64 s9, .int .i64 s10, .int .i64 s11] 24)
  have HX := Lib.hid hX
  clear hX
  have HIh := Lib.hid (show (Tryd.prog.info? 24).map (·.size) = some (#[.int .i64 s0, .int .i64 s1, .int .i64 s2, .int .i64 s3, .int .i64 s4, .int .i64 s5, .int .i64 s6, .int .i64 s7, .int .i64 s8, .int .i64 s9, .int .i64 s10, .int .i64 s11] : Array Value).size from info_houses)
  go_enter Tryd.func19, Tryd.ntmps19
  go_wp2_with (refine wpList_load_row rfl 24 (.tmp 3) rfl w.heap.size rfl 24 #[.int .i64 s0, .int .i64 s1, .int .i64 s2, .int .i64 s3, .int .i64 s4, .int .i64 s5, .int .i64 s6, .int .i64 s7, .int .i64 s8, .int .i64 s9, .int .i64 s10, .int .i64 s11] (0, 0) _ HX.out Tryd.underlying24 rfl HIh.out ?_)
  have hR2 : Reads ((w.alloc (.cells #[.int .i64 s0, .int .i64 s1, .int .i64 s2, .int .i64 s3, .int .i64 s4, .int .i64 s5, .int .i64 s6, .int .i64 s7, .int .i64 s8, .int .i64 s9, .int .i64 s10, .int .i64 s11] 24)).alloc (.cells #[.int .i64 a, .int .i64 b] 3)) (some ⟨w.heap.size + 1, 0, none⟩) [a, b] := by
    have e1 : (w.alloc (.cells #[.int .i64 s0, .int .i64 s1, .int .i64 s2, .int .i64 s3, .int .i64 s4, .int .i64 s5, .int .i64 s6, .int .i64 s7, .int .i64 s8, .int .i64 s9, .int .i64 s10, .int .i64 s11] 24)).heap.size = w.heap.size + 1 := by simp
    rw [← e1]; exact reads_new _ 3 [a, b]
  refine (enter_ok2 s0 s1 s2 s3 s4 s5 s6 s7 s8 s9 s10 s11 a b HC HN HAB (w.heap.size + 1) 2 _ hR2).mono ?_
  rintro e w4 ⟨base, mb, D, rfl, hmb, hog, hat, hb4⟩
  have hB4 : Below w.heap.size w w4 := (hB0.alloc hB0.size _).trans (hb4.mono (hB0.alloc hB0.size _).size)
  clear hmb
  clear hb4 hB0 HX hR2
  have HI13 := Lib.hid (show (Tryd.prog.info? 84).map (·.size) = some (#[.int .i64 s0, .int .i64 s1, .int .i64 s2, .int .i64 s3, .int .i64 s4, .int .i64 s5, .int .i64 s6, .int .i64 s7, .int .i64 s8, .int .i64 s9, .int .i64 s10, .int .i64 s11, .map (some mb)] : Array Value).size from info_circle)
  have HZ := Lib.hid (show Blk (w4.alloc (.cells #[.int .i64 0, .int .i64 0, .int .i64 0, .int .i64 0, .int .i64 0, .int .i64 0, .int .i64 0, .int .i64 0, .int .i64 0, .int .i64 0, .int .i64 0, .int .i64 0, .map none] 84)) w4.heap.size 84 #[.int .i64 0, .int .i64 0, .int .i64 0, .int .i64 0, .int .i64 0, .int .i64 0, .int .i64 0, .int .i64 0, .int .i64 0, .int .i64 0, .int .i64 0, .int .i64 0, .map none] from blk_newN _ _ rfl)
  have HST := Lib.hid (HZ.out.row #[.int .i64 s0, .int .i64 s1, .int .i64 s2, .int .i64 s3, .int .i64 s4, .int .i64 s5, .int .i64 s6, .int .i64 s7, .int .i64 s8, .int .i64 s9, .int .i64 s10, .int .i64 s11, .map (some mb)])
  go_wp2_with (first
    | (refine wpList_store_row rfl 84 (.tmp 8) (.tmp 16) rfl w4.heap.size #[.int .i64 s0, .int .i64 s1, .int .i64 s2, .int .i64 s3, .int .i64 s4, .int .i64 s5, .int .i64 s6, .int .i64 s7, .int .i64 s8, .int .i64 s9, .int .i64 s10, .int .i64 s11, .map (some mb)] rfl rfl 84 _ HZ.out HI13.out rfl (by simp [Value.oneCell']) ?_)
    | (refine wpList_load_row rfl 84 (.tmp 8) rfl w4.heap.size rfl 84 #[.int .i64 s0, .int .i64 s1, .int .i64 s2, .int .i64 s3, .int .i64 s4, .int .i64 s5, .int .i64 s6, .int .i64 s7, .int .i64 s8, .int .i64 s9, .int .i64 s10, .int .i64 s11, .map (some mb)] (0, 0) _ HST.out Tryd.underlying84 rfl HI13.out ?_) | fail)
  generalize hW5 : World.setRow _ _ _ = W5
  have hg5 : w4.grownBy W5 none := by
    rw [← hW5]
    exact ⟨rfl, rfl, rfl, by simp [World.setRow], fun j hj _ => (setRow_other _ w4.heap.size j _ (Nat.ne_of_lt hj)).trans (Below.heap_alloc _ _ j hj)⟩
  have HOG := Lib.hid (groups_kept hog hg5 (fun r e => by cases e))
  have hB5 : Below w.heap.size w W5 := hB4.grown hg5 hB4.size (fun j e => by cases e)
  have HFF := Lib.hid (show Fig (fg [s0, s1, s2, s3, s4, s5, s6, s7, s8, s9, s10, s11] a) from chkF_zero HC.out (a - 1).toNat (hou_lt ha))
  have hCi := circ_of s0 s1 s2 s3 s4 s5 s6 s7 s8 s9 s10 s11 mb
  clear hog hB4 hg5 hW5 HZ
  refine (callsIn_wide.1 (judge_in _ [s0, s1, s2, s3, s4, s5, s6, s7, s8, s9, s10, s11] mb hCi a b ha hb base D W5 HOG (Lib.hid hat) HFF.out (Nat.le_trans hw6 hB5.size))).mono ?_
  rintro e w6 ⟨rfl, hb6⟩
  go_wp2
  go_ret2
  exact ⟨rfl, hB5.trans (hb6.mono hB5.size)⟩
end Go.Proofs.YtdnccdobnhbpeaaDoor

