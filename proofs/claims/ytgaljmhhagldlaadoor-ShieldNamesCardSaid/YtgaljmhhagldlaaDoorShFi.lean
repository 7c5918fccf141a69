/-
  ShieldFigures: the walk of the law.
-/
import Derived.Test.YtgaljmhhagldlaaDoorShRb
import Derived.Test.YtgaljmhhagldlaaDoorShGr
import Derived.RegionTactic
import Derived.BigRegion
namespace Go.Proofs.YtgaljmhhagldlaaDoor
open Go Go.RowKit
set_option linter.unusedVariables false

theorem refNames_any (w : World) :
    Calls Tryd.prog 23 #[] w fun e w' => e = .returned (.slice (some ⟨w.heap.size, 0, none⟩) 16 16) ∧ w.alloc (.cells namesA 9) = w' := by
  go_enter Tryd.func23, Tryd.ntmps23
  go_wp2
  go_ret
  exact ⟨rfl, rfl⟩
def backTo (f : Int) (k : Nat) : List Int := (List.range 4).map fun j => if 3 - j < k then markF f (3 - j) else 0
def awayTo (f : Int) (k : Nat) : List Int := (List.range 4).map fun j => if j < k then 3 - markF f j else 0
theorem back_of (x : Int) (hx : Fig x) : ofR (backTo x 4) = turF x := by
  refine figs1 (P := fun x => ofR (backTo x 4) = turF x) (fun i => ?_) hx
  revert i; decide +kernel
theorem away_of (x : Int) (hx : Fig x) : ofR (awayTo x 4) = oppF x := by
  refine figs1 (P := fun x => ofR (awayTo x 4) = oppF x) (fun i => ?_) hx
  revert i; decide +kernel
theorem back_mks (f : Int) : Mks (backTo f 4) := fun k hk => by
  have e : k = 0 ∨ k = 1 ∨ k = 2 ∨ k = 3 := by omega
  rcases e with rfl | rfl | rfl | rfl
  · exact markF_bd _ _
  · exact markF_bd _ _
  · exact markF_bd _ _
  · exact markF_bd _ _
theorem away_mks (f : Int) : Mks (awayTo f 4) := fun k hk => by
  have e : k = 0 ∨ k = 1 ∨ k = 2 ∨ k = 3 := by omega
  have h : ∀ j, 1 ≤ 3 - markF f j ∧ 3 - markF f j ≤ 2 := fun j => by have := markF_bd f j; omega
  rcases e with rfl | rfl | rfl | rfl
  · exact h 0
  · exact h 1
  · exact h 2
  · exact h 3
theorem chk_bad {f : Int} (hf : ¬ Fig f) : chkF [f] = 2 := by
  rcases chkF_or [f] with h | h
  · exact absurd (chkF_zero h 0 (by simp)) hf
  · exact h
theorem chk_bad2 {f g : Int} (hf : ¬ Fig f) : chkF [f, g] = 2 := by
  rcases chkF_or [f, g] with h | h
  · exact absurd (chkF_zero h 0 (by simp)) hf
  · exact h
theorem chk_bad3 {f g : Int} (hf : ¬ Fig g) : chkF [f, g] = 2 := by
  rcases chkF_or [f, g] with h | h
  · exact absurd (chkF_zero h 1 (by simp)) hf
  · exact h
theorem fig_true {x : Int} (h : Fig x) : figB x = true := by simp [figB]; exact h
theorem fig_false {x : Int} (h : ¬ Fig x) : figB x = false := by
  simp only [figB, decide_eq_false_iff_not]
  exact h
theorem guard_marks : Tryd.prog.eqGuardType Tryd.prog.depth 27 = false := by kernel_rfl
theorem eq_marks (w : World) : (Op.equalIn 10000 27 (.agg #[.int .i64 0, .int .i64 0, .int .i64 0, .int .i64 0]) (.agg #[.int .i64 0, .int .i64 0, .int .i64 0, .int .i64 0])).run Tryd.prog w = .ok true w := by
  have := run_equalIn_ints w 9998 27 3 4 Tryd.underlying27 Tryd.underlying3 (by kernel_rfl) [0, 0, 0, 0] [0, 0, 0, 0] rfl rfl
  rw [decide_eq_true rfl] at this
  exact this

set_option maxRecDepth 100000 in
set_option maxHeartbeats 16000000 in
theorem figures_bad (f g : Int) (hf : Hid (¬ Fig f)) (w : World) (hp : Par w) (hn : Nam w) :
    Calls Tryd.prog 3 #[.int .i64 f, .int .i64 g] w fun e w' => e = .returned (.bool true) ∧ Below w.heap.size w w' := by
  have G := guard_marks
  have N := eq_marks
  have k1 : chkF [f] = 2 := chk_bad hf.out
  have K1 := Lib.hid k1
  have K2 := Lib.hid (chk_bad2 (g := g) hf.out)
  have V1 := Lib.hid (show nameV f = ⟨#[]⟩ by unfold nameV; rw [if_neg (by omega)])
  have V2 := Lib.hid (show marksV f = [0, 0, 0, 0] by unfold marksV; rw [if_neg (by omega)])
  have V3 := Lib.hid (show sumV f g = 0 by unfold sumV; rw [if_neg (by rw [chk_bad2 hf.out]; omega)])
  have V4 := Lib.hid (show turnedV f = 0 by unfold turnedV; rw [if_neg (by omega)])
  have V5 := Lib.hid (show oppositeV f = 0 by unfold oppositeV; rw [if_neg (by omega)])
  have HG := Lib.hid (fig_false hf.out)
  clear k1
  go_enter Tryd.func3, Tryd.ntmps3
  go_wp2_with fail
  refine (checkS_any f _).mono ?_
  rintro e w1 ⟨rfl, hb1⟩
  rw [K1.out]
  go_wp2_with fail
  refine (nameS_any f _ (hn.below hb1 (Nat.le_refl _))).mono ?_
  rintro e w2 ⟨rfl, hb2⟩
  have hc2 := tr hb1 hb2
  clear hb1 hb2
  rw [K1.out, V1.out]
  go_wp2_with fail
  refine (marks_any f _).mono ?_
  rintro e w3 ⟨rfl, hb3⟩
  have hc3 := tr hc2 hb3
  clear hc2 hb3
  rw [K1.out, V2.out]
  have HM := Lib.hid (Blk.new w3 27 (arr [0, 0, 0, 0]))
  have HM2 := Lib.hid (HM.out.row (arr [0, 0, 0, 0]))
  have hc4 : Below w.heap.size w ((w3.alloc (.cells (arr [0, 0, 0, 0]) 27)).setRow w3.heap.size (arr [0, 0, 0, 0])) := below_setRow (hc3.alloc hc3.size _) hc3.size _
  go_wp2_with (refine wpList_store_row rfl 27 (.tmp 8) (.tmp 29) rfl w3.heap.size (arr [0, 0, 0, 0]) rfl rfl 27 _ HM.out info_marks rfl (arr_one _) ?_)
  refine (sumS_any f g _).mono ?_
  rintro e w4 ⟨rfl, hb4⟩
  rw [K2.out, V3.out]
  have HM3 := Lib.hid (HM2.out.below hb4 HM2.out.lt)
  have hc5 := tr hc4 hb4
  clear hc4 hb4 hc3 HM HM2
  go_wp2_with fail
  refine (turnedS_any f _).mono ?_
  rintro e w5 ⟨rfl, hb5⟩
  rw [K1.out, V4.out]
  have HM4 := Lib.hid (HM3.out.below hb5 HM3.out.lt)
  have hc6 := tr hc5 hb5
  clear hc5 hb5 HM3
  go_wp2_with fail
  refine (oppositeS_any f _).mono ?_
  rintro e w6 ⟨rfl, hb6⟩
  rw [K1.out, V5.out]
  have HM5 := Lib.hid (HM4.out.below hb6 HM4.out.lt)
  have hc7 := tr hc6 hb6
  clear hc6 hb6 HM4
  go_wp2_with fail
  refine (refFigure_any f _).mono ?_
  rintro e w7 ⟨rfl, rfl⟩
  rw [HG.out]
  have z0 : w6.cell? ⟨w3.heap.size, 0, none⟩ = some (.int .i64 0) := HM5.out.cell 0
  have z1 : w6.cell? ⟨w3.heap.size, 1, none⟩ = some (.int .i64 0) := HM5.out.cell 1
  have z2 : w6.cell? ⟨w3.heap.size, 2, none⟩ = some (.int .i64 0) := HM5.out.cell 2
  have z3 : w6.cell? ⟨w3.heap.size, 3, none⟩ = some (.int .i64 0) := HM5.out.cell 3
  go_wp2_with (go_at_call 22; refine (known_any _ (hp.below hc7 (Nat.le_refl _)) (hn.below hc7 (Nat.le_refl _))).mono ?_; rintro e w8 ⟨rfl, hb8⟩)
  go_ret
  exact ⟨rfl, tr hc7 hb8⟩
theorem namesA_at {k : Nat} (hk : k < 16) : namesA[k]? = some (.string (nameB k)) := by
  have hc : k = 0 ∨ k = 1 ∨ k = 2 ∨ k = 3 ∨ k = 4 ∨ k = 5 ∨ k = 6 ∨ k = 7 ∨ k = 8 ∨ k = 9 ∨ k = 10 ∨ k = 11 ∨ k = 12 ∨ k = 13 ∨ k = 14 ∨ k = 15 := by omega
  rcases hc with rfl | rfl | rfl | rfl | rfl | rfl | rfl | rfl | rfl | rfl | rfl | rfl | rfl | rfl | rfl | rfl <;> rfl
theorem refNames_c (w : World) :
    Calls Tryd.prog 23 #[] w fun e w' => e = .returned (.slice (some ⟨w.heap.size, 0, none⟩) 16 16) ∧ (∀ k, k < 16 → w'.cell? ⟨w.heap.size, k, none⟩ = some (.string (nameB k))) ∧ Below w.heap.size w w' := by
  refine (refNames_any w).mono ?_
  rintro e w' ⟨rfl, rfl⟩
  exact ⟨rfl, fun k hk => by rw [(Blk.new w 9 namesA).cell, namesA_at hk], (Below.refl _ _).alloc (Nat.le_refl _) _⟩
theorem backTo_len (f : Int) (k : Nat) : (backTo f k).length = 4 := by simp [backTo]
theorem awayTo_len (f : Int) (k : Nat) : (awayTo f k).length = 4 := by simp [awayTo]
theorem markTo_nth (f : Int) {k : Nat} (hk : k < 4) : nth (markTo f 4) k = markF f k := by
  have e : k = 0 ∨ k = 1 ∨ k = 2 ∨ k = 3 := by omega
  rcases e with rfl | rfl | rfl | rfl <;> rfl

theorem chk_two {f g : Int} (hf : Fig f) (hg : Fig g) : chkF [f, g] = 0 := chkF_of fun k hk => by
  have : k = 0 ∨ k = 1 := by simp at hk; omega
  rcases this with rfl | rfl
  · exact hf
  · exact hg
set_option maxRecDepth 100000 in
set_option maxHeartbeats 32000000 in
theorem figures_one (f g : Int) (hf : Fig f) (hg : Hid (¬ Fig g)) (w : World) (hp : Par w) (hn : Nam w) :
    Calls Tryd.prog 3 #[.int .i64 f, .int .i64 g] w fun e w' => e = .returned (.bool true) ∧ Below w.heap.size w w' := by
  have G := guard_marks
  have E3 := Lib.hid (chk_bad3 (f := f) hg.out)
  have V3 := Lib.hid (show sumV f g = 0 by unfold sumV; rw [if_neg (by rw [chk_bad3 hg.out]; omega)])
  have HG := Lib.hid (fig_false hg.out)
  have K1 := Lib.hid (chk_one hf)
  obtain ⟨f0, f1⟩ := hf
  have hf : Hid (Fig f) := ⟨f0, f1⟩
  go_enter Tryd.func3, Tryd.ntmps3
  go_wp2_with fail
  refine (checkS_any f _).mono ?_
  rintro e w1 ⟨rfl, hb1⟩
  rw [K1.out]
  go_wp2_with fail
  refine (name_good f hf.out _ (hn.below hb1 (Nat.le_refl _))).mono ?_
  rintro e w2 ⟨rfl, hb2⟩
  have hc2 := tr hb1 hb2
  clear hb1 hb2
  go_wp2_with fail
  refine (marks_good f hf.out _).mono ?_
  rintro e w3 ⟨rfl, hb3⟩
  have hc3 := tr hc2 hb3
  clear hc2 hb3
  have HM := Lib.hid (Blk.new w3 27 (arr [0, 0, 0, 0]))
  have HM2 := Lib.hid (HM.out.row (arr (markTo f 4)))
  have HI := Lib.hid (show (Tryd.prog.info? 27).map (·.size) = some (arr (markTo f 4)).size by rw [arr_size, markTo_len]; exact info_marks)
  have hc4 : Below w.heap.size w ((w3.alloc (.cells (arr [0, 0, 0, 0]) 27)).setRow w3.heap.size (arr (markTo f 4))) := below_setRow (hc3.alloc hc3.size _) hc3.size _
  go_wp2_with (refine wpList_store_row rfl 27 (.tmp 8) (.tmp 29) rfl w3.heap.size (arr (markTo f 4)) rfl rfl 27 _ HM.out HI.out (by rw [arr_size, arr_size, markTo_len]; rfl) (arr_one _) ?_)
  refine (sumS_any f g _).mono ?_
  rintro e w4 ⟨rfl, hb4⟩
  rw [E3.out, V3.out]
  have HM3 := Lib.hid (HM2.out.below hb4 HM2.out.lt)
  have hc5 := tr hc4 hb4
  clear hc4 hb4 hc3 HM HM2
  go_wp2_with fail
  refine (tur_good f hf.out _).mono ?_
  rintro e w5 ⟨rfl, hb5⟩
  have HM4 := Lib.hid (HM3.out.below hb5 HM3.out.lt)
  have hc6 := tr hc5 hb5
  clear hc5 hb5 HM3
  go_wp2_with fail
  refine (opp_good f hf.out _).mono ?_
  rintro e w6 ⟨rfl, hb6⟩
  have HM5 := Lib.hid (HM4.out.below hb6 HM4.out.lt)
  have hc7 := tr hc6 hb6
  clear hc6 hb6 HM4
  go_wp2_with fail
  refine (refFigure_any f _).mono ?_
  rintro e w7 ⟨rfl, rfl⟩
  rw [fig_true hf.out]
  go_wp2_with (go_at_call 23; refine (refNames_c _).mono ?_; rintro e w7 ⟨rfl, hx, hb7⟩; have hcn := hx f.toNat (by omega); clear hx)
  have HM6 := Lib.hid (HM5.out.below hb7 HM5.out.lt)
  have hc8 := tr hc7 hb7
  clear hcn hc7 hb7 HM5
  have hs7 := HM6.out.lt
  have HB1 := Lib.hid (show Blk ((w7.alloc (.cells (arr [0, 0, 0, 0]) 27)).alloc (.cells (arr [0, 0, 0, 0]) 27)) w7.heap.size 27 (arr (backTo f 0)) from (Blk.new _ _ _).alloc _)
  have HB2 := Lib.hid (show Blk ((w7.alloc (.cells (arr [0, 0, 0, 0]) 27)).alloc (.cells (arr [0, 0, 0, 0]) 27)) (w7.heap.size + 1) 27 (arr (awayTo f 0)) from newAt (by simp))
  have hb8 : Below w7.heap.size w7 ((w7.alloc (.cells (arr [0, 0, 0, 0]) 27)).alloc (.cells (arr [0, 0, 0, 0]) 27)) := ((Below.refl _ _).alloc (Nat.le_refl _) _).alloc (by simp) _
  generalize hW : ((w7.alloc (.cells (arr [0, 0, 0, 0]) 27)).alloc (.cells (arr [0, 0, 0, 0]) 27)) = W at HB1 HB2 hb8
  try rw [show ((w7.alloc (.cells #[.int .i64 0, .int .i64 0, .int .i64 0, .int .i64 0] 27)).alloc (.cells #[.int .i64 0, .int .i64 0, .int .i64 0, .int .i64 0] 27)) = W from hW]
  clear hW
  go_loopw [18] (fun i wr => ∃ k : Nat, k ≤ 4 ∧ i = .int .i64 k ∧ Hid (Blk wr w7.heap.size 27 (arr (backTo f k))) ∧ Hid (Blk wr (w7.heap.size + 1) 27 (arr (awayTo f k))) ∧ Below w7.heap.size W wr) (fun i _ => 4 - (intOf i).toNat)
  case atStart => exact ⟨0, by omega, rfl, HB1, HB2, Below.refl _ _⟩
  case round =>
    obtain ⟨k, hk, rfl, H1, H2, hB⟩ := hrel
    have HM7 := Lib.hid (HM6.out.below (hb8.trans hB) hs7)
    by_cases hlt : k < 4
    · have hcs : k = 0 ∨ k = 1 ∨ k = 2 ∨ k = 3 := by omega
      rcases hcs with rfl | rfl | rfl | rfl
      · have hcm : wr.cell? ⟨w3.heap.size, 0, none⟩ = some (.int .i64 (markF f 0)) := by rw [HM7.out.cell 0, arr_get (by rw [markTo_len]; omega), markTo_nth f (by omega)]
        have hbd := markF_bd f 0
        have hd1 : wr.cell? ⟨w7.heap.size, 3, none⟩ = some (.int .i64 (nth (backTo f 0) 3)) := by rw [H1.out.cell 3, arr_get (by rw [backTo_len]; omega)]
        have hf1 := H1.out.frozen 3
        have hd2 : wr.cell? ⟨w7.heap.size + 1, 0, none⟩ = some (.int .i64 (nth (awayTo f 0) 0)) := by rw [H2.out.cell 0, arr_get (by rw [awayTo_len]; omega)]
        have hf2 := H2.out.frozen 0
        have N1 := Lib.hid (show Blk ((wr.setCell ⟨w7.heap.size, 3, none⟩ (.int .i64 (markF f 0))).setCell ⟨w7.heap.size + 1, 0, none⟩ (.int .i64 (3 - markF f 0))) w7.heap.size 27 (arr (backTo f 1)) from ((show arr ((backTo f 0).set 3 (markF f 0)) = arr (backTo f 1) from rfl) ▸ (arr_set _ _ _ ▸ H1.out.set_ 3 (.int .i64 (markF f 0)) : Blk _ _ _ (arr ((backTo f 0).set 3 (markF f 0))))).far (by simp) _)
        have N2 := Lib.hid (show Blk ((wr.setCell ⟨w7.heap.size, 3, none⟩ (.int .i64 (markF f 0))).setCell ⟨w7.heap.size + 1, 0, none⟩ (.int .i64 (3 - markF f 0))) (w7.heap.size + 1) 27 (arr (awayTo f 1)) from (show arr ((awayTo f 0).set 0 (3 - markF f 0)) = arr (awayTo f 1) from rfl) ▸ (arr_set _ _ _ ▸ (H2.out.far (p := ⟨w7.heap.size, 3, none⟩) (by simp) _).set_ 0 (.int .i64 (3 - markF f 0))))
        go_wp2
        go_quiet ((go_at_call 24; exact Calls.quiet_of_same ((refLine_any f 0 hf.out (by omega) _).mono fun _ _ ⟨h, h'⟩ => ⟨h, h'.symm⟩)))
        go_wp2
        go_region
        all_goals go_wp2
        go_roundw
        case rel => exact ⟨1, by omega, by go_num, N1.out, N2.out, ((below_drewN hB _).setCell (Nat.le_refl _) _).setCell (by simp) _⟩
        case measure => simp [intOf]
      · have hcm : wr.cell? ⟨w3.heap.size, 1, none⟩ = some (.int .i64 (markF f 1)) := by rw [HM7.out.cell 1, arr_get (by rw [markTo_len]; omega), markTo_nth f (by omega)]
        have hbd := markF_bd f 1
        have hd1 : wr.cell? ⟨w7.heap.size, 2, none⟩ = some (.int .i64 (nth (backTo f 1) 2)) := by rw [H1.out.cell 2, arr_get (by rw [backTo_len]; omega)]
        have hf1 := H1.out.frozen 2
        have hd2 : wr.cell? ⟨w7.heap.size + 1, 1, none⟩ = some (.int .i64 (nth (awayTo f 1) 1)) := by rw [H2.out.cell 1, arr_get (by rw [awayTo_len]; omega)]
        have hf2 := H2.out.frozen 1
        have N1 := Lib.hid (show Blk ((wr.setCell ⟨w7.heap.size, 2, none⟩ (.int .i64 (markF f 1))).setCell ⟨w7.heap.size + 1, 1, none⟩ (.int .i64 (3 - markF f 1))) w7.heap.size 27 (arr (backTo f 2)) from ((show arr ((backTo f 1).set 2 (markF f 1)) = arr (backTo f 2) from rfl) ▸ (arr_set _ _ _ ▸ H1.out.set_ 2 (.int .i64 (markF f 1)) : Blk _ _ _ (arr ((backTo f 1).set 2 (markF f 1))))).far (by simp) _)
        have N2 := Lib.hid (show Blk ((wr.setCell ⟨w7.heap.size, 2, none⟩ (.int .i64 (markF f 1))).setCell ⟨w7.heap.size + 1, 1, none⟩ (.int .i64 (3 - markF f 1))) (w7.heap.size + 1) 27 (arr (awayTo f 2)) from (show arr ((awayTo f 1).set 1 (3 - markF f 1)) = arr (awayTo f 2) from rfl) ▸ (arr_set _ _ _ ▸ (H2.out.far (p := ⟨w7.heap.size, 2, none⟩) (by simp) _).set_ 1 (.int .i64 (3 - markF f 1))))
        go_wp2
        go_quiet ((go_at_call 24; exact Calls.quiet_of_same ((refLine_any f 1 hf.out (by omega) _).mono fun _ _ ⟨h, h'⟩ => ⟨h, h'.symm⟩)))
        go_wp2
        go_region
        all_goals go_wp2
        go_roundw
        case rel => exact ⟨2, by omega, by go_num, N1.out, N2.out, ((below_drewN hB _).setCell (Nat.le_refl _) _).setCell (by simp) _⟩
        case measure => simp [intOf]
      · have hcm : wr.cell? ⟨w3.heap.size, 2, none⟩ = some (.int .i64 (markF f 2)) := by rw [HM7.out.cell 2, arr_get (by rw [markTo_len]; omega), markTo_nth f (by omega)]
        have hbd := markF_bd f 2
        have hd1 : wr.cell? ⟨w7.heap.size, 1, none⟩ = some (.int .i64 (nth (backTo f 2) 1)) := by rw [H1.out.cell 1, arr_get (by rw [backTo_len]; omega)]
        have hf1 := H1.out.frozen 1
        have hd2 : wr.cell? ⟨w7.heap.size + 1, 2, none⟩ = some (.int .i64 (nth (awayTo f 2) 2)) := by rw [H2.out.cell 2, arr_get (by rw [awayTo_len]; omega)]
        have hf2 := H2.out.frozen 2
        have N1 := Lib.hid (show Blk ((wr.setCell ⟨w7.heap.size, 1, none⟩ (.int .i64 (markF f 2))).setCell ⟨w7.heap.size + 1, 2, none⟩ (.int .i64 (3 - markF f 2))) w7.heap.size 27 (arr (backTo f 3)) from ((show arr ((backTo f 2).set 1 (markF f 2)) = arr (backTo f 3) from rfl) ▸ (arr_set _ _ _ ▸ H1.out.set_ 1 (.int .i64 (markF f 2)) : Blk _ _ _ (arr ((backTo f 2).set 1 (markF f 2))))).far (by simp) _)
        have N2 := Lib.hid (show Blk ((wr.setCell ⟨w7.heap.size, 1, none⟩ (.int .i64 (markF f 2))).setCell ⟨w7.heap.size + 1, 2, none⟩ (.int .i64 (3 - markF f 2))) (w7.heap.size + 1) 27 (arr (awayTo f 3)) from (show arr ((awayTo f 2).set 2 (3 - markF f 2)) = arr (awayTo f 3) from rfl) ▸ (arr_set _ _ _ ▸ (H2.out.far (p := ⟨w7.heap.size, 1, none⟩) (by simp) _).set_ 2 (.int .i64 (3 - markF f 2))))
        go_wp2
        go_quiet ((go_at_call 24; exact Calls.quiet_of_same ((refLine_any f 2 hf.out (by omega) _).mono fun _ _ ⟨h, h'⟩ => ⟨h, h'.symm⟩)))
        go_wp2
        go_region
        all_goals go_wp2
        go_roundw
        case rel => exact ⟨3, by omega, by go_num, N1.out, N2.out, ((below_drewN hB _).setCell (Nat.le_refl _) _).setCell (by simp) _⟩
        case measure => simp [intOf]
      · have hcm : wr.cell? ⟨w3.heap.size, 3, none⟩ = some (.int .i64 (markF f 3)) := by rw [HM7.out.cell 3, arr_get (by rw [markTo_len]; omega), markTo_nth f (by omega)]
        have hbd := markF_bd f 3
        have hd1 : wr.cell? ⟨w7.heap.size, 0, none⟩ = some (.int .i64 (nth (backTo f 3) 0)) := by rw [H1.out.cell 0, arr_get (by rw [backTo_len]; omega)]
        have hf1 := H1.out.frozen 0
        have hd2 : wr.cell? ⟨w7.heap.size + 1, 3, none⟩ = some (.int .i64 (nth (awayTo f 3) 3)) := by rw [H2.out.cell 3, arr_get (by rw [awayTo_len]; omega)]
        have hf2 := H2.out.frozen 3
        have N1 := Lib.hid (show Blk ((wr.setCell ⟨w7.heap.size, 0, none⟩ (.int .i64 (markF f 3))).setCell ⟨w7.heap.size + 1, 3, none⟩ (.int .i64 (3 - markF f 3))) w7.heap.size 27 (arr (backTo f 4)) from ((show arr ((backTo f 3).set 0 (markF f 3)) = arr (backTo f 4) from rfl) ▸ (arr_set _ _ _ ▸ H1.out.set_ 0 (.int .i64 (markF f 3)) : Blk _ _ _ (arr ((backTo f 3).set 0 (markF f 3))))).far (by simp) _)
        have N2 := Lib.hid (show Blk ((wr.setCell ⟨w7.heap.size, 0, none⟩ (.int .i64 (markF f 3))).setCell ⟨w7.heap.size + 1, 3, none⟩ (.int .i64 (3 - markF f 3))) (w7.heap.size + 1) 27 (arr (awayTo f 4)) from (show arr ((awayTo f 3).set 3 (3 - markF f 3)) = arr (awayTo f 4) from rfl) ▸ (arr_set _ _ _ ▸ (H2.out.far (p := ⟨w7.heap.size, 0, none⟩) (by simp) _).set_ 3 (.int .i64 (3 - markF f 3))))
        go_wp2
        go_quiet ((go_at_call 24; exact Calls.quiet_of_same ((refLine_any f 3 hf.out (by omega) _).mono fun _ _ ⟨h, h'⟩ => ⟨h, h'.symm⟩)))
        go_wp2
        go_region
        all_goals go_wp2
        go_roundw
        case rel => exact ⟨4, by omega, by go_num, N1.out, N2.out, ((below_drewN hB _).setCell (Nat.le_refl _) _).setCell (by simp) _⟩
        case measure => simp [intOf]
    · obtain rfl : k = 4 := by omega
      have hb9 := hc8.trans ((hb8.trans hB).mono hc8.size)
      have HI1 := Lib.hid (show (Tryd.prog.info? 27).map (·.size) = some (arr (backTo f 4)).size by rw [arr_size, backTo_len]; exact info_marks)
      have hz2 : w7.heap.size + 1 < wr.heap.size := H2.out.lt
      have d0 : wr.cell? ⟨w7.heap.size + 1, 0, none⟩ = some (.int .i64 (3 - markF f 0)) := by rw [H2.out.cell 0, arr_get (by rw [awayTo_len]; omega)]; rfl
      have d1 : wr.cell? ⟨w7.heap.size + 1, 1, none⟩ = some (.int .i64 (3 - markF f 1)) := by rw [H2.out.cell 1, arr_get (by rw [awayTo_len]; omega)]; rfl
      have d2 : wr.cell? ⟨w7.heap.size + 1, 2, none⟩ = some (.int .i64 (3 - markF f 2)) := by rw [H2.out.cell 2, arr_get (by rw [awayTo_len]; omega)]; rfl
      have d3 : wr.cell? ⟨w7.heap.size + 1, 3, none⟩ = some (.int .i64 (3 - markF f 3)) := by rw [H2.out.cell 3, arr_get (by rw [awayTo_len]; omega)]; rfl
      clear hB hb8 hc8 HM6 HM7 HB1 HB2
      go_wp2_with (refine wpList_load_row rfl 27 (.tmp 16) rfl w7.heap.size rfl 27 (arr (backTo f 4)) (0, 0) _ H1.out Tryd.underlying27 rfl HI1.out ?_)
      refine (refOf_any (backTo f 4) (Lib.hid (backTo_len f 4)) (back_mks f) _).mono ?_
      rintro e wa ⟨rfl, hwa⟩
      rw [back_of f hf.out]
      have hba : Below wr.heap.size wr wa := hwa ▸ (Below.refl _ _).alloc (Nat.le_refl _) _
      replace d0 := (hba.cell (p := ⟨w7.heap.size + 1, 0, none⟩) hz2).trans d0
      replace d1 := (hba.cell (p := ⟨w7.heap.size + 1, 1, none⟩) hz2).trans d1
      replace d2 := (hba.cell (p := ⟨w7.heap.size + 1, 2, none⟩) hz2).trans d2
      replace d3 := (hba.cell (p := ⟨w7.heap.size + 1, 3, none⟩) hz2).trans d3
      have hb10 := tr hb9 hba
      clear hwa hba hb9
      go_wp2_with fail
      refine (refOf_any (awayTo f 4) (Lib.hid (awayTo_len f 4)) (away_mks f) _).mono ?_
      rintro e wb ⟨rfl, hwb⟩
      rw [away_of f hf.out]
      have hb11 : Below w.heap.size w wb := hwb ▸ hb10.alloc hb10.size _
      clear hwb hb10 d0 d1 d2 d3
      go_wp2_with fail
      refine (refFigure_any g _).mono ?_
      rintro e wc ⟨rfl, rfl⟩
      rw [HG.out]
      go_wp2_with (go_at_call 22; refine (known_any _ (hp.below hb11 (Nat.le_refl _)) (hn.below hb11 (Nat.le_refl _))).mono ?_; rintro e w8 ⟨rfl, hbz⟩)
      go_ret
      exact ⟨rfl, tr hb11 hbz⟩
set_option maxRecDepth 100000 in
set_option maxHeartbeats 32000000 in
theorem figures_both (f g : Int) (hf : Fig f) (hg : Hid (Fig g)) (w : World) (hp : Par w) (hn : Nam w) :
    Calls Tryd.prog 3 #[.int .i64 f, .int .i64 g] w fun e w' => e = .returned (.bool true) ∧ Below w.heap.size w w' := by
  have G := guard_marks
  have E3 := Lib.hid (chk_two hf hg.out)
  have V3 := Lib.hid (show sumV f g = xorF f g by unfold sumV; rw [if_pos (chk_two hf hg.out)])
  have HG := Lib.hid (fig_true hg.out)
  have K1 := Lib.hid (chk_one hf)
  obtain ⟨f0, f1⟩ := hf
  have hf : Hid (Fig f) := ⟨f0, f1⟩
  go_enter Tryd.func3, Tryd.ntmps3
  go_wp2_with fail
  refine (checkS_any f _).mono ?_
  rintro e w1 ⟨rfl, hb1⟩
  rw [K1.out]
  go_wp2_with fail
  refine (name_good f hf.out _ (hn.below hb1 (Nat.le_refl _))).mono ?_
  rintro e w2 ⟨rfl, hb2⟩
  have hc2 := tr hb1 hb2
  clear hb1 hb2
  go_wp2_with fail
  refine (marks_good f hf.out _).mono ?_
  rintro e w3 ⟨rfl, hb3⟩
  have hc3 := tr hc2 hb3
  clear hc2 hb3
  have HM := Lib.hid (Blk.new w3 27 (arr [0, 0, 0, 0]))
  have HM2 := Lib.hid (HM.out.row (arr (markTo f 4)))
  have HI := Lib.hid (show (Tryd.prog.info? 27).map (·.size) = some (arr (markTo f 4)).size by rw [arr_size, markTo_len]; exact info_marks)
  have hc4 : Below w.heap.size w ((w3.alloc (.cells (arr [0, 0, 0, 0]) 27)).setRow w3.heap.size (arr (markTo f 4))) := below_setRow (hc3.alloc hc3.size _) hc3.size _
  go_wp2_with (refine wpList_store_row rfl 27 (.tmp 8) (.tmp 29) rfl w3.heap.size (arr (markTo f 4)) rfl rfl 27 _ HM.out HI.out (by rw [arr_size, arr_size, markTo_len]; rfl) (arr_one _) ?_)
  refine (sumS_any f g _).mono ?_
  rintro e w4 ⟨rfl, hb4⟩
  rw [E3.out, V3.out]
  have HM3 := Lib.hid (HM2.out.below hb4 HM2.out.lt)
  have hc5 := tr hc4 hb4
  clear hc4 hb4 hc3 HM HM2
  go_wp2_with fail
  refine (tur_good f hf.out _).mono ?_
  rintro e w5 ⟨rfl, hb5⟩
  have HM4 := Lib.hid (HM3.out.below hb5 HM3.out.lt)
  have hc6 := tr hc5 hb5
  clear hc5 hb5 HM3
  go_wp2_with fail
  refine (opp_good f hf.out _).mono ?_
  rintro e w6 ⟨rfl, hb6⟩
  have HM5 := Lib.hid (HM4.out.below hb6 HM4.out.lt)
  have hc7 := tr hc6 hb6
  clear hc6 hb6 HM4
  go_wp2_with fail
  refine (refFigure_any f _).mono ?_
  rintro e w7 ⟨rfl, rfl⟩
  rw [fig_true hf.out]
  go_wp2_with (go_at_call 23; refine (refNames_c _).mono ?_; rintro e w7 ⟨rfl, hx, hb7⟩; have hcn := hx f.toNat (by omega); clear hx)
  have HM6 := Lib.hid (HM5.out.below hb7 HM5.out.lt)
  have hc8 := tr hc7 hb7
  clear hcn hc7 hb7 HM5
  have hs7 := HM6.out.lt
  have HB1 := Lib.hid (show Blk ((w7.alloc (.cells (arr [0, 0, 0, 0]) 27)).alloc (.cells (arr [0, 0, 0, 0]) 27)) w7.heap.size 27 (arr (backTo f 0)) from (Blk.new _ _ _).alloc _)
  have HB2 := Lib.hid (show Blk ((w7.alloc (.cells (arr [0, 0, 0, 0]) 27)).alloc (.cells (arr [0, 0, 0, 0]) 27)) (w7.heap.size + 1) 27 (arr (awayTo f 0)) from newAt (by simp))
  have hb8 : Below w7.heap.size w7 ((w7.alloc (.cells (arr [0, 0, 0, 0]) 27)).alloc (.cells (arr [0, 0, 0, 0]) 27)) := ((Below.refl _ _).alloc (Nat.le_refl _) _).alloc (by simp) _
  generalize hW : ((w7.alloc (.cells (arr [0, 0, 0, 0]) 27)).alloc (.cells (arr [0, 0, 0, 0]) 27)) = W at HB1 HB2 hb8
  try rw [show ((w7.alloc (.cells #[.int .i64 0, .int .i64 0, .int .i64 0, .int .i64 0] 27)).alloc (.cells #[.int .i64 0, .int .i64 0, .int .i64 0, .int .i64 0] 27)) = W from hW]
  clear hW
  go_loopw [18] (fun i wr => ∃ k : Nat, k ≤ 4 ∧ i = .int .i64 k ∧ Hid (Blk wr w7.heap.size 27 (arr (backTo f k))) ∧ Hid (Blk wr (w7.heap.size + 1) 27 (arr (awayTo f k))) ∧ Below w7.heap.size W wr) (fun i _ => 4 - (intOf i).toNat)
  case atStart => exact ⟨0, by omega, rfl, HB1, HB2, Below.refl _ _⟩
  case round =>
    obtain ⟨k, hk, rfl, H1, H2, hB⟩ := hrel
    have HM7 := Lib.hid (HM6.out.below (hb8.trans hB) hs7)
    by_cases hlt : k < 4
    · have hcs : k = 0 ∨ k = 1 ∨ k = 2 ∨ k = 3 := by omega
      rcases hcs with rfl | rfl | rfl | rfl
      · have hcm : wr.cell? ⟨w3.heap.size, 0, none⟩ = some (.int .i64 (markF f 0)) := by rw [HM7.out.cell 0, arr_get (by rw [markTo_len]; omega), markTo_nth f (by omega)]
        have hbd := markF_bd f 0
        have hd1 : wr.cell? ⟨w7.heap.size, 3, none⟩ = some (.int .i64 (nth (backTo f 0) 3)) := by rw [H1.out.cell 3, arr_get (by rw [backTo_len]; omega)]
        have hf1 := H1.out.frozen 3
        have hd2 : wr.cell? ⟨w7.heap.size + 1, 0, none⟩ = some (.int .i64 (nth (awayTo f 0) 0)) := by rw [H2.out.cell 0, arr_get (by rw [awayTo_len]; omega)]
        have hf2 := H2.out.frozen 0
        have N1 := Lib.hid (show Blk ((wr.setCell ⟨w7.heap.size, 3, none⟩ (.int .i64 (markF f 0))).setCell ⟨w7.heap.size + 1, 0, none⟩ (.int .i64 (3 - markF f 0))) w7.heap.size 27 (arr (backTo f 1)) from ((show arr ((backTo f 0).set 3 (markF f 0)) = arr (backTo f 1) from rfl) ▸ (arr_set _ _ _ ▸ H1.out.set_ 3 (.int .i64 (markF f 0)) : Blk _ _ _ (arr ((backTo f 0).set 3 (markF f 0))))).far (by simp) _)
        have N2 := Lib.hid (show Blk ((wr.setCell ⟨w7.heap.size, 3, none⟩ (.int .i64 (markF f 0))).setCell ⟨w7.heap.size + 1, 0, none⟩ (.int .i64 (3 - markF f 0))) (w7.heap.size + 1) 27 (arr (awayTo f 1)) from (show arr ((awayTo f 0).set 0 (3 - markF f 0)) = arr (awayTo f 1) from rfl) ▸ (arr_set _ _ _ ▸ (H2.out.far (p := ⟨w7.heap.size, 3, none⟩) (by simp) _).set_ 0 (.int .i64 (3 - markF f 0))))
        go_wp2
        go_quiet ((go_at_call 24; exact Calls.quiet_of_same ((refLine_any f 0 hf.out (by omega) _).mono fun _ _ ⟨h, h'⟩ => ⟨h, h'.symm⟩)))
        go_wp2
        go_region
        all_goals go_wp2
        go_roundw
        case rel => exact ⟨1, by omega, by go_num, N1.out, N2.out, ((below_drewN hB _).setCell (Nat.le_refl _) _).setCell (by simp) _⟩
        case measure => simp [intOf]
      · have hcm : wr.cell? ⟨w3.heap.size, 1, none⟩ = some (.int .i64 (markF f 1)) := by rw [HM7.out.cell 1, arr_get (by rw [markTo_len]; omega), markTo_nth f (by omega)]
        have hbd := markF_bd f 1
        have hd1 : wr.cell? ⟨w7.heap.size, 2, none⟩ = some (.int .i64 (nth (backTo f 1) 2)) := by rw [H1.out.cell 2, arr_get (by rw [backTo_len]; omega)]
        have hf1 := H1.out.frozen 2
        have hd2 : wr.cell? ⟨w7.heap.size + 1, 1, none⟩ = some (.int .i64 (nth (awayTo f 1) 1)) := by rw [H2.out.cell 1, arr_get (by rw [awayTo_len]; omega)]
        have hf2 := H2.out.frozen 1
        have N1 := Lib.hid (show Blk ((wr.setCell ⟨w7.heap.size, 2, none⟩ (.int .i64 (markF f 1))).setCell ⟨w7.heap.size + 1, 1, none⟩ (.int .i64 (3 - markF f 1))) w7.heap.size 27 (arr (backTo f 2)) from ((show arr ((backTo f 1).set 2 (markF f 1)) = arr (backTo f 2) from rfl) ▸ (arr_set _ _ _ ▸ H1.out.set_ 2 (.int .i64 (markF f 1)) : Blk _ _ _ (arr ((backTo f 1).set 2 (markF f 1))))).far (by simp) _)
        have N2 := Lib.hid (show Blk ((wr.setCell ⟨w7.heap.size, 2, none⟩ (.int .i64 (markF f 1))).setCell ⟨w7.heap.size + 1, 1, none⟩ (.int .i64 (3 - markF f 1))) (w7.heap.size + 1) 27 (arr (awayTo f 2)) from (show arr ((awayTo f 1).set 1 (3 - markF f 1)) = arr (awayTo f 2) from rfl) ▸ (arr_set _ _ _ ▸ (H2.out.far (p := ⟨w7.heap.size, 2, none⟩) (by simp) _).set_ 1 (.int .i64 (3 - markF f 1))))
        go_wp2
        go_quiet ((go_at_call 24; exact Calls.quiet_of_same ((refLine_any f 1 hf.out (by omega) _).mono fun _ _ ⟨h, h'⟩ => ⟨h, h'.symm⟩)))
        go_wp2
        go_region
        all_goals go_wp2
        go_roundw
        case rel => exact ⟨2, by omega, by go_num, N1.out, N2.out, ((below_drewN hB _).setCell (Nat.le_refl _) _).setCell (by simp) _⟩
        case measure => simp [intOf]
      · have hcm : wr.cell? ⟨w3.heap.size, 2, none⟩ = some (.int .i64 (markF f 2)) := by rw [HM7.out.cell 2, arr_get (by rw [markTo_len]; omega), markTo_nth f (by omega)]
        have hbd := markF_bd f 2
        have hd1 : wr.cell? ⟨w7.heap.size, 1, none⟩ = some (.int .i64 (nth (backTo f 2) 1)) := by rw [H1.out.cell 1, arr_get (by rw [backTo_len]; omega)]
        have hf1 := H1.out.frozen 1
        have hd2 : wr.cell? ⟨w7.heap.size + 1, 2, none⟩ = some (.int .i64 (nth (awayTo f 2) 2)) := by rw [H2.out.cell 2, arr_get (by rw [awayTo_len]; omega)]
        have hf2 := H2.out.frozen 2
        have N1 := Lib.hid (show Blk ((wr.setCell ⟨w7.heap.size, 1, none⟩ (.int .i64 (markF f 2))).setCell ⟨w7.heap.size + 1, 2, none⟩ (.int .i64 (3 - markF f 2))) w7.heap.size 27 (arr (backTo f 3)) from ((show arr ((backTo f 2).set 1 (markF f 2)) = arr (backTo f 3) from rfl) ▸ (arr_set _ _ _ ▸ H1.out.set_ 1 (.int .i64 (markF f 2)) : Blk _ _ _ (arr ((backTo f 2).set 1 (markF f 2))))).far (by simp) _)
        have N2 := Lib.hid (show Blk ((wr.setCell ⟨w7.heap.size, 1, none⟩ (.int .i64 (markF f 2))).setCell ⟨w7.heap.size + 1, 2, none⟩ (.int .i64 (3 - markF f 2))) (w7.heap.size + 1) 27 (arr (awayTo f 3)) from (show arr ((awayTo f 2).set 2 (3 - markF f 2)) = arr (awayTo f 3) from rfl) ▸ (arr_set _ _ _ ▸ (H2.out.far (p := ⟨w7.heap.size, 1, none⟩) (by simp) _).set_ 2 (.int .i64 (3 - markF f 2))))
        go_wp2
        go_quiet ((go_at_call 24; exact Calls.quiet_of_same ((refLine_any f 2 hf.out (by omega) _).mono fun _ _ ⟨h, h'⟩ => ⟨h, h'.symm⟩)))
        go_wp2
        go_region
        all_goals go_wp2
        go_roundw
        case rel => exact ⟨3, by omega, by go_num, N1.out, N2.out, ((below_drewN hB _).setCell (Nat.le_refl _) _).setCell (by simp) _⟩
        case measure => simp [intOf]
      · have hcm : wr.cell? ⟨w3.heap.size, 3, none⟩ = some (.int .i64 (markF f 3)) := by rw [HM7.out.cell 3, arr_get (by rw [markTo_len]; omega), markTo_nth f (by omega)]
        have hbd := markF_bd f 3
        have hd1 : wr.cell? ⟨w7.heap.size, 0, none⟩ = some (.int .i64 (nth (backTo f 3) 0)) := by rw [H1.out.cell 0, arr_get (by rw [backTo_len]; omega)]
        have hf1 := H1.out.frozen 0
        have hd2 : wr.cell? ⟨w7.heap.size + 1, 3, none⟩ = some (.int .i64 (nth (awayTo f 3) 3)) := by rw [H2.out.cell 3, arr_get (by rw [awayTo_len]; omega)]
        have hf2 := H2.out.frozen 3
        have N1 := Lib.hid (show Blk ((wr.setCell ⟨w7.heap.size, 0, none⟩ (.int .i64 (markF f 3))).setCell ⟨w7.heap.size + 1, 3, none⟩ (.int .i64 (3 - markF f 3))) w7.heap.size 27 (arr (backTo f 4)) from ((show arr ((backTo f 3).set 0 (markF f 3)) = arr (backTo f 4) from rfl) ▸ (arr_set _ _ _ ▸ H1.out.set_ 0 (.int .i64 (markF f 3)) : Blk _ _ _ (arr ((backTo f 3).set 0 (markF f 3))))).far (by simp) _)
        have N2 := Lib.hid (show Blk ((wr.setCell ⟨w7.heap.size, 0, none⟩ (.int .i64 (markF f 3))).setCell ⟨w7.heap.size + 1, 3, none⟩ (.int .i64 (3 - markF f 3))) (w7.heap.size + 1) 27 (arr (awayTo f 4)) from (show arr ((awayTo f 3).set 3 (3 - markF f 3)) = arr (awayTo f 4) from rfl) ▸ (arr_set _ _ _ ▸ (H2.out.far (p := ⟨w7.heap.size, 0, none⟩) (by simp) _).set_ 3 (.int .i64 (3 - markF f 3))))
        go_wp2
        go_quiet ((go_at_call 24; exact Calls.quiet_of_same ((refLine_any f 3 hf.out (by omega) _).mono fun _ _ ⟨h, h'⟩ => ⟨h, h'.symm⟩)))
        go_wp2
        go_region
        all_goals go_wp2
        go_roundw
        case rel => exact ⟨4, by omega, by go_num, N1.out, N2.out, ((below_drewN hB _).setCell (Nat.le_refl _) _).setCell (by simp) _⟩
        case measure => simp [intOf]
    · obtain rfl : k = 4 := by omega
      have hb9 := hc8.trans ((hb8.trans hB).mono hc8.size)
      have HI1 := Lib.hid (show (Tryd.prog.info? 27).map (·.size) = some (arr (backTo f 4)).size by rw [arr_size, backTo_len]; exact info_marks)
      have hz2 : w7.heap.size + 1 < wr.heap.size := H2.out.lt
      have d0 : wr.cell? ⟨w7.heap.size + 1, 0, none⟩ = some (.int .i64 (3 - markF f 0)) := by rw [H2.out.cell 0, arr_get (by rw [awayTo_len]; omega)]; rfl
      have d1 : wr.cell? ⟨w7.heap.size + 1, 1, none⟩ = some (.int .i64 (3 - markF f 1)) := by rw [H2.out.cell 1, arr_get (by rw [awayTo_len]; omega)]; rfl
      have d2 : wr.cell? ⟨w7.heap.size + 1, 2, none⟩ = some (.int .i64 (3 - markF f 2)) := by rw [H2.out.cell 2, arr_get (by rw [awayTo_len]; omega)]; rfl
      have d3 : wr.cell? ⟨w7.heap.size + 1, 3, none⟩ = some (.int .i64 (3 - markF f 3)) := by rw [H2.out.cell 3, arr_get (by rw [awayTo_len]; omega)]; rfl
      clear hB hb8 hc8 HM6 HM7 HB1 HB2
      go_wp2_with (refine wpList_load_row rfl 27 (.tmp 16) rfl w7.heap.size rfl 27 (arr (backTo f 4)) (0, 0) _ H1.out Tryd.underlying27 rfl HI1.out ?_)
      refine (refOf_any (backTo f 4) (Lib.hid (backTo_len f 4)) (back_mks f) _).mono ?_
      rintro e wa ⟨rfl, hwa⟩
      rw [back_of f hf.out]
      have hba : Below wr.heap.size wr wa := hwa ▸ (Below.refl _ _).alloc (Nat.le_refl _) _
      replace d0 := (hba.cell (p := ⟨w7.heap.size + 1, 0, none⟩) hz2).trans d0
      replace d1 := (hba.cell (p := ⟨w7.heap.size + 1, 1, none⟩) hz2).trans d1
      replace d2 := (hba.cell (p := ⟨w7.heap.size + 1, 2, none⟩) hz2).trans d2
      replace d3 := (hba.cell (p := ⟨w7.heap.size + 1, 3, none⟩) hz2).trans d3
      have hb10 := tr hb9 hba
      clear hwa hba hb9
      go_wp2_with fail
      refine (refOf_any (awayTo f 4) (Lib.hid (awayTo_len f 4)) (away_mks f) _).mono ?_
      rintro e wb ⟨rfl, hwb⟩
      rw [away_of f hf.out]
      have hb11 : Below w.heap.size w wb := hwb ▸ hb10.alloc hb10.size _
      clear hwb hb10 d0 d1 d2 d3
      go_wp2_with fail
      refine (refFigure_any g _).mono ?_
      rintro e wc ⟨rfl, rfl⟩
      rw [HG.out]
      go_wp2_with fail
      refine (refSum_any f g hf.out hg.out _).mono ?_
      rintro e wd ⟨rfl, hbd⟩
      have hb12 := tr hb11 hbd
      clear hb11 hbd
      go_wp2_with (go_at_call 22; refine (known_any _ (hp.below hb12 (Nat.le_refl _)) (hn.below hb12 (Nat.le_refl _))).mono ?_; rintro e w8 ⟨rfl, hbz⟩)
      go_ret
      exact ⟨rfl, tr hb12 hbz⟩
theorem figures_any (f g : Int) (w : World) (hp : Par w) (hn : Nam w) :
    Calls Tryd.prog 3 #[.int .i64 f, .int .i64 g] w fun e w' => e = .returned (.bool true) ∧ Below w.heap.size w w' := by
  by_cases hf : Fig f
  · by_cases hg : Fig g
    · exact figures_both f g hf hg w hp hn
    · exact figures_one f g hf hg w hp hn
  · exact figures_bad f g hf w hp hn
end Go.Proofs.YtgaljmhhagldlaaDoor
