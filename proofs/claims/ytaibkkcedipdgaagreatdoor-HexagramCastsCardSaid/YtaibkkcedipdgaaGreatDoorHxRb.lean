/-
  The reference of chapter 4: lines of two hexagrams.
-/
import Derived.Test.YtaibkkcedipdgaaGreatDoorHxRa
namespace Go.Proofs.YtaibkkcedipdgaaGreatDoor
open Go Go.RowKit
set_option linter.unusedVariables false

theorem hexB_of {x : Int} (h : Hex x) : hexB x = true := by unfold hexB; simpa [Hex] using h
theorem hexB_not {x : Int} (h : ¬ Hex x) : hexB x = false := by unfold hexB; simpa [Hex] using h
theorem sixL_nth (h : Int) {k : Nat} (hk : k < 6) : nth (sixL h) k = bI (bitB h k) := by
  rw [nth_eq (by rw [sixL_length]; exact hk)]; simp [sixL]
theorem chkH_two {x y : Int} : chkH [x, y] = 0 ↔ Hex x ∧ Hex y := by
  constructor
  · intro h
    exact ⟨chkH_zero h 0 (by simp), chkH_zero h 1 (by simp)⟩
  · rintro ⟨a, b⟩
    refine chkH_of fun k hk => ?_
    have : k = 0 ∨ k = 1 := by simp at hk; omega
    rcases this with rfl | rfl
    · exact a
    · exact b
theorem Blk.rowFar {w : World} {g : Nat} {t : TypeId} {cs : Array Value} {b : Nat} (h : Blk w g t cs) (hb : g ≠ b) (ds : Array Value) : Blk (w.setRow b ds) g t cs := by
  unfold Blk at h ⊢
  simp only [World.setRow]
  rw [Array.getElem?_modify, if_neg (by omega)]
  exact h
theorem Blk.newN {W : World} {n : Nat} (t : TypeId) (cs : Array Value) (h : W.heap.size = n) : Blk (W.alloc (.cells cs t)) n t cs := by subst h; exact Blk.new _ _ _
set_option maxRecDepth 100000 in
set_option maxHeartbeats 600000 in
theorem refLines_ok (x y : Int) (hx : Hex x) (hy : Hex y) (w : World) :
    Calls Tryz.prog 17 #[.int .i64 x, .int .i64 y] w fun e w' => e = .returned (.tuple #[.agg (arr (linesV x y)), .int .i64 0]) ∧ Below w.heap.size w w' := by
  have HI := Lib.hid (show (Tryz.prog.info? 22).map (·.size) = some (arr (linesV x y)).size by rw [arr_size, linesV_length]; exact info_six)
  have HO := Lib.hid (show (arr (List.replicate 6 0)).size = (arr (linesV x y)).size by rw [arr_size, arr_size, linesV_length]; rfl)
  have HSx := Lib.hid (show (Tryz.prog.info? 22).map (·.size) = some (arr (sixL x)).size by rw [arr_size, sixL_length]; exact info_six)
  have HSy := Lib.hid (show (Tryz.prog.info? 22).map (·.size) = some (arr (sixL y)).size by rw [arr_size, sixL_length]; exact info_six)
  have HTx := Lib.hid (show (arr (List.replicate 6 0)).size = (arr (sixL x)).size by rw [arr_size, arr_size, sixL_length]; rfl)
  have HTy := Lib.hid (show (arr (List.replicate 6 0)).size = (arr (sixL y)).size by rw [arr_size, arr_size, sixL_length]; rfl)
  have HR := Lib.hid (Blk.new w 22 (arr (List.replicate 6 0)))
  have hB0 : Below w.heap.size w (w.alloc (.cells (arr (List.replicate 6 0)) 22)) := below1 _ _
  have E := Lib.hid (show linesV x y = (List.range 6).map (fun i : Nat => castV x y i) by unfold linesV; rw [if_pos (chkH_two.2 ⟨hx, hy⟩)])
  have H1 := Lib.hid (hexB_of hx)
  have H2 := Lib.hid (hexB_of hy)
  have K1 := Lib.hid hx
  have K2 := Lib.hid hy
  clear hx hy
  go_enter Tryz.func17, Tryz.ntmps17
  go_wp2_with fail
  refine (refHex_any x _).mono ?_
  rintro e w' ⟨rfl, rfl⟩
  rw [H1.out]
  go_wp2_with fail
  refine (refHex_any y _).mono ?_
  rintro e w' ⟨rfl, rfl⟩
  rw [H2.out]
  go_wp2_with fail
  refine (refSix_any x K1.out _).mono ?_
  rintro e w1 ⟨rfl, hb1⟩
  have hb2 : Below w.heap.size w w1 := hB0.trans (hb1.mono (by simp))
  have HR1 := Lib.hid (HR.out.below hb1 (by simp))
  clear hb1 hB0 HR
  go_wp2_with fail
  refine (refSix_any y K2.out _).mono ?_
  rintro e w2 ⟨rfl, hb3⟩
  have hb4 := tr hb2 hb3
  have HR2 := Lib.hid (HR1.out.below hb3 HR1.out.lt)
  clear hb2 hb3 HR1
  have h0 := HR2.out.lt
  have N0 := Lib.hid (show Blk (((w2.alloc (.cells (arr (List.replicate 6 0)) 22)).alloc (.cells (arr (List.replicate 6 0)) 22)).alloc (.cells (arr (List.replicate 6 0)) 22)) w2.heap.size 22 (arr (List.replicate 6 0)) from ((Blk.new w2 _ _).alloc _).alloc _)
  have L0 := Lib.hid (show Blk (((w2.alloc (.cells (arr (List.replicate 6 0)) 22)).alloc (.cells (arr (List.replicate 6 0)) 22)).alloc (.cells (arr (List.replicate 6 0)) 22)) (w2.heap.size + 2) 22 (arr (List.replicate 6 0)) from Blk.newN _ _ (by simp))
  have M1 := Lib.hid (show Blk ((((w2.alloc (.cells (arr (List.replicate 6 0)) 22)).alloc (.cells (arr (List.replicate 6 0)) 22)).alloc (.cells (arr (List.replicate 6 0)) 22)).setRow w2.heap.size (arr (sixL x))) (w2.heap.size + 1) 22 (arr (List.replicate 6 0)) from ((Blk.newN _ _ (by simp)).alloc _).rowFar (by omega) _)
  have L2 := Lib.hid (show Blk (((((w2.alloc (.cells (arr (List.replicate 6 0)) 22)).alloc (.cells (arr (List.replicate 6 0)) 22)).alloc (.cells (arr (List.replicate 6 0)) 22)).setRow w2.heap.size (arr (sixL x))).setRow (w2.heap.size + 1) (arr (sixL y))) (w2.heap.size + 2) 22 (arr (List.replicate 6 0)) from (L0.out.rowFar (by omega) _).rowFar (by omega) _)
  go_wp2_with (first
    | (refine wpList_store_row rfl 22 (.tmp 6) (.tmp 20) rfl w2.heap.size (arr (sixL x)) rfl rfl 22 _ N0.out HSx.out HTx.out (arr_one _) ?_)
    | (refine wpList_store_row rfl 22 (.tmp 7) (.tmp 22) rfl (w2.heap.size + 1) (arr (sixL y)) rfl rfl 22 _ M1.out HSy.out HTy.out (arr_one _) ?_)
    | (refine wpList_store_row rfl 22 (.tmp 8) (.tmp 23) rfl (w2.heap.size + 2) (arr (List.replicate 6 0)) rfl rfl 22 _ L2.out info_six rfl (arr_one _) ?_) | fail)
  have HX := Lib.hid (show Blk ((((((w2.alloc (.cells (arr (List.replicate 6 0)) 22)).alloc (.cells (arr (List.replicate 6 0)) 22)).alloc (.cells (arr (List.replicate 6 0)) 22)).setRow w2.heap.size (arr (sixL x))).setRow (w2.heap.size + 1) (arr (sixL y))).setRow (w2.heap.size + 2) (arr (List.replicate 6 0))) (w2.heap.size + 2) 22 (arr (List.replicate 6 0)) from L2.out.row _)
  have HA := Lib.hid (show Blk ((((((w2.alloc (.cells (arr (List.replicate 6 0)) 22)).alloc (.cells (arr (List.replicate 6 0)) 22)).alloc (.cells (arr (List.replicate 6 0)) 22)).setRow w2.heap.size (arr (sixL x))).setRow (w2.heap.size + 1) (arr (sixL y))).setRow (w2.heap.size + 2) (arr (List.replicate 6 0))) w2.heap.size 22 (arr (sixL x)) from ((N0.out.row _).rowFar (by omega) _).rowFar (by omega) _)
  have HC := Lib.hid (show Blk ((((((w2.alloc (.cells (arr (List.replicate 6 0)) 22)).alloc (.cells (arr (List.replicate 6 0)) 22)).alloc (.cells (arr (List.replicate 6 0)) 22)).setRow w2.heap.size (arr (sixL x))).setRow (w2.heap.size + 1) (arr (sixL y))).setRow (w2.heap.size + 2) (arr (List.replicate 6 0))) (w2.heap.size + 1) 22 (arr (sixL y)) from (M1.out.row _).rowFar (by omega) _)
  have hb5 : Below w2.heap.size w2 ((((((w2.alloc (.cells (arr (List.replicate 6 0)) 22)).alloc (.cells (arr (List.replicate 6 0)) 22)).alloc (.cells (arr (List.replicate 6 0)) 22)).setRow w2.heap.size (arr (sixL x))).setRow (w2.heap.size + 1) (arr (sixL y))).setRow (w2.heap.size + 2) (arr (List.replicate 6 0))) := below_setRow (below_setRow (below_setRow ((((Below.refl _ _).alloc (Nat.le_refl _) _).alloc (by simp) _).alloc (by simp; omega) _) (by omega) _) (by omega) _) (by omega) _
  have HR3 := Lib.hid (HR2.out.below hb5 h0)
  have hb6 := tr hb4 hb5
  clear hb4 hb5 HR2 N0 L0 M1 L2
  obtain ⟨W, hW⟩ : ∃ W, ((((((w2.alloc (.cells (arr (List.replicate 6 0)) 22)).alloc (.cells (arr (List.replicate 6 0)) 22)).alloc (.cells (arr (List.replicate 6 0)) 22)).setRow w2.heap.size (arr (sixL x))).setRow (w2.heap.size + 1) (arr (sixL y))).setRow (w2.heap.size + 2) (arr (List.replicate 6 0))) = W := ⟨_, rfl⟩
  rw [hW] at HX HA HC hb6 HR3
  have e0 : ((((((w2.alloc (.cells #[.int .i64 0, .int .i64 0, .int .i64 0, .int .i64 0, .int .i64 0, .int .i64 0] 22)).alloc (.cells #[.int .i64 0, .int .i64 0, .int .i64 0, .int .i64 0, .int .i64 0, .int .i64 0] 22)).alloc (.cells #[.int .i64 0, .int .i64 0, .int .i64 0, .int .i64 0, .int .i64 0, .int .i64 0] 22)).setRow w2.heap.size (arr (sixL x))).setRow (w2.heap.size + 1) (arr (sixL y))).setRow (w2.heap.size + 2) (arr [0, 0, 0, 0, 0, 0])) = W := hW
  rw [e0]
  clear hW e0 HTx HTy HSx HSy H1 H2
  go_loopw [9] (fun i wr => ∃ k : Nat, k ≤ 6 ∧ i = .int .i64 k ∧ Hid (Blk wr (w2.heap.size + 2) 22 (arr (fillTo (fun j => castV x y j) 6 k))) ∧ Below (w2.heap.size + 2) W wr) (fun i _ => 6 - (intOf i).toNat)
  case atStart => exact ⟨0, by omega, rfl, by rw [fillTo_zero]; exact HX, Below.refl _ _⟩
  case round =>
    obtain ⟨k, hk, rfl, HXk, hB⟩ := hrel
    have Hl := Lib.hid (fillTo_length (fun j => castV x y j) 6 k)
    by_cases hlt : k < 6
    · have hc5 : wr.cell? ⟨w2.heap.size + 2, k, none⟩ = some (.int .i64 (nth (fillTo (fun j => castV x y j) 6 k) k)) := by rw [HXk.out.cell k, arr_get (by have := Hl.out; omega)]
      have hf5 := HXk.out.frozen k
      have ha : wr.cell? ⟨w2.heap.size, k, none⟩ = some (.int .i64 (bI (bitB x k))) := by rw [(HA.out.below hB (by omega)).cell k, arr_get (by rw [sixL_length]; exact hlt), sixL_nth x hlt]
      have hc : wr.cell? ⟨w2.heap.size + 1, k, none⟩ = some (.int .i64 (bI (bitB y k))) := by rw [(HC.out.below hB (by omega)).cell k, arr_get (by rw [sixL_length]; exact hlt), sixL_nth y hlt]
      cases hbx : bitB x k <;> cases hby : bitB y k
      · have HE := Lib.hid (show castV x y k = 8 by simp [castV, hbx, hby])
        rw [hbx] at ha; rw [hby] at hc
        simp only [bI, Bool.false_eq_true, ↓reduceIte] at ha hc
        clear hbx hby
        go_wp2_with fail
        go_quiet (fail)
        go_wp2_with fail
        go_roundw
        case rel => exact ⟨k + 1, by omega, by go_num, by have := HXk.out.set_ k (.int .i64 (castV x y k)); rw [arr_set, fillTo_succ (fun j => castV x y j) 6 k, HE.out] at this; exact this, below_drewN (hB.setCell (show w2.heap.size + 2 ≤ w2.heap.size + 1 + 1 by omega) _) _⟩
        case measure => simp [intOf]; omega
      · have HE := Lib.hid (show castV x y k = 6 by simp [castV, hbx, hby])
        rw [hbx] at ha; rw [hby] at hc
        simp only [bI, Bool.false_eq_true, ↓reduceIte] at ha hc
        clear hbx hby
        go_wp2_with fail
        go_quiet (fail)
        go_wp2_with fail
        go_roundw
        case rel => exact ⟨k + 1, by omega, by go_num, by have := (HXk.out.set_ k (.int .i64 8)).set_ k (.int .i64 (castV x y k)); rw [arr_set, arr_set, List.set_set, fillTo_succ (fun j => castV x y j) 6 k, HE.out] at this; exact this, (below_drewN (hB.setCell (show w2.heap.size + 2 ≤ w2.heap.size + 1 + 1 by omega) _) _).setCell (show w2.heap.size + 2 ≤ w2.heap.size + 1 + 1 by omega) _⟩
        case measure => simp [intOf]; omega
      · have HE := Lib.hid (show castV x y k = 9 by simp [castV, hbx, hby])
        rw [hbx] at ha; rw [hby] at hc
        simp only [bI, Bool.false_eq_true, ↓reduceIte] at ha hc
        clear hbx hby
        go_wp2_with fail
        go_quiet (fail)
        go_wp2_with fail
        go_roundw
        case rel => exact ⟨k + 1, by omega, by go_num, by have := (HXk.out.set_ k (.int .i64 7)).set_ k (.int .i64 (castV x y k)); rw [arr_set, arr_set, List.set_set, fillTo_succ (fun j => castV x y j) 6 k, HE.out] at this; exact this, (below_drewN (hB.setCell (show w2.heap.size + 2 ≤ w2.heap.size + 1 + 1 by omega) _) _).setCell (show w2.heap.size + 2 ≤ w2.heap.size + 1 + 1 by omega) _⟩
        case measure => simp [intOf]; omega
      · have HE := Lib.hid (show castV x y k = 7 by simp [castV, hbx, hby])
        rw [hbx] at ha; rw [hby] at hc
        simp only [bI, ↓reduceIte] at ha hc
        clear hbx hby
        go_wp2_with fail
        go_quiet (fail)
        go_wp2_with fail
        go_roundw
        case rel => exact ⟨k + 1, by omega, by go_num, by have := HXk.out.set_ k (.int .i64 (castV x y k)); rw [arr_set, fillTo_succ (fun j => castV x y j) 6 k, HE.out] at this; exact this, below_drewN (hB.setCell (show w2.heap.size + 2 ≤ w2.heap.size + 1 + 1 by omega) _) _⟩
        case measure => simp [intOf]; omega
    · obtain rfl : k = 6 := by omega
      have HR := Lib.hid (HR3.out.below hB (by omega))
      rw [fillTo_all (fun j => castV x y j) 6, ← E.out] at HXk
      have hB4 := hb6.trans (hB.mono (by omega))
      clear hB hb6 HX HR3 HA HC
      go_wp2_with (first | (refine wpList_load_row rfl 22 (.tmp 8) rfl (w2.heap.size + 2) rfl 22 (arr (linesV x y)) (0, 0) _ HXk.out Tryz.underlying22 rfl HI.out ?_) | (refine wpList_store_row rfl 22 (.tmp 4) (.tmp 48) rfl w.heap.size (arr (linesV x y)) rfl rfl 22 _ HR.out HI.out HO.out (arr_one _) ?_) | fail)
      exact bodyPost_ret (v := .tuple #[.agg (arr (linesV x y)), .int .i64 0]) (results_cell_slot Tryz.results17 _ _ w.heap.size 22 _ (0, 0) _ rfl (HR.out.row _) Tryz.underlying22 rfl HI.out _ rfl) rfl ⟨rfl, below_setRow hB4 (by omega) _⟩

set_option maxRecDepth 100000 in
set_option maxHeartbeats 1000000 in
theorem refLines_any (x y : Int) (w : World) :
    Calls Tryz.prog 17 #[.int .i64 x, .int .i64 y] w fun e w' => e = .returned (.tuple #[.agg (arr (linesV x y)), .int .i64 (chkH [x, y])]) ∧ Below w.heap.size w w' := by
  by_cases hx : Hex x
  · by_cases hy : Hex y
    · rw [chkH_two.2 ⟨hx, hy⟩]
      exact refLines_ok x y hx hy w
    · have E1 := Lib.hid (show linesV x y = zero6 by unfold linesV; rw [if_neg (fun h => hy (chkH_two.1 h).2)])
      have E2 := Lib.hid (show chkH [x, y] = 3 from (chkH_or _).resolve_left fun h => hy (chkH_two.1 h).2)
      have H1 := Lib.hid (hexB_of hx)
      have H2 := Lib.hid (hexB_not hy)
      have HR := Lib.hid (Blk.new w 22 (arr (List.replicate 6 0)))
      clear hx hy
      go_enter Tryz.func17, Tryz.ntmps17
      go_wp2_with fail
      refine (refHex_any x _).mono ?_
      rintro e w' ⟨rfl, rfl⟩
      rw [H1.out]
      go_wp2_with fail
      refine (refHex_any y _).mono ?_
      rintro e w' ⟨rfl, rfl⟩
      rw [H2.out]
      go_wp2_with (first | (refine wpList_store_row rfl 22 (.tmp 4) (.tmp 18) rfl w.heap.size (arr (List.replicate 6 0)) rfl rfl 22 _ HR.out info_six rfl (arr_one _) ?_) | fail)
      exact bodyPost_ret (v := .tuple #[.agg (arr (List.replicate 6 0)), .int .i64 3]) (results_cell_slot Tryz.results17 _ _ w.heap.size 22 (arr (List.replicate 6 0)) (0, 0) _ rfl (HR.out.row _) Tryz.underlying22 rfl info_six _ rfl) rfl ⟨by rw [E1.out, E2.out]; rfl, below_setRow (below1 _ _) (Nat.le_refl _) _⟩
  · have E1 := Lib.hid (show linesV x y = zero6 by unfold linesV; rw [if_neg (fun h => hx (chkH_two.1 h).1)])
    have E2 := Lib.hid (show chkH [x, y] = 3 from (chkH_or _).resolve_left fun h => hx (chkH_two.1 h).1)
    have H1 := Lib.hid (hexB_not hx)
    have HR := Lib.hid (Blk.new w 22 (arr (List.replicate 6 0)))
    clear hx
    go_enter Tryz.func17, Tryz.ntmps17
    go_wp2_with fail
    refine (refHex_any x _).mono ?_
    rintro e w' ⟨rfl, rfl⟩
    rw [H1.out]
    go_wp2_with (first | (refine wpList_store_row rfl 22 (.tmp 4) (.tmp 18) rfl w.heap.size (arr (List.replicate 6 0)) rfl rfl 22 _ HR.out info_six rfl (arr_one _) ?_) | fail)
    exact bodyPost_ret (v := .tuple #[.agg (arr (List.replicate 6 0)), .int .i64 3]) (results_cell_slot Tryz.results17 _ _ w.heap.size 22 (arr (List.replicate 6 0)) (0, 0) _ rfl (HR.out.row _) Tryz.underlying22 rfl info_six _ rfl) rfl ⟨by rw [E1.out, E2.out]; rfl, below_setRow (below1 _ _) (Nat.le_refl _) _⟩
end Go.Proofs.YtaibkkcedipdgaaGreatDoor
