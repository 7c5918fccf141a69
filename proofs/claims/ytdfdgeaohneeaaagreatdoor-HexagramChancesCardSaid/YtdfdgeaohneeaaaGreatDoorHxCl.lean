/-
  Package hexagram: Lines.
-/
import Derived.Test.YtdfdgeaohneeaaaGreatDoorHxC
namespace Go.Proofs.YtdfdgeaohneeaaaGreatDoor
open Go Go.RowKit
set_option linter.unusedVariables false

/-- The lines of a cast, if both are hexagrams. -/
def linesV (x y : Int) : List Int := if chkH [x, y] = 0 then (List.range 6).map (fun i : Nat => castV x y i) else zero6
theorem linesV_length (x y : Int) : (linesV x y).length = 6 := by unfold linesV zero6; split <;> simp
set_option maxRecDepth 100000 in
set_option maxHeartbeats 1000000 in
theorem lines_any (x y : Int) (w : World) :
    Calls Tryz.prog 26 #[.int .i64 x, .int .i64 y] w fun e w' => e = .returned (.tuple #[.agg (arr (linesV x y)), .int .i64 (chkH [x, y])]) ∧ Below w.heap.size w w' := by
  have HI := Lib.hid (show (Tryz.prog.info? 54).map (·.size) = some (arr (linesV x y)).size by rw [arr_size, linesV_length]; exact info_six)
  have HO := Lib.hid (show (arr (List.replicate 6 0)).size = (arr (linesV x y)).size by rw [arr_size, arr_size, linesV_length]; rfl)
  have HR := Lib.hid (Blk.new w 54 (arr (List.replicate 6 0)))
  have hB0 : Below w.heap.size w (w.alloc (.cells (arr (List.replicate 6 0)) 54)) := below1 _ _
  rcases chkH_or [x, y] with h | h
  · have hz := chkH_zero h
    obtain ⟨a1, a2⟩ := hz 0 (by simp)
    obtain ⟨b1, b2⟩ := hz 1 (by simp)
    have H := Lib.hid h
    have E := Lib.hid (show linesV x y = (List.range 6).map (fun i : Nat => castV x y i) by unfold linesV; rw [if_pos h])
    clear h hz
    simp [nth] at a1 a2 b1 b2
    go_enter Tryz.func26, Tryz.ntmps26
    go_wp2_with fail
    refine (checkH_any _ [x, y] 2 _ (by simp) (reads_at _ _ [x, y] _ (by simp))).mono ?_
    rintro e w1 ⟨rfl, hb1⟩
    rw [H.out]
    have hb2 : Below w.heap.size w w1 := hB0.trans ((below1 _ (.cells (arr [x, y]) 3)).mono (by simp) |>.trans (hb1.mono (show w.heap.size ≤ _ by simp; omega)))
    have HR1 := Lib.hid ((Blk.alloc HR.out (.cells (arr [x, y]) 3)).below hb1 (by simp; omega))
    have HN := Lib.hid (newAt (W := w1) (o := .cells (arr (List.replicate 6 0)) 54) rfl)
    have hsz := hb2.size
    clear hb1 hB0 HR
    go_wp2_with (first | (refine wpList_store_row rfl 54 (.tmp 7) (.tmp 17) rfl w1.heap.size (arr (List.replicate 6 0)) rfl rfl 54 _ HN.out info_six rfl (arr_one _) ?_) | fail)
    have HX := Lib.hid (Blk.row HN.out (arr (List.replicate 6 0)))
    have hb3 : Below w.heap.size w ((w1.alloc (.cells (arr (List.replicate 6 0)) 54)).setRow w1.heap.size (arr (List.replicate 6 0))) := below_setRow (hb2.alloc hsz _) hsz _
    have HR2 := Lib.hid (show Blk ((w1.alloc (.cells (arr (List.replicate 6 0)) 54)).setRow w1.heap.size (arr (List.replicate 6 0))) w.heap.size 54 (arr (List.replicate 6 0)) from HR1.out.below (below_setRow (below1 _ _) (Nat.le_refl _) _) HR1.out.lt)
    clear hb2 HN
    obtain ⟨W, hW⟩ : ∃ W, (w1.alloc (.cells (arr (List.replicate 6 0)) 54)).setRow w1.heap.size (arr (List.replicate 6 0)) = W := ⟨_, rfl⟩
    rw [hW] at HX hb3 HR2
    have e0 : (w1.alloc (.cells #[.int .i64 0, .int .i64 0, .int .i64 0, .int .i64 0, .int .i64 0, .int .i64 0] 54)).setRow w1.heap.size (arr [0, 0, 0, 0, 0, 0]) = W := hW
    rw [e0]
    have hg : w.heap.size < w1.heap.size := HR1.out.lt
    clear hW e0 HR1
    go_loopw [18] (fun i wr => ∃ k : Nat, k ≤ 6 ∧ i = .int .i64 k ∧ Hid (Blk wr w1.heap.size 54 (arr (fillTo (fun j => castV x y j) 6 k))) ∧ Below w1.heap.size W wr) (fun i _ => 6 - (intOf i).toNat)
    case atStart => exact ⟨0, by omega, rfl, by rw [fillTo_zero]; exact HX, Below.refl _ _⟩
    case round =>
      obtain ⟨k, hk, rfl, HXk, hB⟩ := hrel
      have Hl := Lib.hid (fillTo_length (fun j => castV x y j) 6 k)
      by_cases hlt : k < 6
      · have hc5 : wr.cell? ⟨w1.heap.size, k, none⟩ = some (.int .i64 (nth (fillTo (fun j => castV x y j) 6 k) k)) := by rw [HXk.out.cell k, arr_get (by have := Hl.out; omega)]
        have hf5 := HXk.out.frozen k
        go_wp2_with (go_at_call 61; refine (cast_any x y k a1 a2 b1 b2 (by omega) (by omega) _).mono ?_; rintro e w' ⟨rfl, rfl⟩)
        go_roundw
        case rel => exact ⟨k + 1, by omega, by go_num, by have := HXk.out.set_ k (.int .i64 (castV x y k)); rw [arr_set, fillTo_succ (fun j => castV x y j) 6 k] at this; exact this, hB.setCell (by simp) _⟩
        case measure => simp [intOf]; omega
      · obtain rfl : k = 6 := by omega
        have HR := Lib.hid (HR2.out.below hB hg)
        rw [fillTo_all (fun j => castV x y j) 6, ← E.out] at HXk
        have hB4 := hb3.trans (hB.mono hsz)
        clear hB hb3 HX HR2
        go_wp2_with (first | (refine wpList_load_row rfl 54 (.tmp 7) rfl w1.heap.size rfl 54 (arr (linesV x y)) (0, 0) _ HXk.out Tryz.underlying54 rfl HI.out ?_) | (refine wpList_store_row rfl 54 (.tmp 4) (.tmp 28) rfl w.heap.size (arr (linesV x y)) rfl rfl 54 _ HR.out HI.out HO.out (arr_one _) ?_))
        exact bodyPost_ret (v := .tuple #[.agg (arr (linesV x y)), .int .i64 0]) (results_cell_slot Tryz.results26 _ _ w.heap.size 54 _ (0, 0) _ rfl (HR.out.row _) Tryz.underlying54 rfl HI.out _ rfl) rfl ⟨by rw [H.out], below_setRow hB4 (by omega) _⟩
  · have H := Lib.hid h
    have E := Lib.hid (show linesV x y = zero6 by unfold linesV; rw [if_neg (by omega)])
    clear h
    go_enter Tryz.func26, Tryz.ntmps26
    go_wp2_with fail
    refine (checkH_any _ [x, y] 2 _ (by simp) (reads_at _ _ [x, y] _ (by simp))).mono ?_
    rintro e w1 ⟨rfl, hb1⟩
    rw [H.out]
    have hb2 : Below w.heap.size w w1 := hB0.trans ((below1 _ (.cells (arr [x, y]) 3)).mono (by simp) |>.trans (hb1.mono (show w.heap.size ≤ _ by simp; omega)))
    have HR1 := Lib.hid ((Blk.alloc HR.out (.cells (arr [x, y]) 3)).below hb1 (by simp; omega))
    clear hB0 hb1
    go_wp2_with (refine wpList_store_row rfl 54 (.tmp 4) (.tmp 15) rfl w.heap.size (arr (List.replicate 6 0)) rfl rfl 54 _ HR1.out info_six rfl (arr_one _) ?_)
    exact bodyPost_ret (v := .tuple #[.agg (arr (List.replicate 6 0)), .int .i64 3]) (results_cell_slot Tryz.results26 _ _ w.heap.size 54 (arr (List.replicate 6 0)) (0, 0) _ rfl (HR1.out.row _) Tryz.underlying54 rfl info_six _ rfl) rfl ⟨by rw [H.out, E.out]; rfl, below_setRow hb2 (by omega) _⟩
end Go.Proofs.YtdfdgeaohneeaaaGreatDoor
