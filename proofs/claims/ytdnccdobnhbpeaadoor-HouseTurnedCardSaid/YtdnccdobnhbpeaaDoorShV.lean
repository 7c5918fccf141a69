/-
  Package shield: marks of figures, figures of marks, figures of names.
-/
import Derived.Test.YtdnccdobnhbpeaaDoorShK
import Derived.Test.YtdnccdobnhbpeaaDoorShM
namespace Go.Proofs.YtdnccdobnhbpeaaDoor
open Go Go.RowKit
set_option linter.unusedVariables false

/-- The marks of a line. -/
def markF (f : Int) (k : Nat) : Int := if bitB f k = true then 1 else 2
def markTo (f : Int) (k : Nat) : List Int := (List.range 4).map fun j => if j < k then markF f j else 0
theorem markTo_len (f : Int) (k : Nat) : (markTo f k).length = 4 := by simp [markTo]
theorem markTo_succ (f : Int) {k : Nat} (hk : k < 4) : (markTo f k).set k (markF f k) = markTo f (k + 1) := by
  have e : k = 0 ∨ k = 1 ∨ k = 2 ∨ k = 3 := by omega
  rcases e with rfl | rfl | rfl | rfl <;> rfl
theorem markTo_set2 (f v : Int) {k : Nat} (hk : k < 4) : ((markTo f k).set k v).set k (markF f k) = markTo f (k + 1) := by rw [List.set_set, markTo_succ f hk]
/-- What Marks returns. -/
def marksV (f : Int) : List Int := if chkF [f] = 0 then markTo f 4 else [0, 0, 0, 0]
theorem marksV_len (f : Int) : (marksV f).length = 4 := by unfold marksV; split; exact markTo_len f 4; rfl
theorem info_marks : (Tryd.prog.info? 111).map (·.size) = some 4 := by kernel_rfl

set_option maxRecDepth 100000 in
set_option maxHeartbeats 4000000 in
theorem marks_any (f : Int) (w : World) :
    Calls Tryd.prog 74 #[.int .i64 f] w fun e w' => e = .returned (.tuple #[.agg (arr (marksV f)), .int .i64 (chkF [f])]) ∧ Below w.heap.size w w' := by
  have HR := Lib.hid (Blk.new w 111 (arr [0, 0, 0, 0]))
  have hB0 : Below w.heap.size w (w.alloc (.cells (arr [0, 0, 0, 0]) 111)) := (Below.refl _ _).alloc (Nat.le_refl _) _
  rcases chkF_or [f] with h | h
  · obtain ⟨a1, a2⟩ := chkF_zero h 0 (by simp)
    have H := Lib.hid h
    have E := Lib.hid (show marksV f = markTo f 4 by unfold marksV; rw [if_pos h])
    clear h
    simp [nth] at a1 a2
    go_enter Tryd.func74, Tryd.ntmps74
    go_wp2_with fail
    refine (checkF_any _ [f] 1 _ (by simp) (reads_at _ _ [f] _ (by simp))).mono ?_
    rintro e w1 ⟨rfl, hb1⟩
    rw [H.out]
    have hb2 : Below w.heap.size w w1 := (hB0.alloc (by simp) _).trans (hb1.mono (by simp; omega))
    have HR1 := Lib.hid (show Blk w1 w.heap.size 111 (arr [0, 0, 0, 0]) from (HR.out.alloc _).below hb1 (by simp; omega))
    have hs1 := HR1.out.lt
    have HM := Lib.hid (show Blk (w1.alloc (.cells (arr [0, 0, 0, 0]) 111)) w1.heap.size 111 (arr (markTo f 0)) from Blk.new _ _ _)
    clear hb1 hB0 HR
    go_wp2
    generalize hW : (w1.alloc (.cells (arr [0, 0, 0, 0]) 111)) = W2 at HM
    rw [show (w1.alloc (.cells #[.int .i64 0, .int .i64 0, .int .i64 0, .int .i64 0] 111)) = W2 from hW]
    have hb3 : Below w1.heap.size w1 W2 := hW ▸ (Below.refl _ _).alloc (Nat.le_refl _) _
    clear hW
    go_loopw [15] (fun i wr => ∃ k : Nat, k ≤ 4 ∧ i = .int .i64 k ∧ Hid (Blk wr w1.heap.size 111 (arr (markTo f k))) ∧ Below w1.heap.size W2 wr) (fun i _ => 4 - (intOf i).toNat)
    case atStart => exact ⟨0, by omega, rfl, HM, Below.refl _ _⟩
    case round =>
      obtain ⟨k, hk, rfl, HX, hB⟩ := hrel
      by_cases hlt : k < 4
      · have hc : wr.cell? ⟨w1.heap.size, k, none⟩ = some (.int .i64 (nth (markTo f k) k)) := by rw [HX.out.cell k, arr_get (by rw [markTo_len]; exact hlt)]
        have hf := HX.out.frozen k
        have H2 := Lib.hid (HX.out.set_ k (.int .i64 2))
        have hc2 : (wr.setCell ⟨w1.heap.size, k, none⟩ (.int .i64 2)).cell? ⟨w1.heap.size, k, none⟩ = some (.int .i64 2) := by rw [H2.out.cell k, arr_set, arr_get (by simp [markTo_len, hlt])]; rw [nth_set (by rw [markTo_len]; exact hlt), if_pos rfl]
        have hf2 := H2.out.frozen k
        cases hb : bitB f k
        · have HB := Lib.hid hb
          have HK := Lib.hid (show (markTo f k).set k 2 = markTo f (k + 1) by rw [← markTo_succ f hlt]; unfold markF; rw [hb]; rfl)
          clear hb
          go_wp2_with (go_at_call 79; refine (single_any f k a1 a2 (by omega) (by omega) _).mono ?_; rintro e w' ⟨rfl, rfl⟩; rw [HB.out])
          go_roundw
          case rel => exact ⟨k + 1, by omega, by go_num, by have := H2.out; rw [arr_set, HK.out] at this; exact this, hB.setCell (Nat.le_refl _) _⟩
          case measure => simp [intOf]; omega
        · have HB := Lib.hid hb
          have HK := Lib.hid (show ((markTo f k).set k 2).set k 1 = markTo f (k + 1) by rw [← markTo_set2 f 2 hlt]; unfold markF; rw [hb]; rfl)
          clear hb
          go_wp2_with (go_at_call 79; refine (single_any f k a1 a2 (by omega) (by omega) _).mono ?_; rintro e w' ⟨rfl, rfl⟩; rw [HB.out])
          go_roundw
          case rel => exact ⟨k + 1, by omega, by go_num, by have := H2.out.set_ k (.int .i64 1); rw [arr_set, arr_set, HK.out] at this; exact this, (hB.setCell (Nat.le_refl _) _).setCell (Nat.le_refl _) _⟩
          case measure => simp [intOf]; omega
      · obtain rfl : k = 4 := by omega
        have HR2 := Lib.hid (HR1.out.below (hb3.trans hB) hs1)
        have hb4 := hb2.trans ((hb3.trans hB).mono (by omega))
        have HI := Lib.hid (show (Tryd.prog.info? 111).map (·.size) = some (arr (markTo f 4)).size by rw [arr_size, markTo_len]; exact info_marks)
        clear hB hb3 hb2 HR1
        go_wp2_with (first | (refine wpList_load_row rfl 111 (.tmp 5) rfl w1.heap.size rfl 111 (arr (markTo f 4)) (0, 0) _ HX.out Tryd.underlying111 rfl HI.out ?_) | (refine wpList_store_row rfl 111 (.tmp 2) (.tmp 26) rfl w.heap.size (arr (markTo f 4)) rfl rfl 111 _ HR2.out HI.out (by rw [arr_size, arr_size, markTo_len]; rfl) (arr_one _) ?_))
        exact bodyPost_ret (v := .tuple #[.agg (arr (markTo f 4)), .int .i64 0]) (results_cell_slot Tryd.results74 _ _ w.heap.size 111 (arr (markTo f 4)) (0, 0) _ rfl (HR2.out.row _) Tryd.underlying111 rfl HI.out _ rfl) rfl ⟨by rw [H.out, E.out], below_setRow hb4 (Nat.le_refl _) _⟩
  · have H := Lib.hid h
    have E := Lib.hid (show marksV f = [0, 0, 0, 0] by unfold marksV; rw [if_neg (by omega)])
    clear h
    go_enter Tryd.func74, Tryd.ntmps74
    go_wp2_with fail
    refine (checkF_any _ [f] 1 _ (by simp) (reads_at _ _ [f] _ (by simp))).mono ?_
    rintro e w1 ⟨rfl, hb1⟩
    rw [H.out]
    have hb2 : Below w.heap.size w w1 := (hB0.alloc (by simp) _).trans (hb1.mono (by simp; omega))
    have HR1 := Lib.hid (show Blk w1 w.heap.size 111 (arr [0, 0, 0, 0]) from (HR.out.alloc _).below hb1 (by simp; omega))
    clear hb1 hB0 HR
    go_wp2_with (refine wpList_store_row rfl 111 (.tmp 2) (.tmp 12) rfl w.heap.size (arr [0, 0, 0, 0]) rfl rfl 111 _ HR1.out info_marks rfl (arr_one _) ?_)
    exact bodyPost_ret (v := .tuple #[.agg (arr [0, 0, 0, 0]), .int .i64 2]) (results_cell_slot Tryd.results74 _ _ w.heap.size 111 (arr [0, 0, 0, 0]) (0, 0) _ rfl (HR1.out.row _) Tryd.underlying111 rfl info_marks _ rfl) rfl ⟨by rw [H.out, E.out], below_setRow hb2 (Nat.le_refl _) _⟩
end Go.Proofs.YtdnccdobnhbpeaaDoor
