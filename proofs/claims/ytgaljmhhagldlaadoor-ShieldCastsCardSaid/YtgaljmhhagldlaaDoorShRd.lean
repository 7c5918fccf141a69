/-
  The reference of chapter 3: charts, copies and ways.
-/
import Derived.Test.YtgaljmhhagldlaaDoorShRc
import Derived.Test.YtgaljmhhagldlaaDoorShH
namespace Go.Proofs.YtgaljmhhagldlaaDoor
open Go Go.RowKit
set_option linter.unusedVariables false

set_option maxRecDepth 100000 in
set_option maxHeartbeats 4000000 in
theorem refDerive_any (m0 m1 m2 m3 : Int) (hm : ∀ k, k < 4 → Fig (nth [m0, m1, m2, m3] k)) (w : World) :
    Calls Tryd.prog 35 #[.agg (arr [m0, m1, m2, m3])] w fun e w' => e = .returned (.agg (arr (dP [m0, m1, m2, m3] 16))) ∧ Below w.heap.size w w' := by
  have HM := Lib.hid (Blk.new w 46 (arr [m0, m1, m2, m3]))
  have HR := Lib.hid (show Blk (((w.alloc (.cells (arr [m0, m1, m2, m3]) 46)).alloc (.cells (arr (List.replicate 16 0)) 56)).alloc (.cells (arr (dP [m0, m1, m2, m3] 4)) 56)) (w.heap.size + 1) 56 (arr (List.replicate 16 0)) from Blk.alloc (newAt (by simp)) _)
  have HX := Lib.hid (show Blk (((w.alloc (.cells (arr [m0, m1, m2, m3]) 46)).alloc (.cells (arr (List.replicate 16 0)) 56)).alloc (.cells (arr (dP [m0, m1, m2, m3] 4)) 56)) (w.heap.size + 2) 56 (arr (dP [m0, m1, m2, m3] 4)) from newAt (by simp))
  have hB : Below w.heap.size w (((w.alloc (.cells (arr [m0, m1, m2, m3]) 46)).alloc (.cells (arr (List.replicate 16 0)) 56)).alloc (.cells (arr (dP [m0, m1, m2, m3] 4)) 56)) := (((Below.refl _ _).alloc (Nat.le_refl _) _).alloc (by simp) _).alloc (by simp; omega) _
  have hfig := Lib.hid (fun k (hk : k ≤ 12) => dTo_figs (m := [m0, m1, m2, m3]) rfl hm hk)
  have c0 : (arr [m0, m1, m2, m3])[0]? = some (.int .i64 m0) := rfl
  have c1 : (arr [m0, m1, m2, m3])[1]? = some (.int .i64 m1) := rfl
  have c2 : (arr [m0, m1, m2, m3])[2]? = some (.int .i64 m2) := rfl
  have c3 : (arr [m0, m1, m2, m3])[3]? = some (.int .i64 m3) := rfl
  clear hm
  go_enter Tryd.func35, Tryd.ntmps35
  go_wp2
  generalize hW : (((w.alloc (.cells (arr [m0, m1, m2, m3]) 46)).alloc (.cells (arr (List.replicate 16 0)) 56)).alloc (.cells (arr (dP [m0, m1, m2, m3] 4)) 56)) = W at HR HX hB
  rw [show (((w.alloc (.cells (arr [m0, m1, m2, m3]) 46)).alloc (.cells #[.int .i64 0, .int .i64 0, .int .i64 0, .int .i64 0, .int .i64 0, .int .i64 0, .int .i64 0, .int .i64 0, .int .i64 0, .int .i64 0, .int .i64 0, .int .i64 0, .int .i64 0, .int .i64 0, .int .i64 0, .int .i64 0] 56)).alloc (.cells #[.int .i64 m0, .int .i64 m1, .int .i64 m2, .int .i64 m3, .int .i64 0, .int .i64 0, .int .i64 0, .int .i64 0, .int .i64 0, .int .i64 0, .int .i64 0, .int .i64 0, .int .i64 0, .int .i64 0, .int .i64 0, .int .i64 0] 56)) = W from hW]
  clear hW c0 c1 c2 c3 HM
  have hwz : w.heap.size + 2 < W.heap.size := HX.out.lt
  go_loopw [4] (fun i wr => ∃ p : Nat, 4 ≤ p ∧ p ≤ 16 ∧ i = .int .i64 p ∧ Hid (Blk wr (w.heap.size + 2) 56 (arr (dP [m0, m1, m2, m3] p))) ∧ Below (w.heap.size + 2) W wr) (fun i _ => 16 - (intOf i).toNat)
  case atStart => exact ⟨4, by omega, by omega, rfl, HX, Below.refl _ _⟩
  case round =>
    obtain ⟨p, hp4, hp16, rfl, HXr, hBr⟩ := hrel
    have Hlen := Lib.hid (show (dP [m0, m1, m2, m3] p).length = 16 from dTo_length [m0, m1, m2, m3] rfl (p - 4))
    have hsz : w.heap.size + 2 < wr.heap.size := HXr.out.lt
    have HI := Lib.hid (show (Tryd.prog.info? 56).map (·.size) = some (arr (dP [m0, m1, m2, m3] p)).size by rw [arr_size, Hlen.out]; exact info_shield)
    by_cases hlt : p < 16
    · go_wp2_with (refine wpList_load_row rfl 56 (.tmp 3) rfl (w.heap.size + 2) rfl 56 (arr (dP [m0, m1, m2, m3] p)) (0, 0) _ HXr.out Tryd.underlying56 rfl HI.out ?_)
      refine (refFollows_any (dP [m0, m1, m2, m3] p) Hlen (hfig.out (p - 4) (by omega)) p hp4 hlt _).mono ?_
      rintro e w5 ⟨rfl, hb5⟩
      have HX5 := Lib.hid (HXr.out.below hb5 hsz)
      have hc5 : w5.cell? ⟨w.heap.size + 2, p, none⟩ = some (.int .i64 (nth (dP [m0, m1, m2, m3] p) p)) := by rw [HX5.out.cell p, arr_get (by have := Hlen.out; omega)]
      have hf5 := HX5.out.frozen p
      go_wp2
      go_roundw
      case rel => exact ⟨p + 1, by omega, by omega, by go_num, by have := HX5.out.set_ p (.int .i64 (followF (dP [m0, m1, m2, m3] p) p)); rw [arr_set, ← dP_succ _ hp4] at this; exact this, (hBr.trans (hb5.mono (by omega))).setCell (by simp) _⟩
      case measure => simp [intOf]; omega
    · obtain rfl : p = 16 := by omega
      have HR2 := Lib.hid (HR.out.below hBr (by omega))
      have HO := Lib.hid (show (arr (List.replicate 16 0)).size = (arr (dP [m0, m1, m2, m3] 16)).size by rw [arr_size, arr_size, Hlen.out]; rfl)
      have HW : Below w.heap.size w wr := hB.trans (hBr.mono (by omega))
      clear hBr hB
      go_wp2_with (first | (refine wpList_load_row rfl 56 (.tmp 3) rfl (w.heap.size + 2) rfl 56 (arr (dP [m0, m1, m2, m3] 16)) (0, 0) _ HXr.out Tryd.underlying56 rfl HI.out ?_) | (refine wpList_store_row rfl 56 (.tmp 2) (.tmp 23) rfl (w.heap.size + 1) (arr (dP [m0, m1, m2, m3] 16)) rfl rfl 56 _ HR2.out HI.out HO.out (arr_one _) ?_))
      exact bodyPost_ret (v := .agg (arr (dP [m0, m1, m2, m3] 16))) (results_cell_row Tryd.results35 _ _ (w.heap.size + 1) 56 _ (0, 0) _ rfl (HR2.out.row _) Tryd.underlying56 rfl HI.out) rfl ⟨rfl, below_setRow HW (by omega) _⟩

/-- The four figures of a number, as the reference has them. -/
theorem refMothers_any (n : Int) (h0 : 0 ≤ n) (h1 : n ≤ 65535) (w : World) :
    Calls Tryd.prog 32 #[.int .i64 n] w fun e w' => e = .returned (.agg (arr (nibs n))) ∧ Below w.heap.size w w' := by
  have HR := Lib.hid (Blk.new w 46 (arr [0, 0, 0, 0]))
  have e1 : n / 4096 % 16 = n / 4096 := by omega
  have E1 := Lib.hid (show arr (nibs n) = #[.int .i64 (n / 4096), .int .i64 (n / 256 % 16), .int .i64 (n / 16 % 16), .int .i64 (n % 16)] by unfold nibs; rw [e1]; rfl)
  clear e1
  go_enter Tryd.func32, Tryd.ntmps32
  go_wp2
  exact bodyPost_ret (v := .agg (arr (nibs n))) (results_cell_row Tryd.results32 _ _ w.heap.size 46 _ (0, 0) _ rfl (by rw [E1.out]; exact newAt rfl) Tryd.underlying46 rfl (by rw [arr_size]; exact info_moth)) rfl ⟨rfl, (Below.refl _ _).alloc (Nat.le_refl _) _⟩
end Go.Proofs.YtgaljmhhagldlaaDoor
