/-
  Package house: Of, the houses of a chart, at whatever figures.
-/
import Derived.Test.YtojlopfjhhiilaaDoorHoB
import Derived.Deep.RegionLaw
import Derived.Laws.CopyOwn
namespace Go.Proofs.YtojlopfjhhiilaaDoor
open Go Go.RowKit
set_option linter.unusedVariables false

def zeros12 : List Int := [0, 0, 0, 0, 0, 0, 0, 0, 0, 0, 0, 0]
def ofE (s : List Int) : Int := if chkF s = 0 then (if wrongV s = [] then 0 else 30) else 2
def ofH (s : List Int) : List Int := if chkF s = 0 ∧ wrongV s = [] then s.take 12 else zeros12
theorem ofH_len {s : List Int} (h : s.length = 16) : (ofH s).length = 12 := by unfold ofH; split <;> simp [h, zeros12]

set_option maxRecDepth 100000 in
set_option maxHeartbeats 2000000 in
theorem of_bad1 (s : List Int) (hs : s.length = 16) (h : chkF s = 2) (w : World) (hp : Par w) :
    Calls Tryd.prog 7 #[.agg (arr s)] w fun e w' => e = .returned (.tuple #[.agg (arr zeros12), .int .i64 2]) ∧ Below w.heap.size w w' := by
  have hB0 : Below w.heap.size w ((w.alloc (.cells (arr s) 24)).alloc (.cells (arr zeros12) 26)) := ((Below.refl _ _).alloc (Nat.le_refl _) _).alloc (by simp) _
  have HM := Lib.hid (Blk.alloc (Blk.new w 24 (arr s)) (.cells (arr zeros12) 26))
  have HR : Hid (Blk ((w.alloc (.cells (arr s) 24)).alloc (.cells (arr zeros12) 26)) (w.heap.size + 1) 26 (arr zeros12)) := Lib.hid (newAt (by simp))
  have HI := Lib.hid (show (Tryd.prog.info? 24).map (·.size) = some (arr s).size by rw [arr_size, hs]; exact info_shield)
  have H := Lib.hid h
  have E := Lib.hid (show wrongV s = [] by unfold wrongV; rw [if_neg (by omega)])
  clear h
  go_enter Tryd.func7, Tryd.ntmps7
  go_wp2_with (refine wpList_load_row rfl 24 (.tmp 1) rfl w.heap.size rfl 24 (arr s) (0, 0) _ HM.out Tryd.underlying24 rfl HI.out ?_)
  refine (wrong_any s hs _ (hp.below hB0 (Nat.le_refl _))).mono ?_
  rintro e w1 ⟨⟨q, c, rfl, _⟩, hb1⟩
  rw [H.out]
  have HR1 := Lib.hid (HR.out.below hb1 HR.out.lt)
  have hb2 : Below w.heap.size w w1 := hB0.trans (hb1.mono (by simp; omega))
  clear hB0 hb1
  go_wp2_with (refine wpList_store_row rfl 26 (.tmp 2) (.tmp 14) rfl (w.heap.size + 1) (arr zeros12) rfl rfl 26 _ HR1.out info_houses rfl (arr_one _) ?_)
  exact bodyPost_ret (v := .tuple #[.agg (arr zeros12), .int .i64 2]) (results_cell_slot Tryd.results7 _ _ (w.heap.size + 1) 26 (arr zeros12) (0, 0) _ rfl (HR1.out.row _) Tryd.underlying26 rfl info_houses _ rfl) rfl ⟨rfl, below_setRow hb2 (by omega) _⟩

set_option maxRecDepth 100000 in
set_option maxHeartbeats 2000000 in
theorem of_bad2 (s : List Int) (hs : s.length = 16) (h : chkF s = 0) (hw : wrongV s ≠ []) (w : World) (hp : Par w) :
    Calls Tryd.prog 7 #[.agg (arr s)] w fun e w' => e = .returned (.tuple #[.agg (arr zeros12), .int .i64 30]) ∧ Below w.heap.size w w' := by
  have hB0 : Below w.heap.size w ((w.alloc (.cells (arr s) 24)).alloc (.cells (arr zeros12) 26)) := ((Below.refl _ _).alloc (Nat.le_refl _) _).alloc (by simp) _
  have HM := Lib.hid (Blk.alloc (Blk.new w 24 (arr s)) (.cells (arr zeros12) 26))
  have HR : Hid (Blk ((w.alloc (.cells (arr s) 24)).alloc (.cells (arr zeros12) 26)) (w.heap.size + 1) 26 (arr zeros12)) := Lib.hid (newAt (by simp))
  have HI := Lib.hid (show (Tryd.prog.info? 24).map (·.size) = some (arr s).size by rw [arr_size, hs]; exact info_shield)
  have H := Lib.hid h
  have hlen : 0 < (wrongV s).length := List.length_pos_iff.2 hw
  clear h hw
  go_enter Tryd.func7, Tryd.ntmps7
  go_wp2_with (refine wpList_load_row rfl 24 (.tmp 1) rfl w.heap.size rfl 24 (arr s) (0, 0) _ HM.out Tryd.underlying24 rfl HI.out ?_)
  refine (wrong_any s hs _ (hp.below hB0 (Nat.le_refl _))).mono ?_
  rintro e w1 ⟨⟨q, c, rfl, _⟩, hb1⟩
  rw [H.out]
  have HR1 := Lib.hid (HR.out.below hb1 HR.out.lt)
  have hb2 : Below w.heap.size w w1 := hB0.trans (hb1.mono (by simp; omega))
  clear hB0 hb1
  obtain ⟨N, hN⟩ : ∃ N, (wrongV s).length = N := ⟨_, rfl⟩
  rw [hN] at hlen ⊢
  clear hN
  go_wp2_with (refine wpList_store_row rfl 26 (.tmp 2) (.tmp 19) rfl (w.heap.size + 1) (arr zeros12) rfl rfl 26 _ HR1.out info_houses rfl (arr_one _) ?_)
  exact bodyPost_ret (v := .tuple #[.agg (arr zeros12), .int .i64 30]) (results_cell_slot Tryd.results7 _ _ (w.heap.size + 1) 26 (arr zeros12) (0, 0) _ rfl (HR1.out.row _) Tryd.underlying26 rfl info_houses _ rfl) rfl ⟨rfl, below_setRow hb2 (by omega) _⟩

set_option maxRecDepth 100000 in
set_option maxHeartbeats 2000000 in
theorem of_good (s : List Int) (hs : s.length = 16) (h : chkF s = 0) (hw : wrongV s = []) (w : World) (hp : Par w) :
    Calls Tryd.prog 7 #[.agg (arr s)] w fun e w' => e = .returned (.tuple #[.agg (arr (s.take 12)), .int .i64 0]) ∧ Below w.heap.size w w' := by
  have hB0 : Below w.heap.size w ((w.alloc (.cells (arr s) 24)).alloc (.cells (arr zeros12) 26)) := ((Below.refl _ _).alloc (Nat.le_refl _) _).alloc (by simp) _
  have HM := Lib.hid (Blk.alloc (Blk.new w 24 (arr s)) (.cells (arr zeros12) 26))
  have HR : Hid (Blk ((w.alloc (.cells (arr s) 24)).alloc (.cells (arr zeros12) 26)) (w.heap.size + 1) 26 (arr zeros12)) := Lib.hid (newAt (by simp))
  have HI := Lib.hid (show (Tryd.prog.info? 24).map (·.size) = some (arr s).size by rw [arr_size, hs]; exact info_shield)
  have H := Lib.hid h
  have HL := Lib.hid hs
  have E := Lib.hid hw
  clear h hw
  go_enter Tryd.func7, Tryd.ntmps7
  go_wp2_with (refine wpList_load_row rfl 24 (.tmp 1) rfl w.heap.size rfl 24 (arr s) (0, 0) _ HM.out Tryd.underlying24 rfl HI.out ?_)
  refine (wrong_any s hs _ (hp.below hB0 (Nat.le_refl _))).mono ?_
  rintro e w1 ⟨⟨q, c, rfl, _⟩, hb1⟩
  rw [H.out, E.out]
  have HR1 := Lib.hid (HR.out.below hb1 HR.out.lt)
  have HM1 := Lib.hid (HM.out.below hb1 (by simp; omega))
  have hb2 : Below w.heap.size w w1 := hB0.trans (hb1.mono (by simp; omega))
  clear hB0 hb1 hs
  have hlen12 : (s.take 12).length = 12 := by rw [List.length_take, HL.out]; rfl
  have hsrc : ∀ j v, ((s.take 12).map (Value.int .i64))[j]? = some v → w1.cell? ((⟨w.heap.size, 0, none⟩ : Addr).add j) = some v := fun j v hj => by
    refine HM1.out.at_ j v ?_
    have hjl : j < 12 := by
      have := (List.getElem?_eq_some_iff.1 hj).1
      simpa [HL.out] using this
    rw [List.getElem?_map, List.getElem?_take, if_pos hjl] at hj
    simpa [arr] using hj
  have HLn := Lib.hid hlen12
  clear hlen12
  go_wp2_with fail
  go_region_law (refine step_copy_splice rfl (.tmp 21) (.tmp 22) 44 44 rfl 22 Tryd.underlying44 info_fig (some ⟨w1.heap.size, 0, none⟩) (some ⟨w.heap.size, 0, none⟩) 12 12 16 16 rfl rfl w1.heap.size 0 (List.replicate 12 (.int .i64 0)) 26 (newAt (by simp)) ((s.take 12).map (Value.int .i64)) (by rw [List.length_map, HLn.out]; rfl) (fun _ => ⟨rfl, _, rfl, fun j v hj => (((Below.refl _ _).alloc (Nat.le_refl _) _ : Below w1.heap.size w1 (w1.alloc _)).cell (by have := World.block_lt_of_cell? w1 _ (hsrc j v hj); exact this)).trans (hsrc j v hj)⟩) (by rw [List.length_map, HLn.out]; simp) (fun v hv => by obtain ⟨x, _, rfl⟩ := List.mem_map.1 hv; rfl) w1.heap.size w1 (((Below.refl _ _).alloc (Nat.le_refl _) _).drew) (Nat.le_refl _) ?_; intro w4 hg4 hb4)
  have hx : Blk w4 w1.heap.size 26 (arr (s.take 12)) := by
    have e : splice (List.replicate 12 (Value.int .i64 0)) 0 ((s.take 12).map (Value.int .i64)) = (s.take 12).map (Value.int .i64) := by
      simp [splice, HL.out]
    have := hg4.out
    rw [e] at this
    exact this
  have Hx := Lib.hid hx
  have hbW : Below w.heap.size w w4 := hb2.trans (hb4.mono hb2.size)
  have HR4 := Lib.hid (HR1.out.below hb4 HR1.out.lt)
  have HIh := Lib.hid (show (Tryd.prog.info? 26).map (·.size) = some (arr (s.take 12)).size by rw [arr_size, HLn.out]; exact info_houses)
  have HIz := Lib.hid (show (arr zeros12).size = (arr (s.take 12)).size by rw [arr_size, arr_size, HLn.out]; rfl)
  clear hg4 hx hb4
  go_wp2_with (first | (refine wpList_load_row rfl 26 (.tmp 6) rfl w1.heap.size rfl 26 (arr (s.take 12)) (0, 0) _ Hx.out Tryd.underlying26 rfl HIh.out ?_) | (refine wpList_store_row rfl 26 (.tmp 2) (.tmp 24) rfl (w.heap.size + 1) (arr (s.take 12)) rfl rfl 26 _ HR4.out HIh.out HIz.out (arr_one _) ?_))
  exact bodyPost_ret (v := .tuple #[.agg (arr (s.take 12)), .int .i64 0]) (results_cell_slot Tryd.results7 _ _ (w.heap.size + 1) 26 _ (0, 0) _ rfl (HR4.out.row _) Tryd.underlying26 rfl HIh.out _ rfl) rfl ⟨rfl, below_setRow hbW (by omega) _⟩
theorem of_any (s : List Int) (hs : s.length = 16) (w : World) (hp : Par w) :
    Calls Tryd.prog 7 #[.agg (arr s)] w fun e w' => e = .returned (.tuple #[.agg (arr (ofH s)), .int .i64 (ofE s)]) ∧ Below w.heap.size w w' := by
  unfold ofH ofE
  rcases chkF_or s with h | h
  · by_cases hw : wrongV s = []
    · rw [if_pos ⟨h, hw⟩, if_pos h, if_pos hw]
      exact of_good s hs h hw w hp
    · rw [if_neg (fun e => hw e.2), if_pos h, if_neg hw]
      exact of_bad2 s hs h hw w hp
  · rw [if_neg (by omega), if_neg (by omega)]
    exact of_bad1 s hs h w hp
end Go.Proofs.YtojlopfjhhiilaaDoor
