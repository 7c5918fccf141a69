/-
  Package hexagram: followed.
-/
import Derived.Test.YtojlopfjhhiilaaGreatDoorHxYn
namespace Go.Proofs.YtojlopfjhhiilaaGreatDoor
open Go Go.RowKit
set_option linter.unusedVariables false

set_option maxRecDepth 100000 in
set_option maxHeartbeats 2000000 in
theorem followed_any (F S : List Int) (hF : MapL F) (hS : MapL S) (bs : Nat) (ts : TypeId) (w : World) (cs : Blk w bs ts (arr S)) :
    Calls Tryz.prog 21 #[.agg (arr F), .pointer (some ⟨bs, 0, none⟩)] w fun e w' => e = .returned (.agg (arr (compL F S))) ∧ Below w.heap.size w w' := by
  have hC := compL_map hF hS
  have HI := Lib.hid (show (Tryz.prog.info? 47).map (·.size) = some (arr (compL F S)).size by rw [arr_size, hC.1]; exact info_map)
  have HO := Lib.hid (show (arr zero64).size = (arr (compL F S)).size by rw [arr_size, arr_size, hC.1]; rfl)
  have hb0 : Below w.heap.size w (((w.alloc (.cells (arr F) 47)).alloc (.cells #[.pointer (some ⟨bs, 0, none⟩)] 43)).alloc (.cells (arr zero64) 47)) := (((Below.refl _ _).alloc (Nat.le_refl _) _).alloc (by simp) _).alloc (by simp; omega) _
  have c2 : Blk (((w.alloc (.cells (arr F) 47)).alloc (.cells #[.pointer (some ⟨bs, 0, none⟩)] 43)).alloc (.cells (arr zero64) 47)) w.heap.size 47 (arr F) := ((Blk.new w _ _).alloc _).alloc _
  have c3 : (((w.alloc (.cells (arr F) 47)).alloc (.cells #[.pointer (some ⟨bs, 0, none⟩)] 43)).alloc (.cells (arr zero64) 47)).cell? ⟨w.heap.size + 1, 0, none⟩ = some (.pointer (some ⟨bs, 0, none⟩)) := by
    have := ((Blk.new (w.alloc (.cells (arr F) 47)) 43 #[.pointer (some ⟨bs, 0, none⟩)]).alloc (.cells (arr zero64) 47)).cell 0
    rw [World.size_alloc] at this
    exact this
  have c4 : Blk (((w.alloc (.cells (arr F) 47)).alloc (.cells #[.pointer (some ⟨bs, 0, none⟩)] 43)).alloc (.cells (arr zero64) 47)) (w.heap.size + 1 + 1) 47 (arr zero64) := by
    have := Blk.new ((w.alloc (.cells (arr F) 47)).alloc (.cells #[.pointer (some ⟨bs, 0, none⟩)] 43)) 47 (arr zero64)
    rw [World.size_alloc, World.size_alloc] at this
    exact this
  have hlt := cs.lt
  have cs1 := cs.below hb0 hlt
  have C := Lib.hid (mapped_comp w.heap.size (w.heap.size + 1) bs F S hF hS 47 ts _ c3 c2 cs1)
  have HC4 := Lib.hid c4
  have HB0 := Lib.hid hb0
  clear c2 c3 c4 cs1 hb0 cs hC hF hS hlt
  obtain ⟨R, hR⟩ : ∃ R, compL F S = R := ⟨_, rfl⟩
  rw [hR] at HI HO C ⊢
  clear hR
  go_enter Tryz.func21, Tryz.ntmps21
  go_upto_region 1 with fail
  change Code.wp _ _ _ _ (((w.alloc (.cells (arr F) 47)).alloc (.cells #[.pointer (some ⟨bs, 0, none⟩)] 43)).alloc (.cells (arr zero64) 47))
  generalize ((w.alloc (.cells (arr F) 47)).alloc (.cells #[.pointer (some ⟨bs, 0, none⟩)] 43)).alloc (.cells (arr zero64) 47) = W at C HC4 HB0 ⊢
  go_wp2_with fail
  refine C.out.mono ?_
  rintro e w5 ⟨rfl, hb5⟩
  have HK := Lib.hid (HC4.out.below hb5 HC4.out.lt)
  have hB := HB0.out.trans (hb5.mono HB0.out.size)
  clear C HC4 HB0 hb5
  go_wp2_with (first | (refine wpList_store_row rfl 47 (.tmp 4) (.tmp 6) rfl (w.heap.size + 1 + 1) (arr R) rfl rfl 47 _ HK.out HI.out HO.out (arr_one _) ?_) | fail)
  exact bodyPost_ret (v := .agg (arr R)) (results_cell_row Tryz.results21 _ _ (w.heap.size + 1 + 1) 47 _ (0, 0) _ rfl (HK.out.row _) Tryz.underlying47 rfl HI.out) rfl ⟨rfl, below_setRow hB (by omega) _⟩
end Go.Proofs.YtojlopfjhhiilaaGreatDoor
