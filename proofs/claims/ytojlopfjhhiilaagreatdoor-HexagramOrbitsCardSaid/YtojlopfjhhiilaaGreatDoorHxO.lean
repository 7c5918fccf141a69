/-
  Package hexagram: maps of all hexagrams.
-/
import Derived.Test.YtojlopfjhhiilaaGreatDoorHxE
namespace Go.Proofs.YtojlopfjhhiilaaGreatDoor
open Go Go.RowKit
set_option linter.unusedVariables false

def zero64 : List Int := List.replicate 64 0
theorem info_map : (Tryz.prog.info? 47).map (·.size) = some 64 := by kernel_rfl
/-- The map of an operation. -/
def opL (o : Nat) : List Int := (List.range 64).map fun h : Nat => opV h o

set_option maxHeartbeats 400000 in
theorem maps11_any (a : Addr) (o h : Nat) (ho : o < 4) (hh : h < 64) (w : World) (hc : w.cell? a = some (.int .i64 o)) (hs : Src w) :
    Calls Tryz.prog 57 #[.int .i64 h, .pointer (some a)] w fun e w' => e = .returned (.int .i64 (opV h o)) ∧ Below w.heap.size w w' := by
  go_enter Tryz.func57, Tryz.ntmps57
  go_wp2_with fail
  refine (operate_any h o ho ⟨by omega, by omega⟩ _ hs).mono ?_
  rintro e w' ⟨rfl, hb⟩
  go_wp2
  go_ret
  exact ⟨rfl, hb⟩

set_option maxRecDepth 100000 in
set_option maxHeartbeats 2000000 in
theorem mapped_op (b : Nat) (o : Nat) (ho : o < 4) (w : World) (hc : w.cell? ⟨b, 0, none⟩ = some (.int .i64 o)) (hs : Src w) :
    Calls Tryz.prog 18 #[.func (.func 57) #[] #[.pointer (some ⟨b, 0, none⟩)]] w fun e w' => e = .returned (.agg (arr (opL o))) ∧ Below w.heap.size w w' := by
  have hblt := World.block_lt_of_cell? w _ hc
  have HR := Lib.hid (Blk.new w 47 (arr (List.replicate 64 0)))
  have HN := Lib.hid (newAt (W := w.alloc (.cells (arr (List.replicate 64 0)) 47)) (o := .cells (arr (List.replicate 64 0)) 47) (n := w.heap.size + 1) (by simp))
  go_enter Tryz.func18, Tryz.ntmps18
  go_wp2_with (first | (refine wpList_store_row rfl 47 (.tmp 3) (.tmp 5) rfl (w.heap.size + 1) (arr (List.replicate 64 0)) rfl rfl 47 _ HN.out info_map rfl (arr_one _) ?_) | fail)
  generalize hW : World.setRow _ _ _ = W
  have HX : Hid (Blk W (w.heap.size + 1) 47 (arr zero64)) := by rw [← hW]; exact Blk.row HN.out (arr zero64)
  have hB1 : Below w.heap.size w W := by rw [← hW]; exact below_setRow (((Below.refl _ _).alloc (Nat.le_refl _) _).alloc (by simp) _) (by omega) _
  have HR2 : Hid (Blk W w.heap.size 47 (arr zero64)) := by rw [← hW]; exact (Blk.alloc HR.out _).below (below_setRow (Below.refl (w.heap.size + 1) _) (Nat.le_refl _) _) (by omega)
  clear hW HR HN
  have hsW : w.heap.size + 1 < W.heap.size := HX.out.lt
  go_loopw [6] (fun i wr => ∃ k : Nat, k ≤ 64 ∧ i = .int .i64 k ∧ Hid (Blk wr (w.heap.size + 1) 47 (arr (fillTo (fun h => opV h o) 64 k))) ∧ Below (w.heap.size + 1) W wr) (fun i _ => 64 - (intOf i).toNat)
  case atStart => exact ⟨0, by omega, rfl, by rw [fillTo_zero]; exact HX, Below.refl _ _⟩
  case round =>
    obtain ⟨k, hk, rfl, HXk, hB⟩ := hrel
    have Hl := Lib.hid (fillTo_length (fun h => opV h o) 64 k)
    have hBw : Below w.heap.size w wr := hB1.trans (hB.mono (by omega))
    by_cases hlt : k < 64
    · go_wp2_with fail
      refine (maps11_any ⟨b, 0, none⟩ o k ho hlt _ ((hBw.cell (p := ⟨b, 0, none⟩) hblt).trans hc) (hs.below hBw (Nat.le_refl _))).mono ?_
      rintro e w5 ⟨rfl, hb5⟩
      have hszr : w.heap.size + 1 < wr.heap.size := HXk.out.lt
      have HX5 := Lib.hid (HXk.out.below hb5 hszr)
      have hc5 : w5.cell? ⟨w.heap.size + 1, k, none⟩ = some (.int .i64 (nth (fillTo (fun h => opV h o) 64 k) k)) := by rw [HX5.out.cell k, arr_get (by have := Hl.out; omega)]
      have hf5 := HX5.out.frozen k
      have hB5 := hB.trans (hb5.mono (by omega))
      clear hb5 hBw
      go_wp2
      go_roundw
      case rel => exact ⟨k + 1, by omega, by go_num, by have := HX5.out.set_ k (.int .i64 (opV k o)); rw [arr_set, fillTo_succ (fun h => opV h o) 64 k] at this; exact this, hB5.setCell (by simp) _⟩
      case measure => simp [intOf]; omega
    · obtain rfl : k = 64 := by omega
      have e : Hid (fillTo (fun h => opV h o) 64 64 = opL o) := fillTo_all _ _
      rw [e.out] at HXk
      have HL := Lib.hid (show (opL o).length = 64 by simp [opL])
      have HI := Lib.hid (show (Tryz.prog.info? 47).map (·.size) = some (arr (opL o)).size by rw [arr_size, HL.out]; exact info_map)
      have HO := Lib.hid (show (arr zero64).size = (arr (opL o)).size by rw [arr_size, arr_size, HL.out]; rfl)
      have HR3 := Lib.hid (HR2.out.below hB (by omega))
      clear hB HX HR2 hB1
      go_wp2_with (first | (refine wpList_load_row rfl 47 (.tmp 3) rfl (w.heap.size + 1) rfl 47 (arr (opL o)) (0, 0) _ HXk.out Tryz.underlying47 rfl HI.out ?_) | (refine wpList_store_row rfl 47 (.tmp 2) (.tmp 15) rfl w.heap.size (arr (opL o)) rfl rfl 47 _ HR3.out HI.out HO.out (arr_one _) ?_))
      exact bodyPost_ret (v := .agg (arr (opL o))) (results_cell_row Tryz.results18 _ _ w.heap.size 47 _ (0, 0) _ rfl (HR3.out.row _) Tryz.underlying47 rfl HI.out) rfl ⟨rfl, below_setRow hBw (Nat.le_refl _) _⟩
end Go.Proofs.YtojlopfjhhiilaaGreatDoor
