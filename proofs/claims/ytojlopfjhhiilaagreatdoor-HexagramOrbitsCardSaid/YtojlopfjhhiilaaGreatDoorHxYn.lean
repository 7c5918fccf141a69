/-
  Package hexagram: the map that changes nothing; a map with another one after it.
-/
import Derived.Test.YtojlopfjhhiilaaGreatDoorHxYd
namespace Go.Proofs.YtojlopfjhhiilaaGreatDoor
open Go Go.RowKit
set_option linter.unusedVariables false

set_option maxHeartbeats 400000 in
theorem maps0_any (h : Int) (w : World) :
    Calls Tryz.prog 19 #[.int .i64 h] w fun e w' => e = .returned (.int .i64 h) ∧ w' = w := by
  go_enter Tryz.func19, Tryz.ntmps19
  go_wp2
  go_ret
  exact ⟨rfl, rfl⟩

set_option maxRecDepth 100000 in
set_option maxHeartbeats 400000 in
theorem followed1_any (b2 b3 bs : Nat) (F S : List Int) (hF : MapL F) (hS : MapL S) (h : Nat) (hh : h < 64) (w : World) (t2 ts : TypeId)
    (c3 : w.cell? ⟨b3, 0, none⟩ = some (.pointer (some ⟨bs, 0, none⟩))) (c2 : Blk w b2 t2 (arr F)) (cs : Blk w bs ts (arr S)) :
    Calls Tryz.prog 35 #[.int .i64 h, .pointer (some ⟨b3, 0, none⟩), .pointer (some ⟨b2, 0, none⟩)] w fun e w' => e = .returned (.int .i64 (nth S (nth F h).toNat)) ∧ ∃ r, w' = w.drewN r := by
  have k2 := c2.cell h
  rw [arr_get (by rw [hF.1]; exact hh)] at k2
  obtain ⟨x0, x1⟩ := hF.nth hh
  obtain ⟨x, hx⟩ := Int.eq_ofNat_of_zero_le x0
  rw [hx] at k2 x1 ⊢
  have ks := cs.cell x
  rw [arr_get (by rw [hS.1]; omega)] at ks
  rw [Int.toNat_natCast]
  have hx64 : x < 64 := by omega
  have hxi : (x : Int) < 64 := by omega
  have hhi : (h : Int) < 64 := by omega
  clear c2 cs hx x0 x1
  generalize nth S x = y at ks ⊢
  go_enter Tryz.func35, Tryz.ntmps35
  go_wp2
  go_quiet (fail)
  go_wp2
  go_ret
  exact ⟨rfl, _, rfl⟩

theorem comp_range {F : List Int} (hF : MapL F) (S : List Int) : (List.range 64).map (fun h : Nat => nth S (nth F h).toNat) = compL F S := by
  unfold compL
  apply List.ext_getElem
  · simp [hF.1]
  · intro i h1 h2
    simp only [List.getElem_map, List.getElem_range]
    have e : nth F i = F[i]'(by rw [hF.1]; simpa using h1) := nth_eq _
    rw [e]

set_option maxRecDepth 100000 in
set_option maxHeartbeats 2000000 in
theorem mapped_id (w : World) :
    Calls Tryz.prog 18 #[.func (.func 19) #[] #[]] w fun e w' => e = .returned (.agg (arr (idL))) ∧ Below w.heap.size w w' := by
  have HR := Lib.hid (Blk.new w 47 (arr (List.replicate 64 0)))
  have HN := Lib.hid (newAt (W := w.alloc (.cells (arr (List.replicate 64 0)) 47)) (o := .cells (arr (List.replicate 64 0)) 47) (n := w.heap.size + 1) (by simp))
  go_enter Tryz.func18, Tryz.ntmps18
  go_wp2_with (first | (refine wpList_store_row rfl 47 (.tmp 3) (.tmp 5) rfl (w.heap.size + 1) (arr (List.replicate 64 0)) rfl rfl 47 _ HN.out info_map rfl (arr_one _) ?_) | fail)
  generalize hW : World.setRow _ _ _ = W
  have HX : Hid (Blk W (w.heap.size + 1) 47 (arr zero64)) := by rw [← hW]; exact Blk.row HN.out (arr zero64)
  have hB1 : Below w.heap.size w W := by rw [← hW]; exact below_setRow (((Below.refl _ _).alloc (Nat.le_refl _) _).alloc (by simp) _) (by omega) _
  have HR2 : Hid (Blk W w.heap.size 47 (arr zero64)) := by rw [← hW]; exact (Blk.alloc HR.out _).below (below_setRow (Below.refl (w.heap.size + 1) _) (Nat.le_refl _) _) (by omega)
  clear hW HR HN
  have hsW : w.heap.size + 1 < W.heap.size := HX.out.lt
  go_loopw [6] (fun i wr => ∃ k : Nat, k ≤ 64 ∧ i = .int .i64 k ∧ Hid (Blk wr (w.heap.size + 1) 47 (arr (fillTo (fun h : Nat => (h : Int)) 64 k))) ∧ Below (w.heap.size + 1) W wr) (fun i _ => 64 - (intOf i).toNat)
  case atStart => exact ⟨0, by omega, rfl, by rw [fillTo_zero]; exact HX, Below.refl _ _⟩
  case round =>
    obtain ⟨k, hk, rfl, HXk, hB⟩ := hrel
    have Hl := Lib.hid (fillTo_length (fun h : Nat => (h : Int)) 64 k)
    have hBw : Below w.heap.size w wr := hB1.trans (hB.mono (by omega))
    by_cases hlt : k < 64
    · go_wp2_with fail
      refine (maps0_any (k : Int) _).mono ?_
      rintro e w5 ⟨rfl, h5⟩
      have hb5 : Below wr.heap.size wr w5 := by rw [h5]; exact Below.refl _ _
      clear h5
      have hszr : w.heap.size + 1 < wr.heap.size := HXk.out.lt
      have HX5 := Lib.hid (HXk.out.below hb5 hszr)
      have hc5 : w5.cell? ⟨w.heap.size + 1, k, none⟩ = some (.int .i64 (nth (fillTo (fun h : Nat => (h : Int)) 64 k) k)) := by rw [HX5.out.cell k, arr_get (by have := Hl.out; omega)]
      have hf5 := HX5.out.frozen k
      have hB5 := hB.trans (hb5.mono (by omega))
      clear hb5 hBw
      go_wp2
      go_roundw
      case rel => exact ⟨k + 1, by omega, by go_num, by have := HX5.out.set_ k (.int .i64 (k : Int)); rw [arr_set, fillTo_succ (fun h : Nat => (h : Int)) 64 k] at this; exact this, hB5.setCell (by simp) _⟩
      case measure => simp [intOf]; omega
    · obtain rfl : k = 64 := by omega
      have e : Hid (fillTo (fun h : Nat => (h : Int)) 64 64 = idL) := fillTo_all _ _
      rw [e.out] at HXk
      have HL := Lib.hid (show (idL).length = 64 from idL_map.1)
      have HI := Lib.hid (show (Tryz.prog.info? 47).map (·.size) = some (arr (idL)).size by rw [arr_size, HL.out]; exact info_map)
      have HO := Lib.hid (show (arr zero64).size = (arr (idL)).size by rw [arr_size, arr_size, HL.out]; rfl)
      have HR3 := Lib.hid (HR2.out.below hB (by omega))
      clear hB HX HR2 hB1
      go_wp2_with (first | (refine wpList_load_row rfl 47 (.tmp 3) rfl (w.heap.size + 1) rfl 47 (arr (idL)) (0, 0) _ HXk.out Tryz.underlying47 rfl HI.out ?_) | (refine wpList_store_row rfl 47 (.tmp 2) (.tmp 15) rfl w.heap.size (arr (idL)) rfl rfl 47 _ HR3.out HI.out HO.out (arr_one _) ?_))
      exact bodyPost_ret (v := .agg (arr (idL))) (results_cell_row Tryz.results18 _ _ w.heap.size 47 _ (0, 0) _ rfl (HR3.out.row _) Tryz.underlying47 rfl HI.out) rfl ⟨rfl, below_setRow hBw (Nat.le_refl _) _⟩

set_option maxRecDepth 100000 in
set_option maxHeartbeats 2000000 in
theorem mapped_comp (b2 b3 bs : Nat) (F S : List Int) (hF : MapL F) (hS : MapL S) (t2 ts : TypeId) (w : World) (c3 : w.cell? ⟨b3, 0, none⟩ = some (.pointer (some ⟨bs, 0, none⟩))) (c2 : Blk w b2 t2 (arr F)) (cs : Blk w bs ts (arr S)) :
    Calls Tryz.prog 18 #[.func (.func 35) #[] #[.pointer (some ⟨b3, 0, none⟩), .pointer (some ⟨b2, 0, none⟩)]] w fun e w' => e = .returned (.agg (arr (compL F S))) ∧ Below w.heap.size w w' := by
  have h3 := World.block_lt_of_cell? w _ c3
  have h2 := c2.lt
  have hs' := cs.lt
  have HC3 := Lib.hid c3
  have HC2 := Lib.hid c2
  have HCS := Lib.hid cs
  have HMF := Lib.hid hF
  have HMS := Lib.hid hS
  clear c3 c2 cs hF hS
  have HR := Lib.hid (Blk.new w 47 (arr (List.replicate 64 0)))
  have HN := Lib.hid (newAt (W := w.alloc (.cells (arr (List.replicate 64 0)) 47)) (o := .cells (arr (List.replicate 64 0)) 47) (n := w.heap.size + 1) (by simp))
  go_enter Tryz.func18, Tryz.ntmps18
  go_wp2_with (first | (refine wpList_store_row rfl 47 (.tmp 3) (.tmp 5) rfl (w.heap.size + 1) (arr (List.replicate 64 0)) rfl rfl 47 _ HN.out info_map rfl (arr_one _) ?_) | fail)
  generalize hW : World.setRow _ _ _ = W
  have HX : Hid (Blk W (w.heap.size + 1) 47 (arr zero64)) := by rw [← hW]; exact Blk.row HN.out (arr zero64)
  have hB1 : Below w.heap.size w W := by rw [← hW]; exact below_setRow (((Below.refl _ _).alloc (Nat.le_refl _) _).alloc (by simp) _) (by omega) _
  have HR2 : Hid (Blk W w.heap.size 47 (arr zero64)) := by rw [← hW]; exact (Blk.alloc HR.out _).below (below_setRow (Below.refl (w.heap.size + 1) _) (Nat.le_refl _) _) (by omega)
  clear hW HR HN
  have hsW : w.heap.size + 1 < W.heap.size := HX.out.lt
  go_loopw [6] (fun i wr => ∃ k : Nat, k ≤ 64 ∧ i = .int .i64 k ∧ Hid (Blk wr (w.heap.size + 1) 47 (arr (fillTo (fun h : Nat => nth S (nth F h).toNat) 64 k))) ∧ Below (w.heap.size + 1) W wr) (fun i _ => 64 - (intOf i).toNat)
  case atStart => exact ⟨0, by omega, rfl, by rw [fillTo_zero]; exact HX, Below.refl _ _⟩
  case round =>
    obtain ⟨k, hk, rfl, HXk, hB⟩ := hrel
    have Hl := Lib.hid (fillTo_length (fun h : Nat => nth S (nth F h).toNat) 64 k)
    have hBw : Below w.heap.size w wr := hB1.trans (hB.mono (by omega))
    by_cases hlt : k < 64
    · go_wp2_with fail
      refine (followed1_any b2 b3 bs F S HMF.out HMS.out k hlt _ t2 ts ((hBw.cell (p := ⟨b3, 0, none⟩) h3).trans HC3.out) (HC2.out.below hBw h2) (HCS.out.below hBw hs')).mono ?_
      rintro e w5 ⟨rfl, r5, rfl⟩
      have hb5 : Below wr.heap.size wr (wr.drewN r5) := below_drewN (Below.refl _ _) r5
      generalize wr.drewN r5 = w5 at hb5 ⊢
      have hszr : w.heap.size + 1 < wr.heap.size := HXk.out.lt
      have HX5 := Lib.hid (HXk.out.below hb5 hszr)
      have hc5 : w5.cell? ⟨w.heap.size + 1, k, none⟩ = some (.int .i64 (nth (fillTo (fun h : Nat => nth S (nth F h).toNat) 64 k) k)) := by rw [HX5.out.cell k, arr_get (by have := Hl.out; omega)]
      have hf5 := HX5.out.frozen k
      have hB5 := hB.trans (hb5.mono (by omega))
      clear hb5 hBw
      go_wp2
      go_roundw
      case rel => exact ⟨k + 1, by omega, by go_num, by have := HX5.out.set_ k (.int .i64 (nth S (nth F k).toNat)); rw [arr_set, fillTo_succ (fun h : Nat => nth S (nth F h).toNat) 64 k] at this; exact this, hB5.setCell (by simp) _⟩
      case measure => simp [intOf]; omega
    · obtain rfl : k = 64 := by omega
      have e : Hid (fillTo (fun h : Nat => nth S (nth F h).toNat) 64 64 = compL F S) := by rw [fillTo_all (fun h : Nat => nth S (nth F h).toNat) 64]; exact comp_range HMF.out S
      rw [e.out] at HXk
      have HL := Lib.hid (show (compL F S).length = 64 from (compL_map HMF.out HMS.out).1)
      have HI := Lib.hid (show (Tryz.prog.info? 47).map (·.size) = some (arr (compL F S)).size by rw [arr_size, HL.out]; exact info_map)
      have HO := Lib.hid (show (arr zero64).size = (arr (compL F S)).size by rw [arr_size, arr_size, HL.out]; rfl)
      have HR3 := Lib.hid (HR2.out.below hB (by omega))
      clear hB HX HR2 hB1
      go_wp2_with (first | (refine wpList_load_row rfl 47 (.tmp 3) rfl (w.heap.size + 1) rfl 47 (arr (compL F S)) (0, 0) _ HXk.out Tryz.underlying47 rfl HI.out ?_) | (refine wpList_store_row rfl 47 (.tmp 2) (.tmp 15) rfl w.heap.size (arr (compL F S)) rfl rfl 47 _ HR3.out HI.out HO.out (arr_one _) ?_))
      exact bodyPost_ret (v := .agg (arr (compL F S))) (results_cell_row Tryz.results18 _ _ w.heap.size 47 _ (0, 0) _ rfl (HR3.out.row _) Tryz.underlying47 rfl HI.out) rfl ⟨rfl, below_setRow hBw (Nat.le_refl _) _⟩
end Go.Proofs.YtojlopfjhhiilaaGreatDoor
