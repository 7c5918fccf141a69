/-
  The reference of chapter 4: an operation. (Written by genhxrd.py.)
-/
import Derived.Test.YtojlopfjhhiilaaGreatDoorHxRc
namespace Go.Proofs.YtojlopfjhhiilaaGreatDoor
open Go Go.RowKit
set_option linter.unusedVariables false

def opTo (h : Int) (o : Nat) (k : Nat) : List Int := fillTo (fun j => bI (opB h o j)) 6 k
theorem opTo_length (h : Int) (o k : Nat) : (opTo h o k).length = 6 := fillTo_length _ _ _
theorem opTo_nth (h : Int) (o : Nat) {k : Nat} (hk : k < 6) : nth (opTo h o 6) k = bI (opB h o k) := by
  unfold opTo; rw [fillTo_all, nth_eq (by simpa using hk)]; simp
theorem opTo_bts (h : Int) (o : Nat) : Bts (opTo h o 6) := fun k hk => by rw [opTo_nth h o hk]; exact bI_bd _
theorem opTo_num (h : Int) (o : Nat) : numTo (opTo h o 6) 6 = opV h o := num_hex fun k hk => opTo_nth h o hk
theorem oStep {wr : World} {g : Nat} {t : TypeId} {h : Int} {o k : Nat} {a : Int} (H : Blk wr g t (arr (opTo h o k))) (e : bI (opB h o k) = a) : Blk (wr.setCell ⟨g, k, none⟩ (.int .i64 a)) g t (arr (opTo h o (k + 1))) := by
  have := H.set_ k (.int .i64 (bI (opB h o k)))
  unfold opTo at this
  rw [arr_set, fillTo_succ (fun j => bI (opB h o j)) 6 k, e] at this
  exact this
theorem bI_not (b : Bool) : bI (b != true) = 1 - bI b := by cases b <;> rfl
theorem bI_same (b : Bool) : bI (b != false) = bI b := by cases b <;> rfl

set_option maxRecDepth 100000 in
set_option maxHeartbeats 4000000 in
theorem refOp0_any (h : Int) (hh : Hex h) (w : World) :
    Calls Tryz.prog 22 #[.int .i64 h, .int .i64 0] w fun e w' => e = .returned (.int .i64 (opV h 0)) ∧ Below w.heap.size w w' := by
  have K1 := Lib.hid hh
  have HSx := Lib.hid (show (Tryz.prog.info? 56).map (·.size) = some (arr (sixL h)).size by rw [arr_size, sixL_length]; exact info_six)
  have HTx := Lib.hid (show (arr (List.replicate 6 0)).size = (arr (sixL h)).size by rw [arr_size, arr_size, sixL_length]; rfl)
  clear hh
  go_enter Tryz.func22, Tryz.ntmps22
  go_wp2_with fail
  refine (refSix_any h K1.out _).mono ?_
  rintro e w2 ⟨rfl, hb4⟩
  have N0 := Lib.hid (show Blk ((w2.alloc (.cells (arr (List.replicate 6 0)) 56)).alloc (.cells (arr (List.replicate 6 0)) 56)) w2.heap.size 56 (arr (List.replicate 6 0)) from (Blk.new w2 _ _).alloc _)
  have L0 := Lib.hid (show Blk ((w2.alloc (.cells (arr (List.replicate 6 0)) 56)).alloc (.cells (arr (List.replicate 6 0)) 56)) (w2.heap.size + 1) 56 (arr (List.replicate 6 0)) from Blk.newN _ _ (by simp))
  have L2 := Lib.hid (show Blk (((w2.alloc (.cells (arr (List.replicate 6 0)) 56)).alloc (.cells (arr (List.replicate 6 0)) 56)).setRow w2.heap.size (arr (sixL h))) (w2.heap.size + 1) 56 (arr (List.replicate 6 0)) from L0.out.rowFar (by omega) _)
  go_wp2_with (first
    | (refine wpList_store_row rfl 56 (.tmp 5) (.tmp 9) rfl w2.heap.size (arr (sixL h)) rfl rfl 56 _ N0.out HSx.out HTx.out (arr_one _) ?_)
    | (refine wpList_store_row rfl 56 (.tmp 6) (.tmp 10) rfl (w2.heap.size + 1) (arr (List.replicate 6 0)) rfl rfl 56 _ L2.out info_six rfl (arr_one _) ?_) | fail)
  have HX := Lib.hid (show Blk ((((w2.alloc (.cells (arr (List.replicate 6 0)) 56)).alloc (.cells (arr (List.replicate 6 0)) 56)).setRow w2.heap.size (arr (sixL h))).setRow (w2.heap.size + 1) (arr (List.replicate 6 0))) (w2.heap.size + 1) 56 (arr (opTo h 0 0)) from by rw [show opTo h 0 0 = List.replicate 6 0 from fillTo_zero _ _]; exact L2.out.row _)
  have HA := Lib.hid (show Blk ((((w2.alloc (.cells (arr (List.replicate 6 0)) 56)).alloc (.cells (arr (List.replicate 6 0)) 56)).setRow w2.heap.size (arr (sixL h))).setRow (w2.heap.size + 1) (arr (List.replicate 6 0))) w2.heap.size 56 (arr (sixL h)) from (N0.out.row _).rowFar (by omega) _)
  have hb5 : Below w2.heap.size w2 ((((w2.alloc (.cells (arr (List.replicate 6 0)) 56)).alloc (.cells (arr (List.replicate 6 0)) 56)).setRow w2.heap.size (arr (sixL h))).setRow (w2.heap.size + 1) (arr (List.replicate 6 0))) := below_setRow (below_setRow (((Below.refl _ _).alloc (Nat.le_refl _) _).alloc (by simp) _) (by omega) _) (by omega) _
  have hsz := hb4.size
  have hb6 := tr hb4 hb5
  clear hb4 hb5 N0 L0 L2
  obtain ⟨W, hW⟩ : ∃ W, (((w2.alloc (.cells (arr (List.replicate 6 0)) 56)).alloc (.cells (arr (List.replicate 6 0)) 56)).setRow w2.heap.size (arr (sixL h))).setRow (w2.heap.size + 1) (arr (List.replicate 6 0)) = W := ⟨_, rfl⟩
  rw [hW] at HX HA hb6
  have e0 : (((w2.alloc (.cells #[.int .i64 0, .int .i64 0, .int .i64 0, .int .i64 0, .int .i64 0, .int .i64 0] 56)).alloc (.cells #[.int .i64 0, .int .i64 0, .int .i64 0, .int .i64 0, .int .i64 0, .int .i64 0] 56)).setRow w2.heap.size (arr (sixL h))).setRow (w2.heap.size + 1) (arr [0, 0, 0, 0, 0, 0]) = W := hW
  rw [e0]
  clear hW e0 HTx HSx
  go_loopw [7] (fun i wr => ∃ k : Nat, k ≤ 6 ∧ i = .int .i64 k ∧ Hid (Blk wr (w2.heap.size + 1) 56 (arr (opTo h 0 k))) ∧ Below (w2.heap.size + 1) W wr) (fun i _ => 6 - (intOf i).toNat)
  case atStart => exact ⟨0, by omega, rfl, HX, Below.refl _ _⟩
  case round =>
    obtain ⟨k, hk, rfl, HXk, hB⟩ := hrel
    have Hl := Lib.hid (opTo_length h 0 k)
    have hS : ∀ s : Nat, s < 6 → wr.cell? ⟨w2.heap.size, s, none⟩ = some (.int .i64 (bI (bitB h s))) := fun s hs => by rw [(HA.out.below hB (by omega)).cell s, arr_get (by rw [sixL_length]; exact hs), sixL_nth h hs]
    have e : k = 0 ∨ k = 1 ∨ k = 2 ∨ k = 3 ∨ k = 4 ∨ k = 5 ∨ k = 6 := by omega
    rcases e with rfl | rfl | rfl | rfl | rfl | rfl | rfl
    · have hc := hS 5 (by omega)
      have hc5 : wr.cell? ⟨w2.heap.size + 1, 0, none⟩ = some (.int .i64 (nth (opTo h 0 0) 0)) := by rw [HXk.out.cell 0, arr_get (by have := Hl.out; omega)]
      have hf5 := HXk.out.frozen 0
      have HE := Lib.hid (show bI (opB h 0 0) = bI (bitB h (5 : Nat)) from bI_same _)
      obtain ⟨b0, b1⟩ := bI_bd (bitB h (5 : Nat))
      obtain ⟨v, hv⟩ : ∃ v, bI (bitB h (5 : Nat)) = v := ⟨_, rfl⟩
      rw [hv] at hc HE b0 b1
      clear hS hv
      go_wp2_with fail
      go_roundw
      case rel => exact ⟨1, by omega, by go_num, oStep HXk.out HE.out, hB.setCell (Nat.le_refl _) _⟩
      case measure => simp [intOf]
    · have hc := hS 4 (by omega)
      have hc5 : wr.cell? ⟨w2.heap.size + 1, 1, none⟩ = some (.int .i64 (nth (opTo h 0 1) 1)) := by rw [HXk.out.cell 1, arr_get (by have := Hl.out; omega)]
      have hf5 := HXk.out.frozen 1
      have HE := Lib.hid (show bI (opB h 0 1) = bI (bitB h (4 : Nat)) from bI_same _)
      obtain ⟨b0, b1⟩ := bI_bd (bitB h (4 : Nat))
      obtain ⟨v, hv⟩ : ∃ v, bI (bitB h (4 : Nat)) = v := ⟨_, rfl⟩
      rw [hv] at hc HE b0 b1
      clear hS hv
      go_wp2_with fail
      go_roundw
      case rel => exact ⟨2, by omega, by go_num, oStep HXk.out HE.out, hB.setCell (Nat.le_refl _) _⟩
      case measure => simp [intOf]
    · have hc := hS 3 (by omega)
      have hc5 : wr.cell? ⟨w2.heap.size + 1, 2, none⟩ = some (.int .i64 (nth (opTo h 0 2) 2)) := by rw [HXk.out.cell 2, arr_get (by have := Hl.out; omega)]
      have hf5 := HXk.out.frozen 2
      have HE := Lib.hid (show bI (opB h 0 2) = bI (bitB h (3 : Nat)) from bI_same _)
      obtain ⟨b0, b1⟩ := bI_bd (bitB h (3 : Nat))
      obtain ⟨v, hv⟩ : ∃ v, bI (bitB h (3 : Nat)) = v := ⟨_, rfl⟩
      rw [hv] at hc HE b0 b1
      clear hS hv
      go_wp2_with fail
      go_roundw
      case rel => exact ⟨3, by omega, by go_num, oStep HXk.out HE.out, hB.setCell (Nat.le_refl _) _⟩
      case measure => simp [intOf]
    · have hc := hS 2 (by omega)
      have hc5 : wr.cell? ⟨w2.heap.size + 1, 3, none⟩ = some (.int .i64 (nth (opTo h 0 3) 3)) := by rw [HXk.out.cell 3, arr_get (by have := Hl.out; omega)]
      have hf5 := HXk.out.frozen 3
      have HE := Lib.hid (show bI (opB h 0 3) = bI (bitB h (2 : Nat)) from bI_same _)
      obtain ⟨b0, b1⟩ := bI_bd (bitB h (2 : Nat))
      obtain ⟨v, hv⟩ : ∃ v, bI (bitB h (2 : Nat)) = v := ⟨_, rfl⟩
      rw [hv] at hc HE b0 b1
      clear hS hv
      go_wp2_with fail
      go_roundw
      case rel => exact ⟨4, by omega, by go_num, oStep HXk.out HE.out, hB.setCell (Nat.le_refl _) _⟩
      case measure => simp [intOf]
    · have hc := hS 1 (by omega)
      have hc5 : wr.cell? ⟨w2.heap.size + 1, 4, none⟩ = some (.int .i64 (nth (opTo h 0 4) 4)) := by rw [HXk.out.cell 4, arr_get (by have := Hl.out; omega)]
      have hf5 := HXk.out.frozen 4
      have HE := Lib.hid (show bI (opB h 0 4) = bI (bitB h (1 : Nat)) from bI_same _)
      obtain ⟨b0, b1⟩ := bI_bd (bitB h (1 : Nat))
      obtain ⟨v, hv⟩ : ∃ v, bI (bitB h (1 : Nat)) = v := ⟨_, rfl⟩
      rw [hv] at hc HE b0 b1
      clear hS hv
      go_wp2_with fail
      go_roundw
      case rel => exact ⟨5, by omega, by go_num, oStep HXk.out HE.out, hB.setCell (Nat.le_refl _) _⟩
      case measure => simp [intOf]
    · have hc := hS 0 (by omega)
      have hc5 : wr.cell? ⟨w2.heap.size + 1, 5, none⟩ = some (.int .i64 (nth (opTo h 0 5) 5)) := by rw [HXk.out.cell 5, arr_get (by have := Hl.out; omega)]
      have hf5 := HXk.out.frozen 5
      have HE := Lib.hid (show bI (opB h 0 5) = bI (bitB h (0 : Nat)) from bI_same _)
      obtain ⟨b0, b1⟩ := bI_bd (bitB h (0 : Nat))
      obtain ⟨v, hv⟩ : ∃ v, bI (bitB h (0 : Nat)) = v := ⟨_, rfl⟩
      rw [hv] at hc HE b0 b1
      clear hS hv
      go_wp2_with fail
      go_roundw
      case rel => exact ⟨6, by omega, by go_num, oStep HXk.out HE.out, hB.setCell (Nat.le_refl _) _⟩
      case measure => simp [intOf]
    · have HR := Lib.hid (opTo_bts h 0)
      have HN := Lib.hid (opTo_num h 0)
      have HI := Lib.hid (show (Tryz.prog.info? 56).map (·.size) = some (arr (opTo h 0 6)).size by rw [arr_size, Hl.out]; exact info_six)
      have hb7 := hb6.trans (hB.mono (by omega))
      clear hS hB HA HX hb6
      go_wp2_with (first | (refine wpList_load_row rfl 56 (.tmp 6) rfl (w2.heap.size + 1) rfl 56 (arr (opTo h 0 6)) (0, 0) _ HXk.out Tryz.underlying56 rfl HI.out ?_) | fail)
      refine (refNumber_any (opTo h 0 6) Hl HR.out _).mono ?_
      rintro e w' ⟨rfl, hw'⟩
      have hb8 := num_below hw'
      clear hw'
      go_wp2
      go_ret
      exact ⟨by (try rw [HN.out]); rfl, tr hb7 hb8⟩

set_option maxRecDepth 100000 in
set_option maxHeartbeats 4000000 in
theorem refOp1_any (h : Int) (hh : Hex h) (w : World) :
    Calls Tryz.prog 22 #[.int .i64 h, .int .i64 1] w fun e w' => e = .returned (.int .i64 (opV h 1)) ∧ Below w.heap.size w w' := by
  have K1 := Lib.hid hh
  have HSx := Lib.hid (show (Tryz.prog.info? 56).map (·.size) = some (arr (sixL h)).size by rw [arr_size, sixL_length]; exact info_six)
  have HTx := Lib.hid (show (arr (List.replicate 6 0)).size = (arr (sixL h)).size by rw [arr_size, arr_size, sixL_length]; rfl)
  clear hh
  go_enter Tryz.func22, Tryz.ntmps22
  go_wp2_with fail
  refine (refSix_any h K1.out _).mono ?_
  rintro e w2 ⟨rfl, hb4⟩
  have N0 := Lib.hid (show Blk ((w2.alloc (.cells (arr (List.replicate 6 0)) 56)).alloc (.cells (arr (List.replicate 6 0)) 56)) w2.heap.size 56 (arr (List.replicate 6 0)) from (Blk.new w2 _ _).alloc _)
  have L0 := Lib.hid (show Blk ((w2.alloc (.cells (arr (List.replicate 6 0)) 56)).alloc (.cells (arr (List.replicate 6 0)) 56)) (w2.heap.size + 1) 56 (arr (List.replicate 6 0)) from Blk.newN _ _ (by simp))
  have L2 := Lib.hid (show Blk (((w2.alloc (.cells (arr (List.replicate 6 0)) 56)).alloc (.cells (arr (List.replicate 6 0)) 56)).setRow w2.heap.size (arr (sixL h))) (w2.heap.size + 1) 56 (arr (List.replicate 6 0)) from L0.out.rowFar (by omega) _)
  go_wp2_with (first
    | (refine wpList_store_row rfl 56 (.tmp 5) (.tmp 9) rfl w2.heap.size (arr (sixL h)) rfl rfl 56 _ N0.out HSx.out HTx.out (arr_one _) ?_)
    | (refine wpList_store_row rfl 56 (.tmp 6) (.tmp 10) rfl (w2.heap.size + 1) (arr (List.replicate 6 0)) rfl rfl 56 _ L2.out info_six rfl (arr_one _) ?_) | fail)
  have HX := Lib.hid (show Blk ((((w2.alloc (.cells (arr (List.replicate 6 0)) 56)).alloc (.cells (arr (List.replicate 6 0)) 56)).setRow w2.heap.size (arr (sixL h))).setRow (w2.heap.size + 1) (arr (List.replicate 6 0))) (w2.heap.size + 1) 56 (arr (opTo h 1 0)) from by rw [show opTo h 1 0 = List.replicate 6 0 from fillTo_zero _ _]; exact L2.out.row _)
  have HA := Lib.hid (show Blk ((((w2.alloc (.cells (arr (List.replicate 6 0)) 56)).alloc (.cells (arr (List.replicate 6 0)) 56)).setRow w2.heap.size (arr (sixL h))).setRow (w2.heap.size + 1) (arr (List.replicate 6 0))) w2.heap.size 56 (arr (sixL h)) from (N0.out.row _).rowFar (by omega) _)
  have hb5 : Below w2.heap.size w2 ((((w2.alloc (.cells (arr (List.replicate 6 0)) 56)).alloc (.cells (arr (List.replicate 6 0)) 56)).setRow w2.heap.size (arr (sixL h))).setRow (w2.heap.size + 1) (arr (List.replicate 6 0))) := below_setRow (below_setRow (((Below.refl _ _).alloc (Nat.le_refl _) _).alloc (by simp) _) (by omega) _) (by omega) _
  have hsz := hb4.size
  have hb6 := tr hb4 hb5
  clear hb4 hb5 N0 L0 L2
  obtain ⟨W, hW⟩ : ∃ W, (((w2.alloc (.cells (arr (List.replicate 6 0)) 56)).alloc (.cells (arr (List.replicate 6 0)) 56)).setRow w2.heap.size (arr (sixL h))).setRow (w2.heap.size + 1) (arr (List.replicate 6 0)) = W := ⟨_, rfl⟩
  rw [hW] at HX HA hb6
  have e0 : (((w2.alloc (.cells #[.int .i64 0, .int .i64 0, .int .i64 0, .int .i64 0, .int .i64 0, .int .i64 0] 56)).alloc (.cells #[.int .i64 0, .int .i64 0, .int .i64 0, .int .i64 0, .int .i64 0, .int .i64 0] 56)).setRow w2.heap.size (arr (sixL h))).setRow (w2.heap.size + 1) (arr [0, 0, 0, 0, 0, 0]) = W := hW
  rw [e0]
  clear hW e0 HTx HSx
  go_loopw [7] (fun i wr => ∃ k : Nat, k ≤ 6 ∧ i = .int .i64 k ∧ Hid (Blk wr (w2.heap.size + 1) 56 (arr (opTo h 1 k))) ∧ Below (w2.heap.size + 1) W wr) (fun i _ => 6 - (intOf i).toNat)
  case atStart => exact ⟨0, by omega, rfl, HX, Below.refl _ _⟩
  case round =>
    obtain ⟨k, hk, rfl, HXk, hB⟩ := hrel
    have Hl := Lib.hid (opTo_length h 1 k)
    have hS : ∀ s : Nat, s < 6 → wr.cell? ⟨w2.heap.size, s, none⟩ = some (.int .i64 (bI (bitB h s))) := fun s hs => by rw [(HA.out.below hB (by omega)).cell s, arr_get (by rw [sixL_length]; exact hs), sixL_nth h hs]
    have e : k = 0 ∨ k = 1 ∨ k = 2 ∨ k = 3 ∨ k = 4 ∨ k = 5 ∨ k = 6 := by omega
    rcases e with rfl | rfl | rfl | rfl | rfl | rfl | rfl
    · have hc := hS 0 (by omega)
      have hc5 : wr.cell? ⟨w2.heap.size + 1, 0, none⟩ = some (.int .i64 (nth (opTo h 1 0) 0)) := by rw [HXk.out.cell 0, arr_get (by have := Hl.out; omega)]
      have hf5 := HXk.out.frozen 0
      have HE := Lib.hid (show bI (opB h 1 0) = 1 - bI (bitB h (0 : Nat)) from bI_not _)
      obtain ⟨b0, b1⟩ := bI_bd (bitB h (0 : Nat))
      obtain ⟨v, hv⟩ : ∃ v, bI (bitB h (0 : Nat)) = v := ⟨_, rfl⟩
      rw [hv] at hc HE b0 b1
      clear hS hv
      go_wp2_with fail
      go_roundw
      case rel => exact ⟨1, by omega, by go_num, oStep HXk.out HE.out, hB.setCell (Nat.le_refl _) _⟩
      case measure => simp [intOf]
    · have hc := hS 1 (by omega)
      have hc5 : wr.cell? ⟨w2.heap.size + 1, 1, none⟩ = some (.int .i64 (nth (opTo h 1 1) 1)) := by rw [HXk.out.cell 1, arr_get (by have := Hl.out; omega)]
      have hf5 := HXk.out.frozen 1
      have HE := Lib.hid (show bI (opB h 1 1) = 1 - bI (bitB h (1 : Nat)) from bI_not _)
      obtain ⟨b0, b1⟩ := bI_bd (bitB h (1 : Nat))
      obtain ⟨v, hv⟩ : ∃ v, bI (bitB h (1 : Nat)) = v := ⟨_, rfl⟩
      rw [hv] at hc HE b0 b1
      clear hS hv
      go_wp2_with fail
      go_roundw
      case rel => exact ⟨2, by omega, by go_num, oStep HXk.out HE.out, hB.setCell (Nat.le_refl _) _⟩
      case measure => simp [intOf]
    · have hc := hS 2 (by omega)
      have hc5 : wr.cell? ⟨w2.heap.size + 1, 2, none⟩ = some (.int .i64 (nth (opTo h 1 2) 2)) := by rw [HXk.out.cell 2, arr_get (by have := Hl.out; omega)]
      have hf5 := HXk.out.frozen 2
      have HE := Lib.hid (show bI (opB h 1 2) = 1 - bI (bitB h (2 : Nat)) from bI_not _)
      obtain ⟨b0, b1⟩ := bI_bd (bitB h (2 : Nat))
      obtain ⟨v, hv⟩ : ∃ v, bI (bitB h (2 : Nat)) = v := ⟨_, rfl⟩
      rw [hv] at hc HE b0 b1
      clear hS hv
      go_wp2_with fail
      go_roundw
      case rel => exact ⟨3, by omega, by go_num, oStep HXk.out HE.out, hB.setCell (Nat.le_refl _) _⟩
      case measure => simp [intOf]
    · have hc := hS 3 (by omega)
      have hc5 : wr.cell? ⟨w2.heap.size + 1, 3, none⟩ = some (.int .i64 (nth (opTo h 1 3) 3)) := by rw [HXk.out.cell 3, arr_get (by have := Hl.out; omega)]
      have hf5 := HXk.out.frozen 3
      have HE := Lib.hid (show bI (opB h 1 3) = 1 - bI (bitB h (3 : Nat)) from bI_not _)
      obtain ⟨b0, b1⟩ := bI_bd (bitB h (3 : Nat))
      obtain ⟨v, hv⟩ : ∃ v, bI (bitB h (3 : Nat)) = v := ⟨_, rfl⟩
      rw [hv] at hc HE b0 b1
      clear hS hv
      go_wp2_with fail
      go_roundw
      case rel => exact ⟨4, by omega, by go_num, oStep HXk.out HE.out, hB.setCell (Nat.le_refl _) _⟩
      case measure => simp [intOf]
    · have hc := hS 4 (by omega)
      have hc5 : wr.cell? ⟨w2.heap.size + 1, 4, none⟩ = some (.int .i64 (nth (opTo h 1 4) 4)) := by rw [HXk.out.cell 4, arr_get (by have := Hl.out; omega)]
      have hf5 := HXk.out.frozen 4
      have HE := Lib.hid (show bI (opB h 1 4) = 1 - bI (bitB h (4 : Nat)) from bI_not _)
      obtain ⟨b0, b1⟩ := bI_bd (bitB h (4 : Nat))
      obtain ⟨v, hv⟩ : ∃ v, bI (bitB h (4 : Nat)) = v := ⟨_, rfl⟩
      rw [hv] at hc HE b0 b1
      clear hS hv
      go_wp2_with fail
      go_roundw
      case rel => exact ⟨5, by omega, by go_num, oStep HXk.out HE.out, hB.setCell (Nat.le_refl _) _⟩
      case measure => simp [intOf]
    · have hc := hS 5 (by omega)
      have hc5 : wr.cell? ⟨w2.heap.size + 1, 5, none⟩ = some (.int .i64 (nth (opTo h 1 5) 5)) := by rw [HXk.out.cell 5, arr_get (by have := Hl.out; omega)]
      have hf5 := HXk.out.frozen 5
      have HE := Lib.hid (show bI (opB h 1 5) = 1 - bI (bitB h (5 : Nat)) from bI_not _)
      obtain ⟨b0, b1⟩ := bI_bd (bitB h (5 : Nat))
      obtain ⟨v, hv⟩ : ∃ v, bI (bitB h (5 : Nat)) = v := ⟨_, rfl⟩
      rw [hv] at hc HE b0 b1
      clear hS hv
      go_wp2_with fail
      go_roundw
      case rel => exact ⟨6, by omega, by go_num, oStep HXk.out HE.out, hB.setCell (Nat.le_refl _) _⟩
      case measure => simp [intOf]
    · have HR := Lib.hid (opTo_bts h 1)
      have HN := Lib.hid (opTo_num h 1)
      have HI := Lib.hid (show (Tryz.prog.info? 56).map (·.size) = some (arr (opTo h 1 6)).size by rw [arr_size, Hl.out]; exact info_six)
      have hb7 := hb6.trans (hB.mono (by omega))
      clear hS hB HA HX hb6
      go_wp2_with (first | (refine wpList_load_row rfl 56 (.tmp 6) rfl (w2.heap.size + 1) rfl 56 (arr (opTo h 1 6)) (0, 0) _ HXk.out Tryz.underlying56 rfl HI.out ?_) | fail)
      refine (refNumber_any (opTo h 1 6) Hl HR.out _).mono ?_
      rintro e w' ⟨rfl, hw'⟩
      have hb8 := num_below hw'
      clear hw'
      go_wp2
      go_ret
      exact ⟨by (try rw [HN.out]); rfl, tr hb7 hb8⟩

set_option maxRecDepth 100000 in
set_option maxHeartbeats 4000000 in
theorem refOp2_any (h : Int) (hh : Hex h) (w : World) :
    Calls Tryz.prog 22 #[.int .i64 h, .int .i64 2] w fun e w' => e = .returned (.int .i64 (opV h 2)) ∧ Below w.heap.size w w' := by
  have K1 := Lib.hid hh
  have HSx := Lib.hid (show (Tryz.prog.info? 56).map (·.size) = some (arr (sixL h)).size by rw [arr_size, sixL_length]; exact info_six)
  have HTx := Lib.hid (show (arr (List.replicate 6 0)).size = (arr (sixL h)).size by rw [arr_size, arr_size, sixL_length]; rfl)
  clear hh
  go_enter Tryz.func22, Tryz.ntmps22
  go_wp2_with fail
  refine (refSix_any h K1.out _).mono ?_
  rintro e w2 ⟨rfl, hb4⟩
  have N0 := Lib.hid (show Blk ((w2.alloc (.cells (arr (List.replicate 6 0)) 56)).alloc (.cells (arr (List.replicate 6 0)) 56)) w2.heap.size 56 (arr (List.replicate 6 0)) from (Blk.new w2 _ _).alloc _)
  have L0 := Lib.hid (show Blk ((w2.alloc (.cells (arr (List.replicate 6 0)) 56)).alloc (.cells (arr (List.replicate 6 0)) 56)) (w2.heap.size + 1) 56 (arr (List.replicate 6 0)) from Blk.newN _ _ (by simp))
  have L2 := Lib.hid (show Blk (((w2.alloc (.cells (arr (List.replicate 6 0)) 56)).alloc (.cells (arr (List.replicate 6 0)) 56)).setRow w2.heap.size (arr (sixL h))) (w2.heap.size + 1) 56 (arr (List.replicate 6 0)) from L0.out.rowFar (by omega) _)
  go_wp2_with (first
    | (refine wpList_store_row rfl 56 (.tmp 5) (.tmp 9) rfl w2.heap.size (arr (sixL h)) rfl rfl 56 _ N0.out HSx.out HTx.out (arr_one _) ?_)
    | (refine wpList_store_row rfl 56 (.tmp 6) (.tmp 10) rfl (w2.heap.size + 1) (arr (List.replicate 6 0)) rfl rfl 56 _ L2.out info_six rfl (arr_one _) ?_) | fail)
  have HX := Lib.hid (show Blk ((((w2.alloc (.cells (arr (List.replicate 6 0)) 56)).alloc (.cells (arr (List.replicate 6 0)) 56)).setRow w2.heap.size (arr (sixL h))).setRow (w2.heap.size + 1) (arr (List.replicate 6 0))) (w2.heap.size + 1) 56 (arr (opTo h 2 0)) from by rw [show opTo h 2 0 = List.replicate 6 0 from fillTo_zero _ _]; exact L2.out.row _)
  have HA := Lib.hid (show Blk ((((w2.alloc (.cells (arr (List.replicate 6 0)) 56)).alloc (.cells (arr (List.replicate 6 0)) 56)).setRow w2.heap.size (arr (sixL h))).setRow (w2.heap.size + 1) (arr (List.replicate 6 0))) w2.heap.size 56 (arr (sixL h)) from (N0.out.row _).rowFar (by omega) _)
  have hb5 : Below w2.heap.size w2 ((((w2.alloc (.cells (arr (List.replicate 6 0)) 56)).alloc (.cells (arr (List.replicate 6 0)) 56)).setRow w2.heap.size (arr (sixL h))).setRow (w2.heap.size + 1) (arr (List.replicate 6 0))) := below_setRow (below_setRow (((Below.refl _ _).alloc (Nat.le_refl _) _).alloc (by simp) _) (by omega) _) (by omega) _
  have hsz := hb4.size
  have hb6 := tr hb4 hb5
  clear hb4 hb5 N0 L0 L2
  obtain ⟨W, hW⟩ : ∃ W, (((w2.alloc (.cells (arr (List.replicate 6 0)) 56)).alloc (.cells (arr (List.replicate 6 0)) 56)).setRow w2.heap.size (arr (sixL h))).setRow (w2.heap.size + 1) (arr (List.replicate 6 0)) = W := ⟨_, rfl⟩
  rw [hW] at HX HA hb6
  have e0 : (((w2.alloc (.cells #[.int .i64 0, .int .i64 0, .int .i64 0, .int .i64 0, .int .i64 0, .int .i64 0] 56)).alloc (.cells #[.int .i64 0, .int .i64 0, .int .i64 0, .int .i64 0, .int .i64 0, .int .i64 0] 56)).setRow w2.heap.size (arr (sixL h))).setRow (w2.heap.size + 1) (arr [0, 0, 0, 0, 0, 0]) = W := hW
  rw [e0]
  clear hW e0 HTx HSx
  go_loopw [7] (fun i wr => ∃ k : Nat, k ≤ 6 ∧ i = .int .i64 k ∧ Hid (Blk wr (w2.heap.size + 1) 56 (arr (opTo h 2 k))) ∧ Below (w2.heap.size + 1) W wr) (fun i _ => 6 - (intOf i).toNat)
  case atStart => exact ⟨0, by omega, rfl, HX, Below.refl _ _⟩
  case round =>
    obtain ⟨k, hk, rfl, HXk, hB⟩ := hrel
    have Hl := Lib.hid (opTo_length h 2 k)
    have hS : ∀ s : Nat, s < 6 → wr.cell? ⟨w2.heap.size, s, none⟩ = some (.int .i64 (bI (bitB h s))) := fun s hs => by rw [(HA.out.below hB (by omega)).cell s, arr_get (by rw [sixL_length]; exact hs), sixL_nth h hs]
    have e : k = 0 ∨ k = 1 ∨ k = 2 ∨ k = 3 ∨ k = 4 ∨ k = 5 ∨ k = 6 := by omega
    rcases e with rfl | rfl | rfl | rfl | rfl | rfl | rfl
    · have hc := hS 3 (by omega)
      have hc5 : wr.cell? ⟨w2.heap.size + 1, 0, none⟩ = some (.int .i64 (nth (opTo h 2 0) 0)) := by rw [HXk.out.cell 0, arr_get (by have := Hl.out; omega)]
      have hf5 := HXk.out.frozen 0
      have HE := Lib.hid (show bI (opB h 2 0) = bI (bitB h (3 : Nat)) from bI_same _)
      obtain ⟨b0, b1⟩ := bI_bd (bitB h (3 : Nat))
      obtain ⟨v, hv⟩ : ∃ v, bI (bitB h (3 : Nat)) = v := ⟨_, rfl⟩
      rw [hv] at hc HE b0 b1
      clear hS hv
      go_wp2_with fail
      go_roundw
      case rel => exact ⟨1, by omega, by go_num, oStep HXk.out HE.out, hB.setCell (Nat.le_refl _) _⟩
      case measure => simp [intOf]
    · have hc := hS 4 (by omega)
      have hc5 : wr.cell? ⟨w2.heap.size + 1, 1, none⟩ = some (.int .i64 (nth (opTo h 2 1) 1)) := by rw [HXk.out.cell 1, arr_get (by have := Hl.out; omega)]
      have hf5 := HXk.out.frozen 1
      have HE := Lib.hid (show bI (opB h 2 1) = bI (bitB h (4 : Nat)) from bI_same _)
      obtain ⟨b0, b1⟩ := bI_bd (bitB h (4 : Nat))
      obtain ⟨v, hv⟩ : ∃ v, bI (bitB h (4 : Nat)) = v := ⟨_, rfl⟩
      rw [hv] at hc HE b0 b1
      clear hS hv
      go_wp2_with fail
      go_roundw
      case rel => exact ⟨2, by omega, by go_num, oStep HXk.out HE.out, hB.setCell (Nat.le_refl _) _⟩
      case measure => simp [intOf]
    · have hc := hS 5 (by omega)
      have hc5 : wr.cell? ⟨w2.heap.size + 1, 2, none⟩ = some (.int .i64 (nth (opTo h 2 2) 2)) := by rw [HXk.out.cell 2, arr_get (by have := Hl.out; omega)]
      have hf5 := HXk.out.frozen 2
      have HE := Lib.hid (show bI (opB h 2 2) = bI (bitB h (5 : Nat)) from bI_same _)
      obtain ⟨b0, b1⟩ := bI_bd (bitB h (5 : Nat))
      obtain ⟨v, hv⟩ : ∃ v, bI (bitB h (5 : Nat)) = v := ⟨_, rfl⟩
      rw [hv] at hc HE b0 b1
      clear hS hv
      go_wp2_with fail
      go_roundw
      case rel => exact ⟨3, by omega, by go_num, oStep HXk.out HE.out, hB.setCell (Nat.le_refl _) _⟩
      case measure => simp [intOf]
    · have hc := hS 0 (by omega)
      have hc5 : wr.cell? ⟨w2.heap.size + 1, 3, none⟩ = some (.int .i64 (nth (opTo h 2 3) 3)) := by rw [HXk.out.cell 3, arr_get (by have := Hl.out; omega)]
      have hf5 := HXk.out.frozen 3
      have HE := Lib.hid (show bI (opB h 2 3) = bI (bitB h (0 : Nat)) from bI_same _)
      obtain ⟨b0, b1⟩ := bI_bd (bitB h (0 : Nat))
      obtain ⟨v, hv⟩ : ∃ v, bI (bitB h (0 : Nat)) = v := ⟨_, rfl⟩
      rw [hv] at hc HE b0 b1
      clear hS hv
      go_wp2_with fail
      go_roundw
      case rel => exact ⟨4, by omega, by go_num, oStep HXk.out HE.out, hB.setCell (Nat.le_refl _) _⟩
      case measure => simp [intOf]
    · have hc := hS 1 (by omega)
      have hc5 : wr.cell? ⟨w2.heap.size + 1, 4, none⟩ = some (.int .i64 (nth (opTo h 2 4) 4)) := by rw [HXk.out.cell 4, arr_get (by have := Hl.out; omega)]
      have hf5 := HXk.out.frozen 4
      have HE := Lib.hid (show bI (opB h 2 4) = bI (bitB h (1 : Nat)) from bI_same _)
      obtain ⟨b0, b1⟩ := bI_bd (bitB h (1 : Nat))
      obtain ⟨v, hv⟩ : ∃ v, bI (bitB h (1 : Nat)) = v := ⟨_, rfl⟩
      rw [hv] at hc HE b0 b1
      clear hS hv
      go_wp2_with fail
      go_roundw
      case rel => exact ⟨5, by omega, by go_num, oStep HXk.out HE.out, hB.setCell (Nat.le_refl _) _⟩
      case measure => simp [intOf]
    · have hc := hS 2 (by omega)
      have hc5 : wr.cell? ⟨w2.heap.size + 1, 5, none⟩ = some (.int .i64 (nth (opTo h 2 5) 5)) := by rw [HXk.out.cell 5, arr_get (by have := Hl.out; omega)]
      have hf5 := HXk.out.frozen 5
      have HE := Lib.hid (show bI (opB h 2 5) = bI (bitB h (2 : Nat)) from bI_same _)
      obtain ⟨b0, b1⟩ := bI_bd (bitB h (2 : Nat))
      obtain ⟨v, hv⟩ : ∃ v, bI (bitB h (2 : Nat)) = v := ⟨_, rfl⟩
      rw [hv] at hc HE b0 b1
      clear hS hv
      go_wp2_with fail
      go_roundw
      case rel => exact ⟨6, by omega, by go_num, oStep HXk.out HE.out, hB.setCell (Nat.le_refl _) _⟩
      case measure => simp [intOf]
    · have HR := Lib.hid (opTo_bts h 2)
      have HN := Lib.hid (opTo_num h 2)
      have HI := Lib.hid (show (Tryz.prog.info? 56).map (·.size) = some (arr (opTo h 2 6)).size by rw [arr_size, Hl.out]; exact info_six)
      have hb7 := hb6.trans (hB.mono (by omega))
      clear hS hB HA HX hb6
      go_wp2_with (first | (refine wpList_load_row rfl 56 (.tmp 6) rfl (w2.heap.size + 1) rfl 56 (arr (opTo h 2 6)) (0, 0) _ HXk.out Tryz.underlying56 rfl HI.out ?_) | fail)
      refine (refNumber_any (opTo h 2 6) Hl HR.out _).mono ?_
      rintro e w' ⟨rfl, hw'⟩
      have hb8 := num_below hw'
      clear hw'
      go_wp2
      go_ret
      exact ⟨by (try rw [HN.out]); rfl, tr hb7 hb8⟩

set_option maxRecDepth 100000 in
set_option maxHeartbeats 4000000 in
theorem refOp3_any (h : Int) (hh : Hex h) (w : World) :
    Calls Tryz.prog 22 #[.int .i64 h, .int .i64 3] w fun e w' => e = .returned (.int .i64 (opV h 3)) ∧ Below w.heap.size w w' := by
  have K1 := Lib.hid hh
  have HSx := Lib.hid (show (Tryz.prog.info? 56).map (·.size) = some (arr (sixL h)).size by rw [arr_size, sixL_length]; exact info_six)
  have HTx := Lib.hid (show (arr (List.replicate 6 0)).size = (arr (sixL h)).size by rw [arr_size, arr_size, sixL_length]; rfl)
  clear hh
  go_enter Tryz.func22, Tryz.ntmps22
  go_wp2_with fail
  refine (refSix_any h K1.out _).mono ?_
  rintro e w2 ⟨rfl, hb4⟩
  have N0 := Lib.hid (show Blk ((w2.alloc (.cells (arr (List.replicate 6 0)) 56)).alloc (.cells (arr (List.replicate 6 0)) 56)) w2.heap.size 56 (arr (List.replicate 6 0)) from (Blk.new w2 _ _).alloc _)
  have L0 := Lib.hid (show Blk ((w2.alloc (.cells (arr (List.replicate 6 0)) 56)).alloc (.cells (arr (List.replicate 6 0)) 56)) (w2.heap.size + 1) 56 (arr (List.replicate 6 0)) from Blk.newN _ _ (by simp))
  have L2 := Lib.hid (show Blk (((w2.alloc (.cells (arr (List.replicate 6 0)) 56)).alloc (.cells (arr (List.replicate 6 0)) 56)).setRow w2.heap.size (arr (sixL h))) (w2.heap.size + 1) 56 (arr (List.replicate 6 0)) from L0.out.rowFar (by omega) _)
  go_wp2_with (first
    | (refine wpList_store_row rfl 56 (.tmp 5) (.tmp 9) rfl w2.heap.size (arr (sixL h)) rfl rfl 56 _ N0.out HSx.out HTx.out (arr_one _) ?_)
    | (refine wpList_store_row rfl 56 (.tmp 6) (.tmp 10) rfl (w2.heap.size + 1) (arr (List.replicate 6 0)) rfl rfl 56 _ L2.out info_six rfl (arr_one _) ?_) | fail)
  have HX := Lib.hid (show Blk ((((w2.alloc (.cells (arr (List.replicate 6 0)) 56)).alloc (.cells (arr (List.replicate 6 0)) 56)).setRow w2.heap.size (arr (sixL h))).setRow (w2.heap.size + 1) (arr (List.replicate 6 0))) (w2.heap.size + 1) 56 (arr (opTo h 3 0)) from by rw [show opTo h 3 0 = List.replicate 6 0 from fillTo_zero _ _]; exact L2.out.row _)
  have HA := Lib.hid (show Blk ((((w2.alloc (.cells (arr (List.replicate 6 0)) 56)).alloc (.cells (arr (List.replicate 6 0)) 56)).setRow w2.heap.size (arr (sixL h))).setRow (w2.heap.size + 1) (arr (List.replicate 6 0))) w2.heap.size 56 (arr (sixL h)) from (N0.out.row _).rowFar (by omega) _)
  have hb5 : Below w2.heap.size w2 ((((w2.alloc (.cells (arr (List.replicate 6 0)) 56)).alloc (.cells (arr (List.replicate 6 0)) 56)).setRow w2.heap.size (arr (sixL h))).setRow (w2.heap.size + 1) (arr (List.replicate 6 0))) := below_setRow (below_setRow (((Below.refl _ _).alloc (Nat.le_refl _) _).alloc (by simp) _) (by omega) _) (by omega) _
  have hsz := hb4.size
  have hb6 := tr hb4 hb5
  clear hb4 hb5 N0 L0 L2
  obtain ⟨W, hW⟩ : ∃ W, (((w2.alloc (.cells (arr (List.replicate 6 0)) 56)).alloc (.cells (arr (List.replicate 6 0)) 56)).setRow w2.heap.size (arr (sixL h))).setRow (w2.heap.size + 1) (arr (List.replicate 6 0)) = W := ⟨_, rfl⟩
  rw [hW] at HX HA hb6
  have e0 : (((w2.alloc (.cells #[.int .i64 0, .int .i64 0, .int .i64 0, .int .i64 0, .int .i64 0, .int .i64 0] 56)).alloc (.cells #[.int .i64 0, .int .i64 0, .int .i64 0, .int .i64 0, .int .i64 0, .int .i64 0] 56)).setRow w2.heap.size (arr (sixL h))).setRow (w2.heap.size + 1) (arr [0, 0, 0, 0, 0, 0]) = W := hW
  rw [e0]
  clear hW e0 HTx HSx
  go_loopw [7] (fun i wr => ∃ k : Nat, k ≤ 6 ∧ i = .int .i64 k ∧ Hid (Blk wr (w2.heap.size + 1) 56 (arr (opTo h 3 k))) ∧ Below (w2.heap.size + 1) W wr) (fun i _ => 6 - (intOf i).toNat)
  case atStart => exact ⟨0, by omega, rfl, HX, Below.refl _ _⟩
  case round =>
    obtain ⟨k, hk, rfl, HXk, hB⟩ := hrel
    have Hl := Lib.hid (opTo_length h 3 k)
    have hS : ∀ s : Nat, s < 6 → wr.cell? ⟨w2.heap.size, s, none⟩ = some (.int .i64 (bI (bitB h s))) := fun s hs => by rw [(HA.out.below hB (by omega)).cell s, arr_get (by rw [sixL_length]; exact hs), sixL_nth h hs]
    have e : k = 0 ∨ k = 1 ∨ k = 2 ∨ k = 3 ∨ k = 4 ∨ k = 5 ∨ k = 6 := by omega
    rcases e with rfl | rfl | rfl | rfl | rfl | rfl | rfl
    · have hc := hS 1 (by omega)
      have hc5 : wr.cell? ⟨w2.heap.size + 1, 0, none⟩ = some (.int .i64 (nth (opTo h 3 0) 0)) := by rw [HXk.out.cell 0, arr_get (by have := Hl.out; omega)]
      have hf5 := HXk.out.frozen 0
      have HE := Lib.hid (show bI (opB h 3 0) = bI (bitB h (1 : Nat)) from bI_same _)
      obtain ⟨b0, b1⟩ := bI_bd (bitB h (1 : Nat))
      obtain ⟨v, hv⟩ : ∃ v, bI (bitB h (1 : Nat)) = v := ⟨_, rfl⟩
      rw [hv] at hc HE b0 b1
      clear hS hv
      go_wp2_with fail
      go_roundw
      case rel => exact ⟨1, by omega, by go_num, oStep HXk.out HE.out, hB.setCell (Nat.le_refl _) _⟩
      case measure => simp [intOf]
    · have hc := hS 2 (by omega)
      have hc5 : wr.cell? ⟨w2.heap.size + 1, 1, none⟩ = some (.int .i64 (nth (opTo h 3 1) 1)) := by rw [HXk.out.cell 1, arr_get (by have := Hl.out; omega)]
      have hf5 := HXk.out.frozen 1
      have HE := Lib.hid (show bI (opB h 3 1) = bI (bitB h (2 : Nat)) from bI_same _)
      obtain ⟨b0, b1⟩ := bI_bd (bitB h (2 : Nat))
      obtain ⟨v, hv⟩ : ∃ v, bI (bitB h (2 : Nat)) = v := ⟨_, rfl⟩
      rw [hv] at hc HE b0 b1
      clear hS hv
      go_wp2_with fail
      go_roundw
      case rel => exact ⟨2, by omega, by go_num, oStep HXk.out HE.out, hB.setCell (Nat.le_refl _) _⟩
      case measure => simp [intOf]
    · have hc := hS 3 (by omega)
      have hc5 : wr.cell? ⟨w2.heap.size + 1, 2, none⟩ = some (.int .i64 (nth (opTo h 3 2) 2)) := by rw [HXk.out.cell 2, arr_get (by have := Hl.out; omega)]
      have hf5 := HXk.out.frozen 2
      have HE := Lib.hid (show bI (opB h 3 2) = bI (bitB h (3 : Nat)) from bI_same _)
      obtain ⟨b0, b1⟩ := bI_bd (bitB h (3 : Nat))
      obtain ⟨v, hv⟩ : ∃ v, bI (bitB h (3 : Nat)) = v := ⟨_, rfl⟩
      rw [hv] at hc HE b0 b1
      clear hS hv
      go_wp2_with fail
      go_roundw
      case rel => exact ⟨3, by omega, by go_num, oStep HXk.out HE.out, hB.setCell (Nat.le_refl _) _⟩
      case measure => simp [intOf]
    · have hc := hS 2 (by omega)
      have hc5 : wr.cell? ⟨w2.heap.size + 1, 3, none⟩ = some (.int .i64 (nth (opTo h 3 3) 3)) := by rw [HXk.out.cell 3, arr_get (by have := Hl.out; omega)]
      have hf5 := HXk.out.frozen 3
      have HE := Lib.hid (show bI (opB h 3 3) = bI (bitB h (2 : Nat)) from bI_same _)
      obtain ⟨b0, b1⟩ := bI_bd (bitB h (2 : Nat))
      obtain ⟨v, hv⟩ : ∃ v, bI (bitB h (2 : Nat)) = v := ⟨_, rfl⟩
      rw [hv] at hc HE b0 b1
      clear hS hv
      go_wp2_with fail
      go_roundw
      case rel => exact ⟨4, by omega, by go_num, oStep HXk.out HE.out, hB.setCell (Nat.le_refl _) _⟩
      case measure => simp [intOf]
    · have hc := hS 3 (by omega)
      have hc5 : wr.cell? ⟨w2.heap.size + 1, 4, none⟩ = some (.int .i64 (nth (opTo h 3 4) 4)) := by rw [HXk.out.cell 4, arr_get (by have := Hl.out; omega)]
      have hf5 := HXk.out.frozen 4
      have HE := Lib.hid (show bI (opB h 3 4) = bI (bitB h (3 : Nat)) from bI_same _)
      obtain ⟨b0, b1⟩ := bI_bd (bitB h (3 : Nat))
      obtain ⟨v, hv⟩ : ∃ v, bI (bitB h (3 : Nat)) = v := ⟨_, rfl⟩
      rw [hv] at hc HE b0 b1
      clear hS hv
      go_wp2_with fail
      go_roundw
      case rel => exact ⟨5, by omega, by go_num, oStep HXk.out HE.out, hB.setCell (Nat.le_refl _) _⟩
      case measure => simp [intOf]
    · have hc := hS 4 (by omega)
      have hc5 : wr.cell? ⟨w2.heap.size + 1, 5, none⟩ = some (.int .i64 (nth (opTo h 3 5) 5)) := by rw [HXk.out.cell 5, arr_get (by have := Hl.out; omega)]
      have hf5 := HXk.out.frozen 5
      have HE := Lib.hid (show bI (opB h 3 5) = bI (bitB h (4 : Nat)) from bI_same _)
      obtain ⟨b0, b1⟩ := bI_bd (bitB h (4 : Nat))
      obtain ⟨v, hv⟩ : ∃ v, bI (bitB h (4 : Nat)) = v := ⟨_, rfl⟩
      rw [hv] at hc HE b0 b1
      clear hS hv
      go_wp2_with fail
      go_roundw
      case rel => exact ⟨6, by omega, by go_num, oStep HXk.out HE.out, hB.setCell (Nat.le_refl _) _⟩
      case measure => simp [intOf]
    · have HR := Lib.hid (opTo_bts h 3)
      have HN := Lib.hid (opTo_num h 3)
      have HI := Lib.hid (show (Tryz.prog.info? 56).map (·.size) = some (arr (opTo h 3 6)).size by rw [arr_size, Hl.out]; exact info_six)
      have hb7 := hb6.trans (hB.mono (by omega))
      clear hS hB HA HX hb6
      go_wp2_with (first | (refine wpList_load_row rfl 56 (.tmp 6) rfl (w2.heap.size + 1) rfl 56 (arr (opTo h 3 6)) (0, 0) _ HXk.out Tryz.underlying56 rfl HI.out ?_) | fail)
      refine (refNumber_any (opTo h 3 6) Hl HR.out _).mono ?_
      rintro e w' ⟨rfl, hw'⟩
      have hb8 := num_below hw'
      clear hw'
      go_wp2
      go_ret
      exact ⟨by (try rw [HN.out]); rfl, tr hb7 hb8⟩

theorem refOp_any (h : Int) (hh : Hex h) (x : Int) (x0 : 0 ≤ x) (x1 : x ≤ 3) (w : World) :
    Calls Tryz.prog 22 #[.int .i64 h, .int .i64 x] w fun e w' => e = .returned (.int .i64 (opV h x.toNat)) ∧ Below w.heap.size w w' := by
  have : x = 0 ∨ x = 1 ∨ x = 2 ∨ x = 3 := by omega
  rcases this with rfl | rfl | rfl | rfl
  · exact refOp0_any h hh w
  · exact refOp1_any h hh w
  · exact refOp2_any h hh w
  · exact refOp3_any h hh w
end Go.Proofs.YtojlopfjhhiilaaGreatDoor
