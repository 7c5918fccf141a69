/-
  The reference of chapter 4: the hexagram of a palace at a step. (Written by genhxrm.py.)
-/
import Derived.Test.YtoeflgmdaaefeaaGreatDoorHxRm
namespace Go.Proofs.YtoeflgmdaaefeaaGreatDoor
open Go Go.RowKit
set_option linter.unusedVariables false

theorem mem4_len (h : Int) (k : Nat) (hk : k ≤ 4) : (memTo h [0, 1, 2, 3] k).length = 6 := by
  have e : k = 0 ∨ k = 1 ∨ k = 2 ∨ k = 3 ∨ k = 4 := by omega
  rcases e with rfl | rfl | rfl | rfl | rfl <;> simp [memTo, sixL_length]
set_option maxRecDepth 100000 in
set_option maxHeartbeats 4000000 in
theorem mem4_bts (h : Int) (hh : Hex h) : ∀ k, k < 5 → Bts (memTo h [0, 1, 2, 3] k) := by
  refine hex_all (P := fun h => ∀ k, k < 5 → ∀ j, j < 6 → 0 ≤ nth (memTo h [0, 1, 2, 3] k) j ∧ nth (memTo h [0, 1, 2, 3] k) j ≤ 1) (by decide +kernel) hh
set_option maxRecDepth 100000 in
set_option maxHeartbeats 4000000 in
theorem refMember4_any (h : Int) (hh : Hex h) (w : World) :
    Calls Tryz.prog 35 #[.int .i64 h, .int .i64 4] w fun e w' => e = .returned (.int .i64 (memN h [0, 1, 2, 3])) ∧ Below w.heap.size w w' := by
  have K1 := Lib.hid hh
  have HB := Lib.hid (mem4_bts h hh)
  have HSx := Lib.hid (show (Tryz.prog.info? 45).map (·.size) = some (arr (sixL h)).size by rw [arr_size, sixL_length]; exact info_six)
  have HTx := Lib.hid (show (arr (List.replicate 6 0)).size = (arr (sixL h)).size by rw [arr_size, arr_size, sixL_length]; rfl)
  clear hh
  go_enter Tryz.func35, Tryz.ntmps35
  go_wp2_with fail
  refine (refSix_any h K1.out _).mono ?_
  rintro e w2 ⟨rfl, hb4⟩
  have HN := Lib.hid (Blk.new w2 45 (arr (List.replicate 6 0)))
  go_wp2_with (first
    | (refine wpList_store_row rfl 45 (.tmp 5) (.tmp 9) rfl w2.heap.size (arr (sixL h)) rfl rfl 45 _ HN.out HSx.out HTx.out (arr_one _) ?_) | fail)
  have HA0 := Lib.hid (show Blk (((((((((((w2.alloc (.cells (arr (List.replicate 6 0)) 45)).setRow w2.heap.size (arr (sixL h))).alloc (.cells #[] 3)).alloc (.cells #[.int .i64 0] 3)).alloc (.cells #[.int .i64 0, .int .i64 1] 3)).alloc (.cells #[.int .i64 0, .int .i64 1, .int .i64 2] 3)).alloc (.cells #[.int .i64 0, .int .i64 1, .int .i64 2, .int .i64 3] 3)).alloc (.cells #[.int .i64 0, .int .i64 1, .int .i64 2, .int .i64 3, .int .i64 4] 3)).alloc (.cells #[.int .i64 0, .int .i64 1, .int .i64 2, .int .i64 4] 3)).alloc (.cells #[.int .i64 4] 3)).alloc (.cells #[.slice (some ⟨w2.heap.size + 1, 0, none⟩) 0 0, .slice (some ⟨w2.heap.size + 1 + 1, 0, none⟩) 1 1, .slice (some ⟨w2.heap.size + 1 + 1 + 1, 0, none⟩) 2 2, .slice (some ⟨w2.heap.size + 1 + 1 + 1 + 1, 0, none⟩) 3 3, .slice (some ⟨w2.heap.size + 1 + 1 + 1 + 1 + 1, 0, none⟩) 4 4, .slice (some ⟨w2.heap.size + 1 + 1 + 1 + 1 + 1 + 1, 0, none⟩) 5 5, .slice (some ⟨w2.heap.size + 1 + 1 + 1 + 1 + 1 + 1 + 1, 0, none⟩) 4 4, .slice (some ⟨w2.heap.size + 1 + 1 + 1 + 1 + 1 + 1 + 1 + 1, 0, none⟩) 1 1] 22)) w2.heap.size 45 (arr (sixL h)) from ((((((((((HN.out.row _).alloc _).alloc _).alloc _).alloc _).alloc _).alloc _).alloc _).alloc _).alloc _))
  have HT0 := Lib.hid (show Blk (((((((((((w2.alloc (.cells (arr (List.replicate 6 0)) 45)).setRow w2.heap.size (arr (sixL h))).alloc (.cells #[] 3)).alloc (.cells #[.int .i64 0] 3)).alloc (.cells #[.int .i64 0, .int .i64 1] 3)).alloc (.cells #[.int .i64 0, .int .i64 1, .int .i64 2] 3)).alloc (.cells #[.int .i64 0, .int .i64 1, .int .i64 2, .int .i64 3] 3)).alloc (.cells #[.int .i64 0, .int .i64 1, .int .i64 2, .int .i64 3, .int .i64 4] 3)).alloc (.cells #[.int .i64 0, .int .i64 1, .int .i64 2, .int .i64 4] 3)).alloc (.cells #[.int .i64 4] 3)).alloc (.cells #[.slice (some ⟨w2.heap.size + 1, 0, none⟩) 0 0, .slice (some ⟨w2.heap.size + 1 + 1, 0, none⟩) 1 1, .slice (some ⟨w2.heap.size + 1 + 1 + 1, 0, none⟩) 2 2, .slice (some ⟨w2.heap.size + 1 + 1 + 1 + 1, 0, none⟩) 3 3, .slice (some ⟨w2.heap.size + 1 + 1 + 1 + 1 + 1, 0, none⟩) 4 4, .slice (some ⟨w2.heap.size + 1 + 1 + 1 + 1 + 1 + 1, 0, none⟩) 5 5, .slice (some ⟨w2.heap.size + 1 + 1 + 1 + 1 + 1 + 1 + 1, 0, none⟩) 4 4, .slice (some ⟨w2.heap.size + 1 + 1 + 1 + 1 + 1 + 1 + 1 + 1, 0, none⟩) 1 1] 22)) (w2.heap.size + 1 + 1 + 1 + 1 + 1) 3 #[.int .i64 0, .int .i64 1, .int .i64 2, .int .i64 3] from (((((Blk.newN (W := ((((((w2.alloc (.cells (arr (List.replicate 6 0)) 45)).setRow w2.heap.size (arr (sixL h))).alloc (.cells #[] 3)).alloc (.cells #[.int .i64 0] 3)).alloc (.cells #[.int .i64 0, .int .i64 1] 3)).alloc (.cells #[.int .i64 0, .int .i64 1, .int .i64 2] 3))) _ _ (by simp)).alloc _).alloc _).alloc _).alloc _))
  have hb5 : Below w.heap.size w (((((((((((w2.alloc (.cells (arr (List.replicate 6 0)) 45)).setRow w2.heap.size (arr (sixL h))).alloc (.cells #[] 3)).alloc (.cells #[.int .i64 0] 3)).alloc (.cells #[.int .i64 0, .int .i64 1] 3)).alloc (.cells #[.int .i64 0, .int .i64 1, .int .i64 2] 3)).alloc (.cells #[.int .i64 0, .int .i64 1, .int .i64 2, .int .i64 3] 3)).alloc (.cells #[.int .i64 0, .int .i64 1, .int .i64 2, .int .i64 3, .int .i64 4] 3)).alloc (.cells #[.int .i64 0, .int .i64 1, .int .i64 2, .int .i64 4] 3)).alloc (.cells #[.int .i64 4] 3)).alloc (.cells #[.slice (some ⟨w2.heap.size + 1, 0, none⟩) 0 0, .slice (some ⟨w2.heap.size + 1 + 1, 0, none⟩) 1 1, .slice (some ⟨w2.heap.size + 1 + 1 + 1, 0, none⟩) 2 2, .slice (some ⟨w2.heap.size + 1 + 1 + 1 + 1, 0, none⟩) 3 3, .slice (some ⟨w2.heap.size + 1 + 1 + 1 + 1 + 1, 0, none⟩) 4 4, .slice (some ⟨w2.heap.size + 1 + 1 + 1 + 1 + 1 + 1, 0, none⟩) 5 5, .slice (some ⟨w2.heap.size + 1 + 1 + 1 + 1 + 1 + 1 + 1, 0, none⟩) 4 4, .slice (some ⟨w2.heap.size + 1 + 1 + 1 + 1 + 1 + 1 + 1 + 1, 0, none⟩) 1 1] 22)) := by
    refine hb4.trans (Below.mono (B := w2.heap.size) ?_ hb4.size)
    exact (((((((((below_setRow (below1 w2 _) (Nat.le_refl _) _).alloc (by simp) _).alloc (by simp; omega) _).alloc (by simp; omega) _).alloc (by simp; omega) _).alloc (by simp; omega) _).alloc (by simp; omega) _).alloc (by simp; omega) _).alloc (by simp; omega) _).alloc (by simp; omega) _
  obtain ⟨V, hV⟩ : ∃ V, (((((((((((w2.alloc (.cells (arr (List.replicate 6 0)) 45)).setRow w2.heap.size (arr (sixL h))).alloc (.cells #[] 3)).alloc (.cells #[.int .i64 0] 3)).alloc (.cells #[.int .i64 0, .int .i64 1] 3)).alloc (.cells #[.int .i64 0, .int .i64 1, .int .i64 2] 3)).alloc (.cells #[.int .i64 0, .int .i64 1, .int .i64 2, .int .i64 3] 3)).alloc (.cells #[.int .i64 0, .int .i64 1, .int .i64 2, .int .i64 3, .int .i64 4] 3)).alloc (.cells #[.int .i64 0, .int .i64 1, .int .i64 2, .int .i64 4] 3)).alloc (.cells #[.int .i64 4] 3)).alloc (.cells #[.slice (some ⟨w2.heap.size + 1, 0, none⟩) 0 0, .slice (some ⟨w2.heap.size + 1 + 1, 0, none⟩) 1 1, .slice (some ⟨w2.heap.size + 1 + 1 + 1, 0, none⟩) 2 2, .slice (some ⟨w2.heap.size + 1 + 1 + 1 + 1, 0, none⟩) 3 3, .slice (some ⟨w2.heap.size + 1 + 1 + 1 + 1 + 1, 0, none⟩) 4 4, .slice (some ⟨w2.heap.size + 1 + 1 + 1 + 1 + 1 + 1, 0, none⟩) 5 5, .slice (some ⟨w2.heap.size + 1 + 1 + 1 + 1 + 1 + 1 + 1, 0, none⟩) 4 4, .slice (some ⟨w2.heap.size + 1 + 1 + 1 + 1 + 1 + 1 + 1 + 1, 0, none⟩) 1 1] 22)) = V := ⟨_, rfl⟩
  rw [hV] at HA0 HT0 hb5
  have e0 : (((((((((((w2.alloc (.cells #[.int .i64 0, .int .i64 0, .int .i64 0, .int .i64 0, .int .i64 0, .int .i64 0] 45)).setRow w2.heap.size (arr (sixL h))).alloc (.cells #[] 3)).alloc (.cells #[.int .i64 0] 3)).alloc (.cells #[.int .i64 0, .int .i64 1] 3)).alloc (.cells #[.int .i64 0, .int .i64 1, .int .i64 2] 3)).alloc (.cells #[.int .i64 0, .int .i64 1, .int .i64 2, .int .i64 3] 3)).alloc (.cells #[.int .i64 0, .int .i64 1, .int .i64 2, .int .i64 3, .int .i64 4] 3)).alloc (.cells #[.int .i64 0, .int .i64 1, .int .i64 2, .int .i64 4] 3)).alloc (.cells #[.int .i64 4] 3)).alloc (.cells #[.slice (some ⟨w2.heap.size + 1, 0, none⟩) 0 0, .slice (some ⟨w2.heap.size + 1 + 1, 0, none⟩) 1 1, .slice (some ⟨w2.heap.size + 1 + 1 + 1, 0, none⟩) 2 2, .slice (some ⟨w2.heap.size + 1 + 1 + 1 + 1, 0, none⟩) 3 3, .slice (some ⟨w2.heap.size + 1 + 1 + 1 + 1 + 1, 0, none⟩) 4 4, .slice (some ⟨w2.heap.size + 1 + 1 + 1 + 1 + 1 + 1, 0, none⟩) 5 5, .slice (some ⟨w2.heap.size + 1 + 1 + 1 + 1 + 1 + 1 + 1, 0, none⟩) 4 4, .slice (some ⟨w2.heap.size + 1 + 1 + 1 + 1 + 1 + 1 + 1 + 1, 0, none⟩) 1 1] 22)) = V := hV
  rw [e0]
  clear hV e0 HTx HSx HN
  have hsz := hb4.size
  go_loopw [7] (fun i wr => ∃ k : Nat, k ≤ 4 ∧ i = .int .i64 k ∧ Hid (Blk wr w2.heap.size 45 (arr (memTo h [0, 1, 2, 3] k))) ∧ Hid (Blk wr (w2.heap.size + 1 + 1 + 1 + 1 + 1) 3 #[.int .i64 0, .int .i64 1, .int .i64 2, .int .i64 3]) ∧ Below w.heap.size w wr) (fun i _ => 4 - (intOf i).toNat)
  case atStart => exact ⟨0, by omega, rfl, HA0, HT0, hb5⟩
  case round =>
    obtain ⟨k, hk, rfl, HA, HT, hB⟩ := hrel
    clear HA0 HT0 hb5
    have e : k = 0 ∨ k = 1 ∨ k = 2 ∨ k = 3 ∨ k = 4 := by omega
    rcases e with rfl | rfl | rfl | rfl | rfl
    · have ct : wr.cell? ⟨w2.heap.size + 1 + 1 + 1 + 1 + 1, 0, none⟩ = some (.int .i64 0) := HT.out.cell 0
      have ca : wr.cell? ⟨w2.heap.size, 0, none⟩ = some (.int .i64 (nth (memTo h [0, 1, 2, 3] 0) 0)) := by rw [HA.out.cell 0, arr_get (by rw [mem4_len h 0 (by omega)]; omega)]
      have fa := HA.out.frozen 0
      obtain ⟨b0, b1⟩ := HB.out 0 (by omega) 0 (by omega)
      have E := Lib.hid (show memTo h [0, 1, 2, 3] 1 = (memTo h [0, 1, 2, 3] 0).set 0 (1 - nth (memTo h [0, 1, 2, 3] 0) 0) from rfl)
      have HS := Lib.hid (show Blk (wr.setCell ⟨w2.heap.size, 0, none⟩ (.int .i64 (1 - nth (memTo h [0, 1, 2, 3] 0) 0))) w2.heap.size 45 (arr (memTo h [0, 1, 2, 3] 1)) from by have := HA.out.set_ 0 (.int .i64 (1 - nth (memTo h [0, 1, 2, 3] 0) 0)); rw [arr_set, ← E.out] at this; exact this)
      obtain ⟨v, hv⟩ : ∃ v, nth (memTo h [0, 1, 2, 3] 0) 0 = v := ⟨_, rfl⟩
      rw [hv] at ca HS b0 b1
      clear E hv
      go_wp2_with fail
      go_still_tail 12, (by kernel_rfl)
      go_wp2_with fail
      go_roundw
      case rel => exact ⟨1, by omega, by go_num, HS, HT.out.far (show w2.heap.size + 1 + 1 + 1 + 1 + 1 ≠ w2.heap.size by omega) _, (hB.setCell hsz _).drew⟩
      case measure => simp [intOf]
    · have ct : wr.cell? ⟨w2.heap.size + 1 + 1 + 1 + 1 + 1, 1, none⟩ = some (.int .i64 1) := HT.out.cell 1
      have ca : wr.cell? ⟨w2.heap.size, 1, none⟩ = some (.int .i64 (nth (memTo h [0, 1, 2, 3] 1) 1)) := by rw [HA.out.cell 1, arr_get (by rw [mem4_len h 1 (by omega)]; omega)]
      have fa := HA.out.frozen 1
      obtain ⟨b0, b1⟩ := HB.out 1 (by omega) 1 (by omega)
      have E := Lib.hid (show memTo h [0, 1, 2, 3] 2 = (memTo h [0, 1, 2, 3] 1).set 1 (1 - nth (memTo h [0, 1, 2, 3] 1) 1) from rfl)
      have HS := Lib.hid (show Blk (wr.setCell ⟨w2.heap.size, 1, none⟩ (.int .i64 (1 - nth (memTo h [0, 1, 2, 3] 1) 1))) w2.heap.size 45 (arr (memTo h [0, 1, 2, 3] 2)) from by have := HA.out.set_ 1 (.int .i64 (1 - nth (memTo h [0, 1, 2, 3] 1) 1)); rw [arr_set, ← E.out] at this; exact this)
      obtain ⟨v, hv⟩ : ∃ v, nth (memTo h [0, 1, 2, 3] 1) 1 = v := ⟨_, rfl⟩
      rw [hv] at ca HS b0 b1
      clear E hv
      go_wp2_with fail
      go_still_tail 12, (by kernel_rfl)
      go_wp2_with fail
      go_roundw
      case rel => exact ⟨2, by omega, by go_num, HS, HT.out.far (show w2.heap.size + 1 + 1 + 1 + 1 + 1 ≠ w2.heap.size by omega) _, (hB.setCell hsz _).drew⟩
      case measure => simp [intOf]
    · have ct : wr.cell? ⟨w2.heap.size + 1 + 1 + 1 + 1 + 1, 2, none⟩ = some (.int .i64 2) := HT.out.cell 2
      have ca : wr.cell? ⟨w2.heap.size, 2, none⟩ = some (.int .i64 (nth (memTo h [0, 1, 2, 3] 2) 2)) := by rw [HA.out.cell 2, arr_get (by rw [mem4_len h 2 (by omega)]; omega)]
      have fa := HA.out.frozen 2
      obtain ⟨b0, b1⟩ := HB.out 2 (by omega) 2 (by omega)
      have E := Lib.hid (show memTo h [0, 1, 2, 3] 3 = (memTo h [0, 1, 2, 3] 2).set 2 (1 - nth (memTo h [0, 1, 2, 3] 2) 2) from rfl)
      have HS := Lib.hid (show Blk (wr.setCell ⟨w2.heap.size, 2, none⟩ (.int .i64 (1 - nth (memTo h [0, 1, 2, 3] 2) 2))) w2.heap.size 45 (arr (memTo h [0, 1, 2, 3] 3)) from by have := HA.out.set_ 2 (.int .i64 (1 - nth (memTo h [0, 1, 2, 3] 2) 2)); rw [arr_set, ← E.out] at this; exact this)
      obtain ⟨v, hv⟩ : ∃ v, nth (memTo h [0, 1, 2, 3] 2) 2 = v := ⟨_, rfl⟩
      rw [hv] at ca HS b0 b1
      clear E hv
      go_wp2_with fail
      go_still_tail 12, (by kernel_rfl)
      go_wp2_with fail
      go_roundw
      case rel => exact ⟨3, by omega, by go_num, HS, HT.out.far (show w2.heap.size + 1 + 1 + 1 + 1 + 1 ≠ w2.heap.size by omega) _, (hB.setCell hsz _).drew⟩
      case measure => simp [intOf]
    · have ct : wr.cell? ⟨w2.heap.size + 1 + 1 + 1 + 1 + 1, 3, none⟩ = some (.int .i64 3) := HT.out.cell 3
      have ca : wr.cell? ⟨w2.heap.size, 3, none⟩ = some (.int .i64 (nth (memTo h [0, 1, 2, 3] 3) 3)) := by rw [HA.out.cell 3, arr_get (by rw [mem4_len h 3 (by omega)]; omega)]
      have fa := HA.out.frozen 3
      obtain ⟨b0, b1⟩ := HB.out 3 (by omega) 3 (by omega)
      have E := Lib.hid (show memTo h [0, 1, 2, 3] 4 = (memTo h [0, 1, 2, 3] 3).set 3 (1 - nth (memTo h [0, 1, 2, 3] 3) 3) from rfl)
      have HS := Lib.hid (show Blk (wr.setCell ⟨w2.heap.size, 3, none⟩ (.int .i64 (1 - nth (memTo h [0, 1, 2, 3] 3) 3))) w2.heap.size 45 (arr (memTo h [0, 1, 2, 3] 4)) from by have := HA.out.set_ 3 (.int .i64 (1 - nth (memTo h [0, 1, 2, 3] 3) 3)); rw [arr_set, ← E.out] at this; exact this)
      obtain ⟨v, hv⟩ : ∃ v, nth (memTo h [0, 1, 2, 3] 3) 3 = v := ⟨_, rfl⟩
      rw [hv] at ca HS b0 b1
      clear E hv
      go_wp2_with fail
      go_still_tail 12, (by kernel_rfl)
      go_wp2_with fail
      go_roundw
      case rel => exact ⟨4, by omega, by go_num, HS, HT.out.far (show w2.heap.size + 1 + 1 + 1 + 1 + 1 ≠ w2.heap.size by omega) _, (hB.setCell hsz _).drew⟩
      case measure => simp [intOf]
    · have HR := Lib.hid (HB.out 4 (by omega))
      have HE := Lib.hid (show memN h [0, 1, 2, 3] = numTo (memTo h [0, 1, 2, 3] 4) 6 from rfl)
      have Hl := Lib.hid (mem4_len h 4 (Nat.le_refl _))
      have HI := Lib.hid (show (Tryz.prog.info? 45).map (·.size) = some (arr (memTo h [0, 1, 2, 3] 4)).size by rw [arr_size, Hl.out]; exact info_six)
      go_wp2_with (first | (refine wpList_load_row rfl 45 (.tmp 5) rfl w2.heap.size rfl 45 (arr (memTo h [0, 1, 2, 3] 4)) (0, 0) _ HA.out Tryz.underlying45 rfl HI.out ?_) | fail)
      refine (refNumber_any (memTo h [0, 1, 2, 3] 4) Hl HR.out _).mono ?_
      rintro e w' ⟨rfl, hw'⟩
      have hb8 := num_below hw'
      clear hw'
      go_wp2
      go_ret
      exact ⟨by rw [HE.out]; rfl, tr hB hb8⟩
end Go.Proofs.YtoeflgmdaaefeaaGreatDoor
