/-
  The reference of chapter 4: hexagrams, their lines, the number of lines.
-/
import Derived.Test.YtojlopfjhhiilaaGreatDoorHxE
namespace Go.Proofs.YtojlopfjhhiilaaGreatDoor
open Go Go.RowKit
set_option linter.unusedVariables false

def hexB (x : Int) : Bool := decide (0 ≤ x ∧ x ≤ 63)
set_option maxHeartbeats 400000 in
theorem refHex_any (f : Int) (w : World) :
    Calls Tryz.prog 8 #[.int .i64 f] w fun e w' => e = .returned (.bool (hexB f)) ∧ w = w' := by
  by_cases h0 : 0 ≤ f
  · by_cases h1 : f ≤ 63
    · go_enter Tryz.func8, Tryz.ntmps8
      go_wp2
      go_ret
      exact ⟨by simp [hexB, h0, h1], rfl⟩
    · go_enter Tryz.func8, Tryz.ntmps8
      go_wp2
      go_ret
      exact ⟨by simp [hexB, h0, h1], rfl⟩
  · go_enter Tryz.func8, Tryz.ntmps8
    go_wp2
    go_ret
    exact ⟨by rw [show hexB f = false by simp [hexB]; omega]; rfl, rfl⟩

/-- A number halved some times. -/
def halfTo (f : Int) : Nat → Int
  | 0 => f
  | k + 1 => halfTo f k / 2
theorem halfTo_bd {f : Int} (hf : Hex f) (k : Nat) : 0 ≤ halfTo f k ∧ halfTo f k ≤ 63 := by
  induction k with
  | zero => exact hf
  | succ k ih => unfold halfTo; omega
/-- A line of a hexagram, as a number. -/
def bI (b : Bool) : Int := if b = true then 1 else 0
theorem half_bit (x : Int) (hx : Hex x) {k : Nat} (hk : k ≤ 5) : halfTo x k % 2 = bI (bitB x k) := by
  refine hex_all (P := fun x => halfTo x k % 2 = bI (bitB x k)) (fun i => ?_) hx
  have e : k = 0 ∨ k = 1 ∨ k = 2 ∨ k = 3 ∨ k = 4 ∨ k = 5 := by omega
  rcases e with rfl | rfl | rfl | rfl | rfl | rfl <;> (revert i; decide +kernel)
theorem bI_bd (b : Bool) : 0 ≤ bI b ∧ bI b ≤ 1 := by unfold bI; split <;> omega

/-- The number of six lines. -/
def Bts (m : List Int) : Prop := ∀ k, k < 6 → 0 ≤ nth m k ∧ nth m k ≤ 1
def numTo (m : List Int) : Nat → Int
  | 0 => 0
  | k + 1 => 2 * numTo m k + nth m (5 - k)
theorem numTo_bd {m : List Int} (hm : Bts m) {k : Nat} (hk : k ≤ 6) : 0 ≤ numTo m k ∧ numTo m k ≤ 63 := by
  have h0 := hm 0 (by omega); have h1 := hm 1 (by omega); have h2 := hm 2 (by omega); have h3 := hm 3 (by omega); have h4 := hm 4 (by omega); have h5 := hm 5 (by omega)
  have e : k = 0 ∨ k = 1 ∨ k = 2 ∨ k = 3 ∨ k = 4 ∨ k = 5 ∨ k = 6 := by omega
  rcases e with rfl | rfl | rfl | rfl | rfl | rfl | rfl <;> simp only [numTo, Nat.sub_zero, Nat.sub_self, show 5 - 1 = 4 from rfl, show 5 - 2 = 3 from rfl, show 5 - 3 = 2 from rfl, show 5 - 4 = 1 from rfl] <;> omega
set_option maxHeartbeats 2000000 in
theorem refNumber_any (m : List Int) (hl : Hid (m.length = 6)) (hm : Bts m) (w : World) :
    Calls Tryz.prog 37 #[.agg (arr m)] w fun e w' => e = .returned (.int .i64 (numTo m 6)) ∧ w.alloc (.cells (arr m) 56) = w' := by
  have HB := Lib.hid (Blk.new w 56 (arr m))
  have Hm := Lib.hid hm
  clear hm
  go_enter Tryz.func37, Tryz.ntmps37
  go_wp2
  go_loop [3, 4] (fun n i => ∃ k : Nat, k ≤ 6 ∧ i = .int .i64 (5 - (k : Int)) ∧ n = .int .i64 (numTo m k)) (fun _ i => (intOf i + 1).toNat)
  case atStart => exact ⟨0, by omega, rfl, rfl⟩
  case round =>
    obtain ⟨k, hk, rfl, rfl⟩ := hrel
    obtain ⟨b0, b1⟩ := numTo_bd Hm.out hk
    have e : k = 0 ∨ k = 1 ∨ k = 2 ∨ k = 3 ∨ k = 4 ∨ k = 5 ∨ k = 6 := by omega
    rcases e with rfl | rfl | rfl | rfl | rfl | rfl | rfl
    · obtain ⟨c0, c1⟩ := Hm.out 5 (by omega)
      have hc : (w.alloc (.cells (arr m) 56)).cell? ⟨w.heap.size, 5, none⟩ = some (.int .i64 (nth m 5)) := by rw [HB.out.cell 5, arr_get (by have := hl.out; omega)]
      go_wp2
      go_round
      case rel => exact ⟨1, by omega, by go_num, rfl⟩
      case measure => simp [intOf]
    · obtain ⟨c0, c1⟩ := Hm.out 4 (by omega)
      have hc : (w.alloc (.cells (arr m) 56)).cell? ⟨w.heap.size, 4, none⟩ = some (.int .i64 (nth m 4)) := by rw [HB.out.cell 4, arr_get (by have := hl.out; omega)]
      go_wp2
      go_round
      case rel => exact ⟨2, by omega, by go_num, rfl⟩
      case measure => simp [intOf]
    · obtain ⟨c0, c1⟩ := Hm.out 3 (by omega)
      have hc : (w.alloc (.cells (arr m) 56)).cell? ⟨w.heap.size, 3, none⟩ = some (.int .i64 (nth m 3)) := by rw [HB.out.cell 3, arr_get (by have := hl.out; omega)]
      go_wp2
      go_round
      case rel => exact ⟨3, by omega, by go_num, rfl⟩
      case measure => simp [intOf]
    · obtain ⟨c0, c1⟩ := Hm.out 2 (by omega)
      have hc : (w.alloc (.cells (arr m) 56)).cell? ⟨w.heap.size, 2, none⟩ = some (.int .i64 (nth m 2)) := by rw [HB.out.cell 2, arr_get (by have := hl.out; omega)]
      go_wp2
      go_round
      case rel => exact ⟨4, by omega, by go_num, rfl⟩
      case measure => simp [intOf]
    · obtain ⟨c0, c1⟩ := Hm.out 1 (by omega)
      have hc : (w.alloc (.cells (arr m) 56)).cell? ⟨w.heap.size, 1, none⟩ = some (.int .i64 (nth m 1)) := by rw [HB.out.cell 1, arr_get (by have := hl.out; omega)]
      go_wp2
      go_round
      case rel => exact ⟨5, by omega, by go_num, rfl⟩
      case measure => simp [intOf]
    · obtain ⟨c0, c1⟩ := Hm.out 0 (by omega)
      have hc : (w.alloc (.cells (arr m) 56)).cell? ⟨w.heap.size, 0, none⟩ = some (.int .i64 (nth m 0)) := by rw [HB.out.cell 0, arr_get (by have := hl.out; omega)]
      go_wp2
      go_round
      case rel => exact ⟨6, by omega, by go_num, rfl⟩
      case measure => simp [intOf]
    · go_wp2
      go_ret
      exact ⟨rfl, rfl⟩

/-- The six lines of a hexagram. -/
def sixL (h : Int) : List Int := (List.range 6).map fun j : Nat => bI (bitB h j)
theorem sixL_length (h : Int) : (sixL h).length = 6 := by simp [sixL]
set_option maxRecDepth 100000 in
set_option maxHeartbeats 1000000 in
theorem refSix_any (h : Int) (hh : Hex h) (w : World) :
    Calls Tryz.prog 36 #[.int .i64 h] w fun e w' => e = .returned (.agg (arr (sixL h))) ∧ Below w.heap.size w w' := by
  have HI := Lib.hid (show (Tryz.prog.info? 56).map (·.size) = some (arr (sixL h)).size by rw [arr_size, sixL_length]; exact info_six)
  have HO := Lib.hid (show (arr (List.replicate 6 0)).size = (arr (sixL h)).size by rw [arr_size, arr_size, sixL_length]; rfl)
  have HR := Lib.hid (Blk.new w 56 (arr (List.replicate 6 0)))
  have HN := Lib.hid (newAt (W := w.alloc (.cells (arr (List.replicate 6 0)) 56)) (o := .cells (arr (List.replicate 6 0)) 56) rfl)
  have Hh := Lib.hid hh
  have E := Lib.hid (show sixL h = (List.range 6).map (fun j : Nat => bI (bitB h j)) from rfl)
  clear hh
  go_enter Tryz.func36, Tryz.ntmps36
  go_wp2_with (first | (refine wpList_store_row rfl 56 (.tmp 3) (.tmp 5) rfl (w.heap.size + 1) (arr (List.replicate 6 0)) rfl rfl 56 _ (by simpa using HN.out) info_six rfl (arr_one _) ?_) | fail)
  have HX := Lib.hid (show Blk ((w.alloc (.cells (arr (List.replicate 6 0)) 56)).alloc (.cells (arr (List.replicate 6 0)) 56)) (w.heap.size + 1) 56 (arr (List.replicate 6 0)) from by have := HN.out; simpa [Blk] using this)
  have hb3 : Below w.heap.size w ((w.alloc (.cells (arr (List.replicate 6 0)) 56)).alloc (.cells (arr (List.replicate 6 0)) 56)) := ((Below.refl _ _).alloc (Nat.le_refl _) _).alloc (by simp) _
  have HR2 := Lib.hid (HR.out.alloc (.cells (arr (List.replicate 6 0)) 56))
  obtain ⟨W, hW⟩ : ∃ W, (w.alloc (.cells (arr (List.replicate 6 0)) 56)).alloc (.cells (arr (List.replicate 6 0)) 56) = W := ⟨_, rfl⟩
  rw [hW] at HX hb3 HR2
  have e0 : (w.alloc (.cells #[.int .i64 0, .int .i64 0, .int .i64 0, .int .i64 0, .int .i64 0, .int .i64 0] 56)).alloc (.cells #[.int .i64 0, .int .i64 0, .int .i64 0, .int .i64 0, .int .i64 0, .int .i64 0] 56) = W := hW
  rw [e0]
  clear hW e0 HR HN
  go_loopw [0, 4] (fun x i wr => ∃ k : Nat, k ≤ 6 ∧ i = .int .i64 k ∧ x = .int .i64 (halfTo h k) ∧ Hid (Blk wr (w.heap.size + 1) 56 (arr (fillTo (fun j => bI (bitB h j)) 6 k))) ∧ Below (w.heap.size + 1) W wr) (fun _ i _ => 6 - (intOf i).toNat)
  case atStart => exact ⟨0, by omega, rfl, rfl, by rw [fillTo_zero]; exact HX, Below.refl _ _⟩
  case round =>
    obtain ⟨k, hk, rfl, rfl, HXk, hB⟩ := hrel
    have Hl := Lib.hid (fillTo_length (fun j => bI (bitB h j)) 6 k)
    by_cases hlt : k < 6
    · have hc5 : wr.cell? ⟨w.heap.size + 1, k, none⟩ = some (.int .i64 (nth (fillTo (fun j => bI (bitB h j)) 6 k) k)) := by rw [HXk.out.cell k, arr_get (by have := Hl.out; omega)]
      have hf5 := HXk.out.frozen k
      have HB := Lib.hid (half_bit h Hh.out (k := k) (by omega))
      obtain ⟨b0, b1⟩ := halfTo_bd Hh.out k
      go_wp2_with fail
      go_roundw
      case rel => exact ⟨k + 1, by omega, by go_num, rfl, by have := HXk.out.set_ k (.int .i64 (bI (bitB h k))); rw [arr_set, fillTo_succ (fun j => bI (bitB h j)) 6 k, ← HB.out] at this; exact this, hB.setCell (by simp) _⟩
      case measure => simp [intOf]; omega
    · obtain rfl : k = 6 := by omega
      have HR := Lib.hid (HR2.out.below hB (by omega))
      rw [fillTo_all (fun j => bI (bitB h j)) 6, ← E.out] at HXk
      have hB4 := hb3.trans (hB.mono (by omega))
      clear hB hb3 HX HR2
      go_wp2_with (first | (refine wpList_load_row rfl 56 (.tmp 3) rfl (w.heap.size + 1) rfl 56 (arr (sixL h)) (0, 0) _ HXk.out Tryz.underlying56 rfl HI.out ?_) | (refine wpList_store_row rfl 56 (.tmp 2) (.tmp 16) rfl w.heap.size (arr (sixL h)) rfl rfl 56 _ HR.out HI.out HO.out (arr_one _) ?_) | fail)
      exact bodyPost_ret (v := .agg (arr (sixL h))) (results_cell_row Tryz.results36 _ _ w.heap.size 56 _ (0, 0) _ rfl (HR.out.row _) Tryz.underlying56 rfl HI.out) rfl ⟨rfl, below_setRow hB4 (by omega) _⟩
end Go.Proofs.YtojlopfjhhiilaaGreatDoor
