/-
  The reference of chapter 3: lines, marks and sums.
-/
import Derived.Test.YtdnccdobnhbpeaaDoorShV
import Derived.Test.YtdnccdobnhbpeaaDoorShMa
namespace Go.Proofs.YtdnccdobnhbpeaaDoor
open Go Go.RowKit
set_option linter.unusedVariables false

/-- Whether a number is a figure. -/
def figB (f : Int) : Bool := decide (0 ≤ f ∧ f ≤ 15)
set_option maxHeartbeats 400000 in
theorem refFigure_any (f : Int) (w : World) :
    Calls Tryd.prog 36 #[.int .i64 f] w fun e w' => e = .returned (.bool (figB f)) ∧ w = w' := by
  by_cases h0 : 0 ≤ f
  · by_cases h1 : f ≤ 15
    · go_enter Tryd.func36, Tryd.ntmps36
      go_wp2
      go_ret
      exact ⟨by simp [figB, h0, h1], rfl⟩
    · go_enter Tryd.func36, Tryd.ntmps36
      go_wp2
      go_ret
      exact ⟨by simp [figB, h0, h1], rfl⟩
  · go_enter Tryd.func36, Tryd.ntmps36
    go_wp2
    go_ret
    exact ⟨by rw [show figB f = false by simp [figB]; omega]; rfl, rfl⟩

/-- A number halved some times. -/
def halfTo (f : Int) : Nat → Int
  | 0 => f
  | k + 1 => halfTo f k / 2
theorem halfTo_bd {f : Int} (hf : Fig f) (k : Nat) : 0 ≤ halfTo f k ∧ halfTo f k ≤ 15 := by
  induction k with
  | zero => exact hf
  | succ k ih => unfold halfTo; omega
theorem half_mark (x : Int) (hx : Fig x) {k : Nat} (hk : k ≤ 3) : 2 - halfTo x k % 2 = markF x k := by
  refine figs1 (P := fun x => 2 - halfTo x k % 2 = markF x k) (fun i => ?_) hx
  have e : k = 0 ∨ k = 1 ∨ k = 2 ∨ k = 3 := by omega
  rcases e with rfl | rfl | rfl | rfl <;> (revert i; decide +kernel)
theorem markF_bd (f : Int) (k : Nat) : 1 ≤ markF f k ∧ markF f k ≤ 2 := by unfold markF; split <;> omega
set_option maxHeartbeats 1000000 in
theorem refLine_any (f : Int) (l : Nat) (hf : Fig f) (hl : l ≤ 3) (w : World) :
    Calls Tryd.prog 40 #[.int .i64 f, .int .i64 l] w fun e w' => e = .returned (.int .i64 (markF f l)) ∧ w = w' := by
  have HM := Lib.hid (half_mark f hf hl)
  have hb := halfTo_bd hf
  go_enter Tryd.func40, Tryd.ntmps40
  go_wp2
  go_loop [5, 6] (fun n i => ∃ k : Nat, k ≤ l ∧ i = .int .i64 k ∧ n = .int .i64 (halfTo f k)) (fun _ i => l - (intOf i).toNat)
  case atStart => exact ⟨0, by omega, rfl, rfl⟩
  case round =>
    obtain ⟨k, hk, rfl, rfl⟩ := hrel
    obtain ⟨b0, b1⟩ := hb k
    clear hb
    by_cases hlt : k < l
    · go_wp2
      go_round
      case rel => exact ⟨k + 1, by omega, by go_num, rfl⟩
      case measure => simp [intOf]; omega
    · obtain rfl : k = l := by omega
      go_wp2
      go_ret
      exact ⟨by rw [← HM.out]; rfl, rfl⟩

/-- The figure of four marks, each 1 or 2. -/
def ofR (m : List Int) : Int := (2 - nth m 0) + 2 * (2 - nth m 1) + 4 * (2 - nth m 2) + 8 * (2 - nth m 3)
def Mks (m : List Int) : Prop := ∀ k, k < 4 → 1 ≤ nth m k ∧ nth m k ≤ 2
/-- Of the lines from 4 - k on. -/
def ofRTo (m : List Int) : Nat → Int
  | 0 => 0
  | k + 1 => 2 * ofRTo m k + 2 - nth m (3 - k)
theorem ofRTo_bd {m : List Int} (hm : Mks m) {k : Nat} (hk : k ≤ 4) : 0 ≤ ofRTo m k ∧ ofRTo m k ≤ 15 := by
  have h0 := hm 0 (by omega); have h1 := hm 1 (by omega); have h2 := hm 2 (by omega); have h3 := hm 3 (by omega)
  have e : k = 0 ∨ k = 1 ∨ k = 2 ∨ k = 3 ∨ k = 4 := by omega
  rcases e with rfl | rfl | rfl | rfl | rfl <;> simp only [ofRTo, Nat.sub_zero, Nat.sub_self, show 3 - 1 = 2 from rfl, show 3 - 2 = 1 from rfl] <;> omega
set_option maxHeartbeats 2000000 in
theorem refOf_any (m : List Int) (hl : Hid (m.length = 4)) (hm : Mks m) (w : World) :
    Calls Tryd.prog 55 #[.agg (arr m)] w fun e w' => e = .returned (.int .i64 (ofR m)) ∧ w.alloc (.cells (arr m) 111) = w' := by
  have HB := Lib.hid (Blk.new w 111 (arr m))
  have Hm := Lib.hid hm
  clear hm
  go_enter Tryd.func55, Tryd.ntmps55
  go_wp2
  go_loop [3, 4] (fun n i => ∃ k : Nat, k ≤ 4 ∧ i = .int .i64 (3 - (k : Int)) ∧ n = .int .i64 (ofRTo m k)) (fun _ i => (intOf i + 1).toNat)
  case atStart => exact ⟨0, by omega, rfl, rfl⟩
  case round =>
    obtain ⟨k, hk, rfl, rfl⟩ := hrel
    obtain ⟨b0, b1⟩ := ofRTo_bd Hm.out hk
    have e : k = 0 ∨ k = 1 ∨ k = 2 ∨ k = 3 ∨ k = 4 := by omega
    rcases e with rfl | rfl | rfl | rfl | rfl
    · obtain ⟨c0, c1⟩ := Hm.out 3 (by omega)
      have hc : (w.alloc (.cells (arr m) 111)).cell? ⟨w.heap.size, 3, none⟩ = some (.int .i64 (nth m 3)) := by rw [HB.out.cell 3, arr_get (by have := hl.out; omega)]
      go_wp2
      go_round
      case rel => exact ⟨1, by omega, by go_num, rfl⟩
      case measure => simp [intOf]
    · obtain ⟨c0, c1⟩ := Hm.out 2 (by omega)
      have hc : (w.alloc (.cells (arr m) 111)).cell? ⟨w.heap.size, 2, none⟩ = some (.int .i64 (nth m 2)) := by rw [HB.out.cell 2, arr_get (by have := hl.out; omega)]
      go_wp2
      go_round
      case rel => exact ⟨2, by omega, by go_num, rfl⟩
      case measure => simp [intOf]
    · obtain ⟨c0, c1⟩ := Hm.out 1 (by omega)
      have hc : (w.alloc (.cells (arr m) 111)).cell? ⟨w.heap.size, 1, none⟩ = some (.int .i64 (nth m 1)) := by rw [HB.out.cell 1, arr_get (by have := hl.out; omega)]
      go_wp2
      go_round
      case rel => exact ⟨3, by omega, by go_num, rfl⟩
      case measure => simp [intOf]
    · obtain ⟨c0, c1⟩ := Hm.out 0 (by omega)
      have hc : (w.alloc (.cells (arr m) 111)).cell? ⟨w.heap.size, 0, none⟩ = some (.int .i64 (nth m 0)) := by rw [HB.out.cell 0, arr_get (by have := hl.out; omega)]
      go_wp2
      go_round
      case rel => exact ⟨4, by omega, by go_num, rfl⟩
      case measure => simp [intOf]
    · go_wp2
      go_ret
      exact ⟨by simp only [ofRTo, ofR, Nat.sub_zero, Nat.sub_self, show 3 - 1 = 2 from rfl, show 3 - 2 = 1 from rfl]; refine ret_int ?_; omega, rfl⟩
end Go.Proofs.YtdnccdobnhbpeaaDoor
