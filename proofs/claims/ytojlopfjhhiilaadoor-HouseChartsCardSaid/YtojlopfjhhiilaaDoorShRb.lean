/-
  The reference of chapter 3: sums, places, charts.
-/
import Derived.Test.YtojlopfjhhiilaaDoorShR
import Derived.Test.YtojlopfjhhiilaaDoorShN
namespace Go.Proofs.YtojlopfjhhiilaaDoor
open Go Go.RowKit
set_option linter.unusedVariables false

/-- The marks of a sum. -/
def sMark (a b : Int) (k : Nat) : Int := if markF a k = markF b k then 2 else 1
def sMarkTo (a b : Int) (k : Nat) : List Int := (List.range 4).map fun j => if j < k then sMark a b j else 0
theorem sMarkTo_len (a b : Int) (k : Nat) : (sMarkTo a b k).length = 4 := by simp [sMarkTo]
theorem sMarkTo_succ (a b : Int) {k : Nat} (hk : k < 4) : (sMarkTo a b k).set k (sMark a b k) = sMarkTo a b (k + 1) := by
  have e : k = 0 ∨ k = 1 ∨ k = 2 ∨ k = 3 := by omega
  rcases e with rfl | rfl | rfl | rfl <;> rfl
theorem sMark_sum (a b : Int) (ha : Fig a) (hb : Fig b) : ofR (sMarkTo a b 4) = xorF a b := by
  refine figs1 (P := fun a => ofR (sMarkTo a b 4) = xorF a b) (fun i => ?_) ha
  refine figs1 (P := fun b => ofR (sMarkTo (i.val : Int) b 4) = xorF (i.val : Int) b) (fun j => ?_) hb
  revert i j; decide +kernel
theorem sMark_mks (a b : Int) : Mks (sMarkTo a b 4) := fun k hk => by
  have e : k = 0 ∨ k = 1 ∨ k = 2 ∨ k = 3 := by omega
  have h : ∀ j, 1 ≤ sMark a b j ∧ sMark a b j ≤ 2 := fun j => by unfold sMark; split <;> omega
  rcases e with rfl | rfl | rfl | rfl
  · exact h 0
  · exact h 1
  · exact h 2
  · exact h 3

set_option maxRecDepth 100000 in
set_option maxHeartbeats 4000000 in
theorem refSum_any (a b : Int) (ha : Fig a) (hb : Fig b) (w : World) :
    Calls Tryd.prog 45 #[.int .i64 a, .int .i64 b] w fun e w' => e = .returned (.int .i64 (xorF a b)) ∧ Below w.heap.size w w' := by
  have HM := Lib.hid (show Blk (w.alloc (.cells (arr [0, 0, 0, 0]) 109)) w.heap.size 109 (arr (sMarkTo a b 0)) from Blk.new _ _ _)
  go_enter Tryd.func45, Tryd.ntmps45
  go_wp2
  generalize hW : (w.alloc (.cells (arr [0, 0, 0, 0]) 109)) = W2 at HM
  rw [show (w.alloc (.cells #[.int .i64 0, .int .i64 0, .int .i64 0, .int .i64 0] 109)) = W2 from hW]
  have hb3 : Below w.heap.size w W2 := hW ▸ (Below.refl _ _).alloc (Nat.le_refl _) _
  clear hW
  go_loopw [6] (fun i wr => ∃ k : Nat, k ≤ 4 ∧ i = .int .i64 k ∧ Hid (Blk wr w.heap.size 109 (arr (sMarkTo a b k))) ∧ Below w.heap.size W2 wr) (fun i _ => 4 - (intOf i).toNat)
  case atStart => exact ⟨0, by omega, rfl, HM, Below.refl _ _⟩
  case round =>
    obtain ⟨k, hk, rfl, HX, hB⟩ := hrel
    by_cases hlt : k < 4
    · have hc : wr.cell? ⟨w.heap.size, k, none⟩ = some (.int .i64 (nth (sMarkTo a b k) k)) := by rw [HX.out.cell k, arr_get (by rw [sMarkTo_len]; exact hlt)]
      have hf := HX.out.frozen k
      have H2 := Lib.hid (HX.out.set_ k (.int .i64 1))
      have hc2 : (wr.setCell ⟨w.heap.size, k, none⟩ (.int .i64 1)).cell? ⟨w.heap.size, k, none⟩ = some (.int .i64 1) := by rw [H2.out.cell k, arr_set, arr_get (by simp [sMarkTo_len, hlt])]; rw [nth_set (by rw [sMarkTo_len]; exact hlt), if_pos rfl]
      have hf2 := H2.out.frozen k
      by_cases hq : markF a k = markF b k
      · have HK := Lib.hid (show ((sMarkTo a b k).set k 1).set k 2 = sMarkTo a b (k + 1) by rw [← sMarkTo_succ a b hlt, List.set_set]; unfold sMark; rw [if_pos hq])
        have eq : (markF a k == markF b k) = true := by simp [hq]
        have eq2 : decide (markF a k = markF b k) = true := by simp [hq]
        clear hq
        go_wp2_with (go_at_call 38; refine (refLine_any _ k (by assumption) (by omega) _).mono ?_; rintro e w' ⟨rfl, rfl⟩)
        go_roundw
        case rel => exact ⟨k + 1, by omega, by go_num, by have := H2.out.set_ k (.int .i64 2); rw [arr_set, arr_set, HK.out] at this; exact this, (hB.setCell (Nat.le_refl _) _).setCell (Nat.le_refl _) _⟩
        case measure => simp [intOf]; omega
      · have HK := Lib.hid (show (sMarkTo a b k).set k 1 = sMarkTo a b (k + 1) by rw [← sMarkTo_succ a b hlt]; unfold sMark; rw [if_neg hq])
        have eq : (markF a k == markF b k) = false := by simp [hq]
        have eq2 : decide (markF a k = markF b k) = false := by simp [hq]
        clear hq
        go_wp2_with (go_at_call 38; refine (refLine_any _ k (by assumption) (by omega) _).mono ?_; rintro e w' ⟨rfl, rfl⟩)
        go_roundw
        case rel => exact ⟨k + 1, by omega, by go_num, by have := H2.out; rw [arr_set, HK.out] at this; exact this, hB.setCell (Nat.le_refl _) _⟩
        case measure => simp [intOf]; omega
    · obtain rfl : k = 4 := by omega
      have hb4 := hb3.trans hB
      have HI := Lib.hid (show (Tryd.prog.info? 109).map (·.size) = some (arr (sMarkTo a b 4)).size by rw [arr_size, sMarkTo_len]; exact info_marks)
      clear hB hb3
      go_wp2_with (refine wpList_load_row rfl 109 (.tmp 5) rfl w.heap.size rfl 109 (arr (sMarkTo a b 4)) (0, 0) _ HX.out Tryd.underlying109 rfl HI.out ?_)
      refine (refOf_any (sMarkTo a b 4) (Lib.hid (sMarkTo_len a b 4)) (sMark_mks a b) _).mono ?_
      rintro e w' ⟨rfl, rfl⟩
      go_wp2
      go_ret
      exact ⟨by rw [← sMark_sum a b ha hb]; rfl, hb4.alloc hb4.size _⟩
end Go.Proofs.YtojlopfjhhiilaaDoor
