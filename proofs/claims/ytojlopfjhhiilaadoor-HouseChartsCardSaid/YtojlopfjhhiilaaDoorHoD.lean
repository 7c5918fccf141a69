/-
  The reference of package house: whether houses are valid, and their marks.
-/
import Derived.Test.YtojlopfjhhiilaaDoorHoC
import Derived.Test.YtojlopfjhhiilaaDoorShRe
namespace Go.Proofs.YtojlopfjhhiilaaDoor
open Go Go.RowKit
set_option linter.unusedVariables false

set_option maxRecDepth 100000 in
set_option maxHeartbeats 1000000 in
theorem refHouses_any (s : List Int) (hs : Hid (s.length = 12)) (b : Bool) (hb : Hid (b = decide (chkF s = 0))) (w : World) :
    Calls Tryd.prog 12 #[.agg (arr s)] w fun e w' => e = .returned (.bool b) ∧ Below w.heap.size w w' := by
  have hB0 : Below w.heap.size w (w.alloc (.cells (arr s) 26)) := (Below.refl _ _).alloc (Nat.le_refl _) _
  have HM := Lib.hid (Blk.new w 26 (arr s))
  go_enter Tryd.func12, Tryd.ntmps12
  go_wp2
  go_loop [3] (fun i => ∃ k : Nat, k ≤ 12 ∧ i = .int .i64 k ∧ Hid (∀ j, j < k → Fig (nth s j))) (fun i => 12 - (intOf i).toNat)
  case atStart => exact ⟨0, by omega, rfl, fun j hj => by omega⟩
  case round =>
    obtain ⟨k, hk, rfl, HF⟩ := hrel
    by_cases hlt : k < 12
    · have hc : (w.alloc (.cells (arr s) 26)).cell? ⟨w.heap.size, k, none⟩ = some (.int .i64 (nth s k)) := by rw [HM.out.cell, arr_get (by rw [hs.out]; exact hlt)]
      by_cases hf : Fig (nth s k)
      · have HFk := Lib.hid hf
        have HG := Lib.hid (show figB (nth s k) = true by unfold figB; unfold Fig at hf; simp [hf])
        clear hf
        go_wp2_with (go_at_call 18; refine (refFigure_any (nth s k) _).mono ?_; rintro e w1 ⟨rfl, rfl⟩; rw [HG.out])
        go_round
        case rel => exact ⟨k + 1, by omega, by go_num, fun j hj => by by_cases e : j = k; exact e ▸ HFk.out; exact HF.out j (by omega)⟩
        case measure => simp [intOf]; omega
      · have HG := Lib.hid (show figB (nth s k) = false by unfold figB; unfold Fig at hf; simp; omega)
        have HA := Lib.hid (chkF_at (by rw [hs.out]; exact hlt) hf)
        clear hf
        go_wp2_with (go_at_call 18; refine (refFigure_any (nth s k) _).mono ?_; rintro e w1 ⟨rfl, rfl⟩; rw [HG.out])
        go_ret
        exact ⟨by rw [hb.out, HA.out]; rfl, hB0⟩
    · obtain rfl : k = 12 := by omega
      go_wp2
      go_ret
      exact ⟨by rw [hb.out, chkF_of fun k hk => HF.out k (by rw [← hs.out]; exact hk)]; rfl, hB0⟩

set_option maxRecDepth 100000 in
set_option maxHeartbeats 2000000 in
theorem refMarks_any (s : List Int) (hs : Hid (s.length = 12)) (hf : Hid (chkF s = 0)) (w : World) :
    Calls Tryd.prog 14 #[.agg (arr s)] w fun e w' => e = .returned (.int .i64 (marksTo s 12)) ∧ Below w.heap.size w w' := by
  have hB0 : Below w.heap.size w (w.alloc (.cells (arr s) 26)) := (Below.refl _ _).alloc (Nat.le_refl _) _
  have HM := Lib.hid (Blk.new w 26 (arr s))
  have hz := Lib.hid (chkF_zero hf.out)
  go_enter Tryd.func14, Tryd.ntmps14
  go_wp2
  go_loop [3, 4] (fun m i => ∃ k : Nat, k ≤ 12 ∧ i = .int .i64 k ∧ m = .int .i64 (marksTo s k)) (fun _ i => 12 - (intOf i).toNat)
  case atStart => exact ⟨0, by omega, rfl, rfl⟩
  case round =>
    obtain ⟨k, hk, rfl, rfl⟩ := hrel
    obtain ⟨c1, c2⟩ := marksTo_bd s k
    by_cases hlt : k < 12
    · have hc : (w.alloc (.cells (arr s) 26)).cell? ⟨w.heap.size, k, none⟩ = some (.int .i64 (nth s k)) := by rw [HM.out.cell, arr_get (by rw [hs.out]; exact hlt)]
      have HF := Lib.hid (show Fig (nth s k) from hz.out k (by rw [hs.out]; exact hlt))
      have hdk : decide ((k : Int) < 12) = true := by simp; omega
      go_wp2
      go_loop [3, 5] (fun m i => ∃ t : Nat, t ≤ 4 ∧ i = .int .i64 t ∧ m = .int .i64 (marksTo s k + lineTo (nth s k) t)) (fun _ i => 4 - (intOf i).toNat)
      case atStart => exact ⟨0, by omega, rfl, by simp [lineTo]⟩
      case round =>
        obtain ⟨t, ht, rfl, rfl⟩ := hrel
        obtain ⟨d1, d2⟩ := lineTo_bd (nth s k) t
        by_cases hlt2 : t < 4
        · obtain ⟨m1, m2⟩ := markF_one (nth s k) t
          go_wp2_with (go_at_call 38; refine (refLine_any (nth s k) t HF.out (by omega) _).mono ?_; rintro e w2 ⟨rfl, rfl⟩)
          go_round
          case rel => exact ⟨t + 1, by omega, by go_num, by simp only [lineTo]; congr 1; omega⟩
          case measure => simp [intOf]; omega
        · obtain rfl : t = 4 := by omega
          go_wp2
          go_round
          case rel => exact ⟨k + 1, by omega, by go_num, by simp only [marksTo]⟩
          case measure => simp [intOf]; omega
    · obtain rfl : k = 12 := by omega
      go_wp2
      go_ret
      exact ⟨rfl, hB0⟩
end Go.Proofs.YtojlopfjhhiilaaDoor
