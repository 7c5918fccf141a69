/-
  Package shield: mothers and their numbers.
-/
import Derived.Test.YtojlopfjhhiilaaDoorShE
import Derived.Test.YtojlopfjhhiilaaDoorShH
import Derived.Laws.BitsLemmas
import Derived.Lib.EndianBits
namespace Go.Proofs.YtojlopfjhhiilaaDoor
open Go Go.RowKit
set_option linter.unusedVariables false

theorem wraps_i64_62 (n : Int) (h₀ : 0 ≤ n) (h₁ : n < 2 ^ 62) : IntKind.i64.wrap n = n := by
  rw [IntWalk.i64_left]; exact IntWalk.wrap64_in _ (by omega)
theorem and_15 (x : Int) (h : 0 ≤ x) (h1 : x < 2 ^ 62) : bits .and .i64 x 15 = x % 16 :=
  bits_mask .i64 62 (by decide) wraps_i64_62 4 (by decide) x h h1
/-- The four figures of a number. -/
def nibs (n : Int) : List Int := [n / 4096 % 16, n / 256 % 16, n / 16 % 16, n % 16]
/-- The first k of them, and 0 behind. -/
def nibTo (n : Int) (k : Nat) : List Int := (nibs n).take k ++ List.replicate (4 - k) 0
theorem info_moth : (Tryd.prog.info? 66).map (·.size) = some 4 := by kernel_rfl

set_option maxRecDepth 100000 in
set_option maxHeartbeats 2000000 in
theorem numbered_any (n : Int) (h0 : 0 ≤ n) (h1 : n ≤ 65535) (w : World) :
    Calls Tryd.prog 47 #[.int .i64 n] w fun e w' => e = .returned (.agg (arr (nibs n))) ∧ Below w.heap.size w w' := by
  have HR := Lib.hid (show Blk ((w.alloc (.cells (arr [0, 0, 0, 0]) 66)).alloc (.cells (arr [0, 0, 0, 0]) 66)) w.heap.size 66 (arr [0, 0, 0, 0]) from (Blk.new _ _ _).alloc _)
  have HM := Lib.hid (show Blk ((w.alloc (.cells (arr [0, 0, 0, 0]) 66)).alloc (.cells (arr [0, 0, 0, 0]) 66)) (w.heap.size + 1) 66 (arr (nibTo n 0)) from newAt (by simp))
  have hB0 : Below w.heap.size w ((w.alloc (.cells (arr [0, 0, 0, 0]) 66)).alloc (.cells (arr [0, 0, 0, 0]) 66)) := ((Below.refl _ _).alloc (Nat.le_refl _) _).alloc (by simp) _
  go_enter Tryd.func47, Tryd.ntmps47
  go_wp2
  generalize hW : ((w.alloc (.cells (arr [0, 0, 0, 0]) 66)).alloc (.cells (arr [0, 0, 0, 0]) 66)) = W1 at HR HM hB0
  rw [show ((w.alloc (.cells #[.int .i64 0, .int .i64 0, .int .i64 0, .int .i64 0] 66)).alloc (.cells #[.int .i64 0, .int .i64 0, .int .i64 0, .int .i64 0] 66)) = W1 from hW]
  have hz1 : w.heap.size + 1 < W1.heap.size := HM.out.lt
  clear hW
  go_loopw [6] (fun i wr => ∃ k : Nat, k ≤ 4 ∧ i = .int .i64 k ∧ Hid (Blk wr (w.heap.size + 1) 66 (arr (nibTo n k))) ∧ Below (w.heap.size + 1) W1 wr) (fun i _ => 4 - (intOf i).toNat)
  case atStart => exact ⟨0, by omega, rfl, HM, Below.refl _ _⟩
  case round =>
    obtain ⟨k, hk, rfl, HX, hB⟩ := hrel
    by_cases hlt : k < 4
    · have hcs : k = 0 ∨ k = 1 ∨ k = 2 ∨ k = 3 := by omega
      rcases hcs with rfl | rfl | rfl | rfl
      · have hc0 : wr.cell? ⟨w.heap.size + 1, 0, none⟩ = some (.int .i64 (nth (nibTo n 0) 0)) := by rw [HX.out.cell 0, arr_get (by simp [nibTo, nibs])]
        have hf0 := HX.out.frozen 0
        have hst := Lib.hid (HX.out.set_ 0 (.int .i64 (bits .and .i64 (n / 4096) 15)))
        go_wp2
        go_roundw
        case rel => exact ⟨1, by omega, by go_num, by have := hst.out; rw [arr_set, and_15 _ (by omega) (by omega)] at this; rw [and_15 _ (by omega) (by omega)]; exact this, hB.setCell (by simp) _⟩
        case measure => simp [intOf]
      · have hc0 : wr.cell? ⟨w.heap.size + 1, 1, none⟩ = some (.int .i64 (nth (nibTo n 1) 1)) := by rw [HX.out.cell 1, arr_get (by simp [nibTo, nibs])]
        have hf0 := HX.out.frozen 1
        have hst := Lib.hid (HX.out.set_ 1 (.int .i64 (bits .and .i64 (n / 256) 15)))
        go_wp2
        go_roundw
        case rel => exact ⟨2, by omega, by go_num, by have := hst.out; rw [arr_set, and_15 _ (by omega) (by omega)] at this; rw [and_15 _ (by omega) (by omega)]; exact this, hB.setCell (by simp) _⟩
        case measure => simp [intOf]
      · have hc0 : wr.cell? ⟨w.heap.size + 1, 2, none⟩ = some (.int .i64 (nth (nibTo n 2) 2)) := by rw [HX.out.cell 2, arr_get (by simp [nibTo, nibs])]
        have hf0 := HX.out.frozen 2
        have hst := Lib.hid (HX.out.set_ 2 (.int .i64 (bits .and .i64 (n / 16) 15)))
        go_wp2
        go_roundw
        case rel => exact ⟨3, by omega, by go_num, by have := hst.out; rw [arr_set, and_15 _ (by omega) (by omega)] at this; rw [and_15 _ (by omega) (by omega)]; exact this, hB.setCell (by simp) _⟩
        case measure => simp [intOf]
      · have hc0 : wr.cell? ⟨w.heap.size + 1, 3, none⟩ = some (.int .i64 (nth (nibTo n 3) 3)) := by rw [HX.out.cell 3, arr_get (by simp [nibTo, nibs])]
        have hf0 := HX.out.frozen 3
        have hst := Lib.hid (HX.out.set_ 3 (.int .i64 (bits .and .i64 (n) 15)))
        go_wp2
        go_roundw
        case rel => exact ⟨4, by omega, by go_num, by have := hst.out; rw [arr_set, and_15 _ (by omega) (by omega)] at this; rw [and_15 _ (by omega) (by omega)]; exact this, hB.setCell (by simp) _⟩
        case measure => simp [intOf]
    · obtain rfl : k = 4 := by omega
      have HR2 := Lib.hid (HR.out.below hB (by omega))
      have hb2 := hB0.trans (hB.mono (by omega))
      clear hB hB0 HR
      go_wp2_with (first | (refine wpList_load_row rfl 66 (.tmp 3) rfl (w.heap.size + 1) rfl 66 (arr (nibs n)) (0, 0) _ HX.out Tryd.underlying66 rfl info_moth ?_) | (refine wpList_store_row rfl 66 (.tmp 2) (.tmp 18) rfl w.heap.size (arr (nibs n)) rfl rfl 66 _ HR2.out info_moth rfl (arr_one _) ?_))
      exact bodyPost_ret (v := .agg (arr (nibs n))) (results_cell_row Tryd.results47 _ _ w.heap.size 66 _ (0, 0) _ rfl (HR2.out.row _) Tryd.underlying66 rfl info_moth) rfl ⟨rfl, below_setRow hb2 (Nat.le_refl _) _⟩

/-- What Mothers returns. -/
def mothE (n : Int) : Int := if outB 0 65535 n = true then 3 else 0
def mothV (n : Int) : List Int := if outB 0 65535 n = true then [0, 0, 0, 0] else nibs n
theorem mothV_len (n : Int) : (mothV n).length = 4 := by unfold mothV; split <;> rfl
set_option maxRecDepth 100000 in
set_option maxHeartbeats 2000000 in
theorem mothers_any (n : Int) (w : World) :
    Calls Tryd.prog 28 #[.int .i64 n] w fun e w' => e = .returned (.tuple #[.agg (arr (mothV n)), .int .i64 (mothE n)]) ∧ Below w.heap.size w w' := by
  have HR := Lib.hid (Blk.new w 66 (arr [0, 0, 0, 0]))
  have hB0 : Below w.heap.size w (w.alloc (.cells (arr [0, 0, 0, 0]) 66)) := (Below.refl _ _).alloc (Nat.le_refl _) _
  have HI := Lib.hid (show (Tryd.prog.info? 66).map (·.size) = some (arr (mothV n)).size by rw [arr_size, mothV_len]; exact info_moth)
  have HO := Lib.hid (show (arr [0, 0, 0, 0]).size = (arr (mothV n)).size by rw [arr_size, arr_size, mothV_len]; rfl)
  cases ho : outB 0 65535 n
  all_goals
    have O := Lib.hid ho
    clear ho
    go_enter Tryd.func28, Tryd.ntmps28
    go_wp2_with fail
    refine (outside_anyI 0 65535 _).mono ?_
    rintro e w2 ⟨rfl, hw2⟩
    have hb3 : Below (w.alloc (.cells (arr [0, 0, 0, 0]) 66)).heap.size (w.alloc (.cells (arr [0, 0, 0, 0]) 66)) w2 := hw2 ▸ ((Below.refl _ _).alloc (Nat.le_refl _) _).alloc (by simp) _
    have c1 : w2.cell? ⟨w.heap.size + 1, 0, none⟩ = some (.int .i64 0) := by subst hw2; go_cell
    have c2 : w2.cell? ⟨w.heap.size + 2, 0, none⟩ = some (.int .i64 65535) := by subst hw2; go_cell
    have HR2 := Lib.hid (HR.out.below hb3 (by simp))
    have hb4 := hB0.trans (hb3.mono (by simp))
    clear hw2 hB0
    go_wp2_with fail
    refine (outside1_anyI n 0 65535 _ _ _ (by first | exact c1 | simpa using c1) (by first | exact c2 | simpa using c2)).mono ?_
    rintro e w3 ⟨rfl, rfl⟩
    rw [O.out]
  · have E1 := Lib.hid (show mothE n = 0 by unfold mothE; rw [O.out]; rfl)
    have E2 := Lib.hid (show mothV n = nibs n by unfold mothV; rw [O.out]; rfl)
    obtain ⟨g0, g1⟩ : 0 ≤ n ∧ n ≤ 65535 := by have := O.out; simp [outB] at this; omega
    go_wp2_with fail
    refine (numbered_any n g0 g1 _).mono ?_
    rintro e w4 ⟨rfl, hb5⟩
    have HR3 := Lib.hid (HR2.out.below hb5 HR2.out.lt)
    have hb6 := tr hb4 hb5
    clear hb4 hb5 hb3 c1 c2
    go_wp2_with (refine wpList_store_row rfl 66 (.tmp 2) (.tmp 9) rfl w.heap.size (arr (nibs n)) rfl rfl 66 _ HR3.out info_moth rfl (arr_one _) ?_)
    exact bodyPost_ret (v := .tuple #[.agg (arr (nibs n)), .int .i64 0]) (results_cell_slot Tryd.results28 _ _ w.heap.size 66 (arr (nibs n)) (0, 0) _ rfl (HR3.out.row _) Tryd.underlying66 rfl info_moth _ rfl) rfl ⟨by rw [E1.out, E2.out], below_setRow hb6 (Nat.le_refl _) _⟩
  · have E1 := Lib.hid (show mothE n = 3 by unfold mothE; rw [O.out]; rfl)
    have E2 := Lib.hid (show mothV n = [0, 0, 0, 0] by unfold mothV; rw [O.out]; rfl)
    clear hb3 c1 c2
    go_wp2_with (refine wpList_store_row rfl 66 (.tmp 2) (.tmp 7) rfl w.heap.size (arr [0, 0, 0, 0]) rfl rfl 66 _ HR2.out info_moth rfl (arr_one _) ?_)
    exact bodyPost_ret (v := .tuple #[.agg (arr [0, 0, 0, 0]), .int .i64 3]) (results_cell_slot Tryd.results28 _ _ w.heap.size 66 (arr [0, 0, 0, 0]) (0, 0) _ rfl (HR2.out.row _) Tryd.underlying66 rfl info_moth _ rfl) rfl ⟨by rw [E1.out, E2.out], below_setRow hb4 (Nat.le_refl _) _⟩
end Go.Proofs.YtojlopfjhhiilaaDoor
