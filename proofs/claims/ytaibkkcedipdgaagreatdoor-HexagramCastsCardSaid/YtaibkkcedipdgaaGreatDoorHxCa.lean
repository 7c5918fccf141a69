/-
  HexagramCasts: the walk of the law.
-/
import Derived.Test.YtaibkkcedipdgaaGreatDoorHxRc
import Derived.Test.YtaibkkcedipdgaaGreatDoorHxEq
import Derived.Test.YtaibkkcedipdgaaGreatDoorHxW
namespace Go.Proofs.YtaibkkcedipdgaaGreatDoor
open Go Go.RowKit
set_option linter.unusedVariables false

theorem guard_six : Tryz.prog.eqGuardType Tryz.prog.depth 22 = false := by kernel_rfl
theorem info_i1 : (Tryz.prog.info? 3).map (·.size) = some 1 := by kernel_rfl
theorem eq_six {a b : List Int} (ha : a.length = 6) (hb : b.length = 6) (w : World) : (Op.equalIn 10000 22 (.agg (arr a)) (.agg (arr b))).run Tryz.prog w = .ok (decide (a = b)) w :=
  run_equalIn_ints w 9998 22 3 6 Tryz.underlying22 Tryz.underlying3 info_i1 a b ha hb

set_option maxRecDepth 100000 in
set_option maxHeartbeats 4000000 in
theorem casts_law (m0 m1 m2 m3 m4 m5 x y : Int) (w : World) (hs : Src w) (hf : Fst w) :
    Calls Tryz.prog 3 #[.agg (arr [m0, m1, m2, m3, m4, m5]), .int .i64 x, .int .i64 y] w fun e w' => e = .returned (.bool true) ∧ Below w.heap.size w w' := by
  have G := guard_six
  have C1 := fun W => castF_any m0 m1 m2 m3 m4 m5 W
  have C2 := fun W => refCast_any [m0, m1, m2, m3, m4, m5] (Lib.hid rfl) W
  obtain ⟨a, ha⟩ : ∃ n, castF [m0, m1, m2, m3, m4, m5] = n := ⟨_, rfl⟩
  obtain ⟨b, hb⟩ : ∃ n, castS [m0, m1, m2, m3, m4, m5] = n := ⟨_, rfl⟩
  obtain ⟨c, hc⟩ : ∃ n, castE [m0, m1, m2, m3, m4, m5] = n := ⟨_, rfl⟩
  have D1 := fun W => lines_any x y W
  have D2 := fun W => refLines_any x y W
  obtain ⟨l0, l1, l2, l3, l4, l5, hl⟩ := list_six (linesV_length x y)
  obtain ⟨d, hd⟩ : ∃ n, chkH [x, y] = n := ⟨_, rfl⟩
  rw [ha, hb, hc] at C1 C2
  rw [hl, hd] at D1 D2
  clear ha hb hc hl hd
  have HM := Lib.hid (Blk.new w 22 (arr [m0, m1, m2, m3, m4, m5]))
  go_enter Tryz.func3, Tryz.ntmps3
  go_wp2_with (first | (refine wpList_load_row rfl 22 (.tmp 3) rfl w.heap.size rfl 22 (arr [m0, m1, m2, m3, m4, m5]) (0, 0) _ HM.out Tryz.underlying22 rfl info_six ?_) | fail)
  refine (C1 _).mono ?_
  rintro e w1 ⟨rfl, hb1⟩
  have HM1 := Lib.hid (HM.out.below hb1 (by simp))
  have hb2 : Below w.heap.size w w1 := (below1 w (.cells (arr [m0, m1, m2, m3, m4, m5]) 22)).trans (hb1.mono (by simp))
  clear hb1 HM
  go_wp2_with (first | (refine wpList_load_row rfl 22 (.tmp 3) rfl w.heap.size rfl 22 (arr [m0, m1, m2, m3, m4, m5]) (0, 0) _ HM1.out Tryz.underlying22 rfl info_six ?_) | fail)
  refine (C2 _).mono ?_
  rintro e w2 ⟨rfl, hb3⟩
  have hb4 := tr hb2 hb3
  clear hb2 hb3 HM1
  go_wp2_with fail
  refine (D1 _).mono ?_
  rintro e w3 ⟨rfl, hb5⟩
  have hb6 := tr hb4 hb5
  clear hb4 hb5
  have HN := Lib.hid (Blk.new w3 22 (arr (List.replicate 6 0)))
  go_wp2_with (first | (refine wpList_store_row rfl 22 (.tmp 13) (.tmp 33) rfl w3.heap.size (arr [l0, l1, l2, l3, l4, l5]) rfl rfl 22 _ HN.out info_six rfl (arr_one _) ?_) | fail)
  refine (D2 _).mono ?_
  rintro e w4 ⟨rfl, hb7⟩
  have HL := Lib.hid (show Blk w4 w3.heap.size 22 (arr [l0, l1, l2, l3, l4, l5]) from (HN.out.row _).below hb7 (by simp))
  have hb8 : Below w.heap.size w w4 := (below_setRow (hb6.alloc hb6.size _) hb6.size _).trans (hb7.mono (by have := hb6.size; simp; omega))
  have h34 := HL.out.lt
  clear hb7 hb6 HN C1 C2 D1 D2
  have HN := Lib.hid (Blk.new w4 22 (arr (List.replicate 6 0)))
  have hb9 : Below w.heap.size w ((w4.alloc (.cells (arr (List.replicate 6 0)) 22)).setRow w4.heap.size (arr [l0, l1, l2, l3, l4, l5])) := below_setRow (hb8.alloc hb8.size _) hb8.size _
  have HL2 := Lib.hid (show Blk ((w4.alloc (.cells (arr (List.replicate 6 0)) 22)).setRow w4.heap.size (arr [l0, l1, l2, l3, l4, l5])) w3.heap.size 22 (arr [l0, l1, l2, l3, l4, l5]) from (HL.out.alloc _).rowFar (by omega) _)
  have HK2 := Lib.hid (show Blk ((w4.alloc (.cells (arr (List.replicate 6 0)) 22)).setRow w4.heap.size (arr [l0, l1, l2, l3, l4, l5])) w4.heap.size 22 (arr [l0, l1, l2, l3, l4, l5]) from HN.out.row _)
  have N : ∀ wx : World, (Op.equalIn 10000 22 (.agg #[.int .i64 l0, .int .i64 l1, .int .i64 l2, .int .i64 l3, .int .i64 l4, .int .i64 l5]) (.agg #[.int .i64 l0, .int .i64 l1, .int .i64 l2, .int .i64 l3, .int .i64 l4, .int .i64 l5])).run Tryz.prog wx = .ok true wx := fun wx => by
    have := eq_six (a := [l0, l1, l2, l3, l4, l5]) (b := [l0, l1, l2, l3, l4, l5]) rfl rfl wx
    rw [decide_eq_true rfl] at this
    exact this
  obtain ⟨W5, hW⟩ : ∃ W, (w4.alloc (.cells (arr (List.replicate 6 0)) 22)).setRow w4.heap.size (arr [l0, l1, l2, l3, l4, l5]) = W := ⟨_, rfl⟩
  rw [hW] at hb9 HL2 HK2
  have e0 : (w4.alloc (.cells #[.int .i64 0, .int .i64 0, .int .i64 0, .int .i64 0, .int .i64 0, .int .i64 0] 22)).setRow w4.heap.size (arr [l0, l1, l2, l3, l4, l5]) = W5 := hW
  have ka0 : W5.cell? ⟨w3.heap.size, 0, none⟩ = some (.int .i64 l0) := HL2.out.cell 0
  have kb0 : W5.cell? ⟨w4.heap.size, 0, none⟩ = some (.int .i64 l0) := HK2.out.cell 0
  have ka1 : W5.cell? ⟨w3.heap.size, 1, none⟩ = some (.int .i64 l1) := HL2.out.cell 1
  have kb1 : W5.cell? ⟨w4.heap.size, 1, none⟩ = some (.int .i64 l1) := HK2.out.cell 1
  have ka2 : W5.cell? ⟨w3.heap.size, 2, none⟩ = some (.int .i64 l2) := HL2.out.cell 2
  have kb2 : W5.cell? ⟨w4.heap.size, 2, none⟩ = some (.int .i64 l2) := HK2.out.cell 2
  have ka3 : W5.cell? ⟨w3.heap.size, 3, none⟩ = some (.int .i64 l3) := HL2.out.cell 3
  have kb3 : W5.cell? ⟨w4.heap.size, 3, none⟩ = some (.int .i64 l3) := HK2.out.cell 3
  have ka4 : W5.cell? ⟨w3.heap.size, 4, none⟩ = some (.int .i64 l4) := HL2.out.cell 4
  have kb4 : W5.cell? ⟨w4.heap.size, 4, none⟩ = some (.int .i64 l4) := HK2.out.cell 4
  have ka5 : W5.cell? ⟨w3.heap.size, 5, none⟩ = some (.int .i64 l5) := HL2.out.cell 5
  have kb5 : W5.cell? ⟨w4.heap.size, 5, none⟩ = some (.int .i64 l5) := HK2.out.cell 5
  go_wp2_with (first | (refine wpList_store_row rfl 22 (.tmp 15) (.tmp 39) rfl w4.heap.size (arr [l0, l1, l2, l3, l4, l5]) rfl rfl 22 _ HN.out info_six rfl (arr_one _) ?_; first | rw [e0] | rw [hW]) | fail)
  refine (known_any _ (hs.below hb9 (Nat.le_refl _)) (hf.below hb9 (Nat.le_refl _))).mono ?_
  rintro e w6 ⟨rfl, hb10⟩
  go_wp2
  go_ret
  exact ⟨rfl, tr hb9 hb10⟩
end Go.Proofs.YtaibkkcedipdgaaGreatDoor
