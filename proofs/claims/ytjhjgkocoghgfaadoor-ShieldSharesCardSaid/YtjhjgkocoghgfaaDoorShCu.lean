/-
  ShieldCounts: the walk of the law.
-/
import Derived.Test.YtjhjgkocoghgfaaDoorShCe
import Derived.Test.YtjhjgkocoghgfaaDoorShRh
import Derived.Test.YtjhjgkocoghgfaaDoorShQ
import Derived.Test.YtjhjgkocoghgfaaDoorShK
namespace Go.Proofs.YtjhjgkocoghgfaaDoor
open Go Go.RowKit
set_option linter.unusedVariables false

theorem guard_m4 : Tryd.prog.eqGuardType Tryd.prog.depth 41 = false := by kernel_rfl
theorem eq_m4 {a b : List Int} (ha : a.length = 4) (hb : b.length = 4) (w : World) : (Op.equalIn 10000 41 (.agg (arr a)) (.agg (arr b))).run Tryd.prog w = .ok (decide (a = b)) w :=
  run_equalIn_ints w 9998 41 22 4 Tryd.underlying41 Tryd.underlying22 info_fig a b ha hb
theorem four_of {m : List Int} (h : m.length = 4) : ∃ a b c d, m = [a, b, c, d] := by
  match m, h with
  | [a, b, c, d], _ => exact ⟨a, b, c, d, rfl⟩
theorem info_sets : (Tryd.prog.info? 39).map (·.size) = some 16 := by kernel_rfl

set_option maxRecDepth 100000 in
set_option maxHeartbeats 8000000 in
theorem counts_law (S : List Int) (hS : S.length = 16) (w : World) (hp : Par w) (hn : Nam w) :
    Calls Tryd.prog 4 #[.agg (arr S)] w fun e w' => e = .returned (.bool true) ∧ Below w.heap.size w w' := by
  have G := guard_m4
  have C := fun W hW => count_any S hS W hW
  have R := fun W => refSets_any S (Lib.hid hS) W
  have HB := Lib.hid (Blk.new w 39 (arr S))
  have HI := Lib.hid (show (Tryd.prog.info? 39).map (·.size) = some (arr S).size by rw [arr_size, hS]; exact info_sets)
  cases ha : anyB (outB 0 65535) S
  · have hv : ∀ k, k < 16 → 0 ≤ nth S k ∧ nth S k ≤ 65535 := fun k hk => by
      unfold anyB at ha
      rw [List.any_eq_false] at ha
      have := ha _ (nth_mem (show k < S.length by omega))
      simp [outB] at this
      omega
    have K := fun W => refCount_any S (Lib.hid hS) (Lib.hid hv) W
    obtain ⟨f0, f1, f2, f3, hF⟩ := four_of (cntF_len S (upto id 65536))
    obtain ⟨N, hN⟩ : ∃ N, cntN S (upto id 65536) = N := ⟨_, rfl⟩
    rw [ha, hF, hN] at C
    simp only [Bool.false_eq_true, if_false] at C
    rw [ha] at R
    rw [hF, hN] at K
    have E : ∀ wx : World, (Op.equalIn 10000 41 (.agg #[.int .i64 f0, .int .i64 f1, .int .i64 f2, .int .i64 f3]) (.agg #[.int .i64 f0, .int .i64 f1, .int .i64 f2, .int .i64 f3])).run Tryd.prog wx = .ok true wx := fun wx => by
      have := eq_m4 (a := [f0, f1, f2, f3]) (b := [f0, f1, f2, f3]) rfl rfl wx
      rw [decide_eq_true rfl] at this
      exact this
    clear hF hN hv ha
    go_enter Tryd.func4, Tryd.ntmps4
    go_wp2_with (refine wpList_load_row rfl 39 (.tmp 1) rfl w.heap.size rfl 39 (arr S) (0, 0) _ HB.out Tryd.underlying39 rfl HI.out ?_)
    refine (C _ (hp.below (below1 w _) (Nat.le_refl _))).mono ?_
    rintro e w1 ⟨rfl, hb1⟩
    have hb2 : Below w.heap.size w w1 := tr (below1 w _) hb1
    have HB1 := Lib.hid (HB.out.below hb1 (by simp))
    have hs1 := HB1.out.lt
    clear hb1 HB C
    have HN := Lib.hid (Blk.new w1 41 (arr [0, 0, 0, 0]))
    have HB2 := Lib.hid (show Blk ((w1.alloc (.cells (arr [0, 0, 0, 0]) 41)).setRow w1.heap.size (arr [f0, f1, f2, f3])) w.heap.size 39 (arr S) from (HB1.out.alloc _).below (below_setRow (Below.refl w1.heap.size _) (Nat.le_refl _) _) hs1)
    have HX2 := Lib.hid (show Blk ((w1.alloc (.cells (arr [0, 0, 0, 0]) 41)).setRow w1.heap.size (arr [f0, f1, f2, f3])) w1.heap.size 41 (arr [f0, f1, f2, f3]) from HN.out.row _)
    have hb3 : Below w.heap.size w ((w1.alloc (.cells (arr [0, 0, 0, 0]) 41)).setRow w1.heap.size (arr [f0, f1, f2, f3])) := below_setRow (hb2.alloc hb2.size _) hb2.size _
    obtain ⟨U, hU⟩ : ∃ U, (w1.alloc (.cells (arr [0, 0, 0, 0]) 41)).setRow w1.heap.size (arr [f0, f1, f2, f3]) = U := ⟨_, rfl⟩
    rw [hU] at HB2 HX2 hb3
    have e0 : (w1.alloc (.cells #[.int .i64 0, .int .i64 0, .int .i64 0, .int .i64 0] 41)).setRow w1.heap.size (arr [f0, f1, f2, f3]) = U := hU
    have E0 := Lib.hid e0
    clear hU e0 HB1 hb2
    go_wp2_with (first
      | (refine wpList_store_row rfl 41 (.tmp 4) (.tmp 12) rfl w1.heap.size (arr [f0, f1, f2, f3]) rfl rfl 41 _ HN.out info_moth rfl (arr_one _) ?_; rw [E0.out])
      | (refine wpList_load_row rfl 39 (.tmp 1) rfl w.heap.size rfl 39 (arr S) (0, 0) _ HB2.out Tryd.underlying39 rfl HI.out ?_))
    refine (R _).mono ?_
    rintro e w4 ⟨rfl, hb4⟩
    have HB4 := Lib.hid (HB2.out.below hb4 HB2.out.lt)
    have HX4 := Lib.hid (HX2.out.below hb4 HX2.out.lt)
    have hb5 := tr hb3 hb4
    clear hb3 hb4 HB2 HX2 R HN E0
    go_wp2_with (refine wpList_load_row rfl 39 (.tmp 1) rfl w.heap.size rfl 39 (arr S) (0, 0) _ HB4.out Tryd.underlying39 rfl HI.out ?_)
    refine (K _).mono ?_
    rintro e w6 ⟨rfl, hb6⟩
    have HX6 := Lib.hid (HX4.out.below hb6 HX4.out.lt)
    have hb7 := tr hb5 hb6
    have hs6 := HX6.out.lt
    clear hb5 hb6 HB4 HX4 K
    have HN := Lib.hid (Blk.new w6 41 (arr [0, 0, 0, 0]))
    have HX7 := Lib.hid (show Blk ((w6.alloc (.cells (arr [0, 0, 0, 0]) 41)).setRow w6.heap.size (arr [f0, f1, f2, f3])) w1.heap.size 41 (arr [f0, f1, f2, f3]) from (HX6.out.alloc _).below (below_setRow (Below.refl w6.heap.size _) (Nat.le_refl _) _) hs6)
    have HY7 := Lib.hid (show Blk ((w6.alloc (.cells (arr [0, 0, 0, 0]) 41)).setRow w6.heap.size (arr [f0, f1, f2, f3])) w6.heap.size 41 (arr [f0, f1, f2, f3]) from HN.out.row _)
    have hb8 : Below w.heap.size w ((w6.alloc (.cells (arr [0, 0, 0, 0]) 41)).setRow w6.heap.size (arr [f0, f1, f2, f3])) := below_setRow (hb7.alloc hb7.size _) hb7.size _
    obtain ⟨U, hU⟩ : ∃ U, (w6.alloc (.cells (arr [0, 0, 0, 0]) 41)).setRow w6.heap.size (arr [f0, f1, f2, f3]) = U := ⟨_, rfl⟩
    rw [hU] at HX7 HY7 hb8
    have e0 : (w6.alloc (.cells #[.int .i64 0, .int .i64 0, .int .i64 0, .int .i64 0] 41)).setRow w6.heap.size (arr [f0, f1, f2, f3]) = U := hU
    have E0 := Lib.hid e0
    clear hU e0 HX6 hb7
    have ka0 : U.cell? ⟨w1.heap.size, 0, none⟩ = some (.int .i64 f0) := HX7.out.cell 0
    have kb0 : U.cell? ⟨w6.heap.size, 0, none⟩ = some (.int .i64 f0) := HY7.out.cell 0
    have ka1 : U.cell? ⟨w1.heap.size, 1, none⟩ = some (.int .i64 f1) := HX7.out.cell 1
    have kb1 : U.cell? ⟨w6.heap.size, 1, none⟩ = some (.int .i64 f1) := HY7.out.cell 1
    have ka2 : U.cell? ⟨w1.heap.size, 2, none⟩ = some (.int .i64 f2) := HX7.out.cell 2
    have kb2 : U.cell? ⟨w6.heap.size, 2, none⟩ = some (.int .i64 f2) := HY7.out.cell 2
    have ka3 : U.cell? ⟨w1.heap.size, 3, none⟩ = some (.int .i64 f3) := HX7.out.cell 3
    have kb3 : U.cell? ⟨w6.heap.size, 3, none⟩ = some (.int .i64 f3) := HY7.out.cell 3
    go_wp2_with (refine wpList_store_row rfl 41 (.tmp 7) (.tmp 35) rfl w6.heap.size (arr [f0, f1, f2, f3]) rfl rfl 41 _ HN.out info_moth rfl (arr_one _) ?_; rw [E0.out])
    refine (known_any _ (hp.below hb8 (Nat.le_refl _)) (hn.below hb8 (Nat.le_refl _))).mono ?_
    rintro e w9 ⟨rfl, hb9⟩
    go_wp2
    go_ret
    exact ⟨rfl, tr hb8 hb9⟩
  · rw [ha] at C R
    simp only [if_true] at C
    have E : ∀ wx : World, (Op.equalIn 10000 41 (.agg #[.int .i64 0, .int .i64 0, .int .i64 0, .int .i64 0]) (.agg #[.int .i64 0, .int .i64 0, .int .i64 0, .int .i64 0])).run Tryd.prog wx = .ok true wx := fun wx => by
      have := eq_m4 (a := [0, 0, 0, 0]) (b := [0, 0, 0, 0]) rfl rfl wx
      rw [decide_eq_true rfl] at this
      exact this
    clear ha
    go_enter Tryd.func4, Tryd.ntmps4
    go_wp2_with (refine wpList_load_row rfl 39 (.tmp 1) rfl w.heap.size rfl 39 (arr S) (0, 0) _ HB.out Tryd.underlying39 rfl HI.out ?_)
    refine (C _ (hp.below (below1 w _) (Nat.le_refl _))).mono ?_
    rintro e w1 ⟨rfl, hb1⟩
    have hb2 : Below w.heap.size w w1 := tr (below1 w _) hb1
    have HB1 := Lib.hid (HB.out.below hb1 (by simp))
    have hs1 := HB1.out.lt
    clear hb1 HB C
    have HN := Lib.hid (Blk.new w1 41 (arr [0, 0, 0, 0]))
    have HB2 := Lib.hid (show Blk ((w1.alloc (.cells (arr [0, 0, 0, 0]) 41)).setRow w1.heap.size (arr [0, 0, 0, 0])) w.heap.size 39 (arr S) from (HB1.out.alloc _).below (below_setRow (Below.refl w1.heap.size _) (Nat.le_refl _) _) hs1)
    have HX2 := Lib.hid (show Blk ((w1.alloc (.cells (arr [0, 0, 0, 0]) 41)).setRow w1.heap.size (arr [0, 0, 0, 0])) w1.heap.size 41 (arr [0, 0, 0, 0]) from HN.out.row _)
    have hb3 : Below w.heap.size w ((w1.alloc (.cells (arr [0, 0, 0, 0]) 41)).setRow w1.heap.size (arr [0, 0, 0, 0])) := below_setRow (hb2.alloc hb2.size _) hb2.size _
    obtain ⟨U, hU⟩ : ∃ U, (w1.alloc (.cells (arr [0, 0, 0, 0]) 41)).setRow w1.heap.size (arr [0, 0, 0, 0]) = U := ⟨_, rfl⟩
    rw [hU] at HB2 HX2 hb3
    have e0 : (w1.alloc (.cells #[.int .i64 0, .int .i64 0, .int .i64 0, .int .i64 0] 41)).setRow w1.heap.size (arr [0, 0, 0, 0]) = U := hU
    have E0 := Lib.hid e0
    clear hU e0 HB1 hb2
    go_wp2_with (first
      | (refine wpList_store_row rfl 41 (.tmp 4) (.tmp 12) rfl w1.heap.size (arr [0, 0, 0, 0]) rfl rfl 41 _ HN.out info_moth rfl (arr_one _) ?_; rw [E0.out])
      | (refine wpList_load_row rfl 39 (.tmp 1) rfl w.heap.size rfl 39 (arr S) (0, 0) _ HB2.out Tryd.underlying39 rfl HI.out ?_))
    refine (R _).mono ?_
    rintro e w4 ⟨rfl, hb4⟩
    have HX4 := Lib.hid (HX2.out.below hb4 HX2.out.lt)
    have hb5 := tr hb3 hb4
    have ka0 : w4.cell? ⟨w1.heap.size, 0, none⟩ = some (.int .i64 0) := HX4.out.cell 0
    have ka1 : w4.cell? ⟨w1.heap.size, 1, none⟩ = some (.int .i64 0) := HX4.out.cell 1
    have ka2 : w4.cell? ⟨w1.heap.size, 2, none⟩ = some (.int .i64 0) := HX4.out.cell 2
    have ka3 : w4.cell? ⟨w1.heap.size, 3, none⟩ = some (.int .i64 0) := HX4.out.cell 3
    clear hb3 hb4 HB2 HX2 R HN E0
    go_wp2_with fail
    refine (known_any _ (hp.below hb5 (Nat.le_refl _)) (hn.below hb5 (Nat.le_refl _))).mono ?_
    rintro e w9 ⟨rfl, hb9⟩
    go_wp2
    go_ret
    exact ⟨rfl, tr hb5 hb9⟩
end Go.Proofs.YtjhjgkocoghgfaaDoor
