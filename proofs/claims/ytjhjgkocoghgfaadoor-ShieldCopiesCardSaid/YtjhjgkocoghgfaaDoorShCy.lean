/-
  ShieldCopies: the walk of the law.
-/
import Derived.Test.YtjhjgkocoghgfaaDoorShMe
import Derived.Test.YtjhjgkocoghgfaaDoorShRj
import Derived.Test.YtjhjgkocoghgfaaDoorShRe
import Derived.Test.YtjhjgkocoghgfaaDoorShEq
import Derived.Test.YtjhjgkocoghgfaaDoorShK
namespace Go.Proofs.YtjhjgkocoghgfaaDoor
open Go Go.RowKit
set_option linter.unusedVariables false

set_option maxRecDepth 100000 in
set_option maxHeartbeats 8000000 in
theorem copies_a (s : List Int) (hs : s.length = 16) (h : chkF s = 2) (w : World) (hp : Par w) (hn : Nam w) :
    Calls Tryd.prog 3 #[.agg (arr s)] w fun e w' => e = .returned (.bool true) ∧ Below w.heap.size w w' := by
  have G := guard_rep
  have HS := Lib.hid hs
  have W := fun wx hx => wrong_any s hs wx hx
  have M := fun wx hx => mend_any s hs wx hx
  have R := fun wx => refShield_any s HS false (Lib.hid (by simp [h])) wx
  have E0 := fun wx => eq_rep 0 0 0 0 0 0 0 0 0 0 0 0 0 0 0 0 0 0 wx
  have HB := Lib.hid (Blk.new w 24 (arr s))
  have HI := Lib.hid (show (Tryd.prog.info? 24).map (·.size) = some (arr s).size by rw [arr_size, hs]; exact info_shield)
  rw [show wrongV s = [] by unfold wrongV; rw [if_neg (by omega)], h] at W
  rw [if_neg (by omega)] at M
  rw [show List.replicate 18 (0 : Int) = [0, 0, 0, 0, 0, 0, 0, 0, 0, 0, 0, 0, 0, 0, 0, 0, 0, 0] from rfl] at M
  clear h hs
  go_enter Tryd.func3, Tryd.ntmps3
  go_wp2_with (refine wpList_load_row rfl 24 (.tmp 1) rfl w.heap.size rfl 24 (arr s) (0, 0) _ HB.out Tryd.underlying24 rfl HI.out ?_)
  refine (W _ (hp.below (below1 w _) (Nat.le_refl _))).mono ?_
  rintro e w1 ⟨⟨q, c, rfl, hr⟩, hb1⟩
  have hb2 : Below w.heap.size w w1 := tr (below1 w _) hb1
  have HB1 := Lib.hid (HB.out.below hb1 (by simp))
  have hs1 := HB1.out.lt
  clear hb1 HB W hr
  go_wp2_with (refine wpList_load_row rfl 24 (.tmp 1) rfl w.heap.size rfl 24 (arr s) (0, 0) _ HB1.out Tryd.underlying24 rfl HI.out ?_)
  refine (M _ (hp.below hb2 (Nat.le_refl _))).mono ?_
  rintro e w2 ⟨rfl, hb3⟩
  have hb4 := tr hb2 hb3
  have HB2 := Lib.hid (HB1.out.below hb3 hs1)
  have hs2 := HB2.out.lt
  clear hb2 hb3 HB1 M
  have HN := Lib.hid (Blk.new w2 30 (arr [0, 0, 0, 0, 0, 0, 0, 0, 0, 0, 0, 0, 0, 0, 0, 0, 0, 0]))
  have HB3 := Lib.hid (show Blk ((w2.alloc (.cells (arr [0, 0, 0, 0, 0, 0, 0, 0, 0, 0, 0, 0, 0, 0, 0, 0, 0, 0]) 30)).setRow w2.heap.size (arr [0, 0, 0, 0, 0, 0, 0, 0, 0, 0, 0, 0, 0, 0, 0, 0, 0, 0])) w.heap.size 24 (arr s) from (HB2.out.alloc _).below (below_setRow (Below.refl w2.heap.size _) (Nat.le_refl _) _) hs2)
  have HX3 := Lib.hid (show Blk ((w2.alloc (.cells (arr [0, 0, 0, 0, 0, 0, 0, 0, 0, 0, 0, 0, 0, 0, 0, 0, 0, 0]) 30)).setRow w2.heap.size (arr [0, 0, 0, 0, 0, 0, 0, 0, 0, 0, 0, 0, 0, 0, 0, 0, 0, 0])) w2.heap.size 30 (arr [0, 0, 0, 0, 0, 0, 0, 0, 0, 0, 0, 0, 0, 0, 0, 0, 0, 0]) from HN.out.row _)
  have hb5 : Below w.heap.size w ((w2.alloc (.cells (arr [0, 0, 0, 0, 0, 0, 0, 0, 0, 0, 0, 0, 0, 0, 0, 0, 0, 0]) 30)).setRow w2.heap.size (arr [0, 0, 0, 0, 0, 0, 0, 0, 0, 0, 0, 0, 0, 0, 0, 0, 0, 0])) := below_setRow (hb4.alloc hb4.size _) hb4.size _
  obtain ⟨U, hU⟩ : ∃ U, (w2.alloc (.cells (arr [0, 0, 0, 0, 0, 0, 0, 0, 0, 0, 0, 0, 0, 0, 0, 0, 0, 0]) 30)).setRow w2.heap.size (arr [0, 0, 0, 0, 0, 0, 0, 0, 0, 0, 0, 0, 0, 0, 0, 0, 0, 0]) = U := ⟨_, rfl⟩
  rw [hU] at HB3 HX3 hb5
  have e0 : (w2.alloc (.cells #[.int .i64 0, .int .i64 0, .int .i64 0, .int .i64 0, .int .i64 0, .int .i64 0, .int .i64 0, .int .i64 0, .int .i64 0, .int .i64 0, .int .i64 0, .int .i64 0, .int .i64 0, .int .i64 0, .int .i64 0, .int .i64 0, .int .i64 0, .int .i64 0] 30)).setRow w2.heap.size (arr [0, 0, 0, 0, 0, 0, 0, 0, 0, 0, 0, 0, 0, 0, 0, 0, 0, 0]) = U := hU
  have E1 := Lib.hid e0
  clear hU e0 HB2 hb4
  go_wp2_with (first
    | (refine wpList_store_row rfl 30 (.tmp 5) (.tmp 15) rfl w2.heap.size (arr [0, 0, 0, 0, 0, 0, 0, 0, 0, 0, 0, 0, 0, 0, 0, 0, 0, 0]) rfl rfl 30 _ HN.out info_rep rfl (arr_one _) ?_; rw [E1.out])
    | (refine wpList_load_row rfl 24 (.tmp 1) rfl w.heap.size rfl 24 (arr s) (0, 0) _ HB3.out Tryd.underlying24 rfl HI.out ?_))
  refine (R _).mono ?_
  rintro e w4 ⟨rfl, hb6⟩
  have HX4 := Lib.hid (HX3.out.below hb6 HX3.out.lt)
  have hb7 := tr hb5 hb6
  clear hb5 hb6 HB3 HX3 R HN E1
  have k0 : w4.cell? ⟨w2.heap.size, 0, none⟩ = some (.int .i64 0) := HX4.out.cell 0
  have k1 : w4.cell? ⟨w2.heap.size, 1, none⟩ = some (.int .i64 0) := HX4.out.cell 1
  have k2 : w4.cell? ⟨w2.heap.size, 2, none⟩ = some (.int .i64 0) := HX4.out.cell 2
  have k3 : w4.cell? ⟨w2.heap.size, 3, none⟩ = some (.int .i64 0) := HX4.out.cell 3
  have k4 : w4.cell? ⟨w2.heap.size, 4, none⟩ = some (.int .i64 0) := HX4.out.cell 4
  have k5 : w4.cell? ⟨w2.heap.size, 5, none⟩ = some (.int .i64 0) := HX4.out.cell 5
  have k6 : w4.cell? ⟨w2.heap.size, 6, none⟩ = some (.int .i64 0) := HX4.out.cell 6
  have k7 : w4.cell? ⟨w2.heap.size, 7, none⟩ = some (.int .i64 0) := HX4.out.cell 7
  have k8 : w4.cell? ⟨w2.heap.size, 8, none⟩ = some (.int .i64 0) := HX4.out.cell 8
  have k9 : w4.cell? ⟨w2.heap.size, 9, none⟩ = some (.int .i64 0) := HX4.out.cell 9
  have k10 : w4.cell? ⟨w2.heap.size, 10, none⟩ = some (.int .i64 0) := HX4.out.cell 10
  have k11 : w4.cell? ⟨w2.heap.size, 11, none⟩ = some (.int .i64 0) := HX4.out.cell 11
  have k12 : w4.cell? ⟨w2.heap.size, 12, none⟩ = some (.int .i64 0) := HX4.out.cell 12
  have k13 : w4.cell? ⟨w2.heap.size, 13, none⟩ = some (.int .i64 0) := HX4.out.cell 13
  have k14 : w4.cell? ⟨w2.heap.size, 14, none⟩ = some (.int .i64 0) := HX4.out.cell 14
  have k15 : w4.cell? ⟨w2.heap.size, 15, none⟩ = some (.int .i64 0) := HX4.out.cell 15
  have k16 : w4.cell? ⟨w2.heap.size, 16, none⟩ = some (.int .i64 0) := HX4.out.cell 16
  have k17 : w4.cell? ⟨w2.heap.size, 17, none⟩ = some (.int .i64 0) := HX4.out.cell 17
  have E : ∀ wx : World, (Op.equalIn 10000 30 (.agg #[.int .i64 0, .int .i64 0, .int .i64 0, .int .i64 0, .int .i64 0, .int .i64 0, .int .i64 0, .int .i64 0, .int .i64 0, .int .i64 0, .int .i64 0, .int .i64 0, .int .i64 0, .int .i64 0, .int .i64 0, .int .i64 0, .int .i64 0, .int .i64 0]) (.agg #[.int .i64 0, .int .i64 0, .int .i64 0, .int .i64 0, .int .i64 0, .int .i64 0, .int .i64 0, .int .i64 0, .int .i64 0, .int .i64 0, .int .i64 0, .int .i64 0, .int .i64 0, .int .i64 0, .int .i64 0, .int .i64 0, .int .i64 0, .int .i64 0])).run Tryd.prog wx = .ok true wx := fun wx => E0 wx
  clear E0
  go_wp2_with fail
  refine (known_any _ (hp.below hb7 (Nat.le_refl _)) (hn.below hb7 (Nat.le_refl _))).mono ?_
  rintro e w9 ⟨rfl, hb9⟩
  go_wp2
  go_ret
  exact ⟨rfl, tr hb7 hb9⟩
end Go.Proofs.YtjhjgkocoghgfaaDoor
