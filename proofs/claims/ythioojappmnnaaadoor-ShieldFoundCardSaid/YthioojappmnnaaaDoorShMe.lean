/-
  Package shield: Mend, for a copy that has no figure at a place.
-/
import Derived.Test.YthioojappmnnaaaDoorShMd
namespace Go.Proofs.YthioojappmnnaaaDoor
open Go Go.RowKit Go.Shelf
set_option linter.unusedVariables false
attribute [local go_sem] Oper.semAt_some

set_option maxRecDepth 100000 in
set_option maxHeartbeats 8000000 in
theorem mend_err (s : List Int) (hS : s.length = 16) (hc : chkF s = 2) (w : World) (hp : Par w) :
    CallsIn Fence.wide 6 Tryd.prog 9 #[.agg (arr s)] w fun e W' => e = .returned (.tuple #[.agg (arr (List.replicate 18 0)), .int .i64 2]) ∧ Below w.heap.size w W' := by
  refine callsIn_of_wp_marks Tryd.func9 rfl trivial ?_ rfl
  simp only [Tryd.ntmps9, List.size_toArray, List.length_cons, List.length_nil, Nat.reduceAdd, Nat.reduceSub, Array.replicate_succ, Array.replicate_zero, List.push_toArray, List.append_toArray, List.nil_append, List.cons_append]
  have HL := Lib.hid hS
  have H := Lib.hid hc
  have HB := Lib.hid (show Blk ((w.alloc (.cells (arr s) 33)).alloc (.cells (arr (List.replicate 18 0)) 43)) w.heap.size 33 (arr s) from (Blk.new _ _ _).alloc _)
  have HR := Lib.hid (show Blk ((w.alloc (.cells (arr s) 33)).alloc (.cells (arr (List.replicate 18 0)) 43)) (w.heap.size + 1) 43 (arr (List.replicate 18 0)) from newAt (by simp))
  have hB0 : Below w.heap.size w ((w.alloc (.cells (arr s) 33)).alloc (.cells (arr (List.replicate 18 0)) 43)) := ((Below.refl _ _).alloc (Nat.le_refl _) _).alloc (by simp) _
  clear hS hc
  gi_wp2_with fail
  obtain ⟨V, hV⟩ : ∃ V, (w.alloc (.cells (arr s) 33)).alloc (.cells (arr (List.replicate 18 0)) 43) = V := ⟨_, rfl⟩
  rw [hV] at HB HR hB0
  have e0 : (w.alloc (.cells (arr s) 33)).alloc (.cells #[.int .i64 0, .int .i64 0, .int .i64 0, .int .i64 0, .int .i64 0, .int .i64 0, .int .i64 0, .int .i64 0, .int .i64 0, .int .i64 0, .int .i64 0, .int .i64 0, .int .i64 0, .int .i64 0, .int .i64 0, .int .i64 0, .int .i64 0, .int .i64 0] 43) = V := hV
  rw [e0]
  clear hV e0
  refine ⟨trivial, ?_⟩
  refine (callsIn_wide.2 (checkF_n (some ⟨w.heap.size, 0, none⟩) s 16 16 V HL (by omega) HB.out.reads)).mono ?_
  rintro e w4 ⟨rfl, hb4⟩
  rw [H.out]
  have HR4 := Lib.hid (HR.out.below hb4 HR.out.lt)
  have hb5 := tr hB0 hb4
  clear hb4 HB HR hB0
  gi_wp2_with (refine wpListIn_store_row rfl 43 (.tmp 2) (.tmp 13) rfl (w.heap.size + 1) (arr (List.replicate 18 0)) rfl rfl 43 _ HR4.out info_rep rfl (arr_one _) ?_)
  try gi_wp2
  exact ⟨.tuple #[.agg (arr (List.replicate 18 0)), .int .i64 2], results_cell_slot rfl _ _ (w.heap.size + 1) 43 (arr (List.replicate 18 0)) (0, 0) _ rfl (HR4.out.row _) Tryd.underlying43 rfl info_rep _ rfl, rfl, below_setRow hb5 (by omega) _⟩

theorem mend_any (s : List Int) (hS : s.length = 16) (w : World) (hp : Par w) :
    Calls Tryd.prog 9 #[.agg (arr s)] w fun e w' => e = .returned (if chkF s = 0 then .tuple #[.agg (arr (repL (mendL s (upto id 65536)))), .int .i64 0] else .tuple #[.agg (arr (List.replicate 18 0)), .int .i64 2]) ∧ Below w.heap.size w w' := by
  rcases chkF_or s with h | h
  · rw [if_pos h]
    exact (callsIn_wide (n := 6)).1 (mend_in s hS h w hp)
  · rw [if_neg (by omega)]
    exact (callsIn_wide (n := 6)).1 (mend_err s hS h w hp)
end Go.Proofs.YthioojappmnnaaaDoor
