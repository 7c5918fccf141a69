/-
  Package shield: Count, with sets that are none.
-/
import Derived.Test.YtjhjgkocoghgfaaDoorShCo
namespace Go.Proofs.YtjhjgkocoghgfaaDoor
open Go Go.RowKit Go.Shelf
set_option linter.unusedVariables false
attribute [local go_sem] Oper.semAt_some

set_option maxRecDepth 100000 in
set_option maxHeartbeats 4000000 in
theorem count_err (S : List Int) (hS : S.length = 16) (ha : anyB (outB 0 65535) S = true) (w : World) (hp : Par w) :
    CallsIn Fence.wide 6 Tryd.prog 14 #[.agg (arr S)] w fun e W' => e = .returned (.tuple #[.int .i64 0, .agg (arr [0, 0, 0, 0]), .int .i64 2]) ∧ Below w.heap.size w W' := by
  refine callsIn_of_wp_marks Tryd.func14 rfl trivial ?_ rfl
  simp only [Tryd.ntmps14, List.size_toArray, List.length_cons, List.length_nil, Nat.reduceAdd, Nat.reduceSub, Array.replicate_succ, Array.replicate_zero, List.push_toArray, List.append_toArray, List.nil_append, List.cons_append]
  have HS := Lib.hid hS
  have HA := Lib.hid ha
  have HB := Lib.hid (show Blk ((w.alloc (.cells (arr S) 39)).alloc (.cells (arr [0, 0, 0, 0]) 41)) w.heap.size 39 (arr S) from (Blk.new _ _ _).alloc _)
  have HR := Lib.hid (show Blk ((w.alloc (.cells (arr S) 39)).alloc (.cells (arr [0, 0, 0, 0]) 41)) (w.heap.size + 1) 41 (arr [0, 0, 0, 0]) from newAt (by simp))
  have hB0 : Below w.heap.size w ((w.alloc (.cells (arr S) 39)).alloc (.cells (arr [0, 0, 0, 0]) 41)) := ((Below.refl _ _).alloc (Nat.le_refl _) _).alloc (by simp) _
  clear hS ha
  gi_wp2_with fail
  obtain ⟨V, hV⟩ : ∃ V, (w.alloc (.cells (arr S) 39)).alloc (.cells (arr [0, 0, 0, 0]) 41) = V := ⟨_, rfl⟩
  rw [hV] at HB HR hB0
  have e0 : (w.alloc (.cells (arr S) 39)).alloc (.cells #[.int .i64 0, .int .i64 0, .int .i64 0, .int .i64 0] 41) = V := hV
  try rw [e0]
  clear hV e0
  have hmix : Tryd.prog.follows .mixedOrders = true := by kernel_rfl
  have HO := Lib.hid (fun W => outside_anyS 0 65535 W)
  have HC := Lib.hid (fun W (a b : Addr) ha hb hr => containsFunc_outsideS 0 65535 a b W ha hb (some ⟨w.heap.size, 0, none⟩) S 16 (by rw [HS.out]; omega) hr)
  rw [HS.out, HA.out] at HC
  have hDc : (World.drew V).heap.size = V.heap.size := rfl
  have HR2 := Lib.hid (show Reads ((V.drew.alloc (.cells #[.int .i64 0] 38)).alloc (.cells #[.int .i64 65535] 38)) (some ⟨w.heap.size, 0, none⟩) S from fun i hi => ⟨w.heap.size, 0, rfl, by
    have hb : Blk V.drew w.heap.size 39 (arr S) := HB.out
    rw [Nat.zero_add, ((hb.alloc _).alloc _).cell i, arr_get hi]⟩)
  refine wpIn_cut0 (fun a' w' => a' = { tmps := #[.agg (arr S), .pointer (some ⟨w.heap.size, 0, none⟩), .int .i64 0, .pointer (some ⟨w.heap.size + 1, 0, none⟩), .int .i64 0, undef, undef, undef, undef, .slice (some ⟨w.heap.size, 0, none⟩) 16 16, .func (.func 53) #[] #[.pointer (some ⟨V.heap.size, 0, none⟩), .pointer (some ⟨V.heap.size + 1, 0, none⟩)], .bool true, undef, undef, undef, undef, undef, undef, undef, undef, undef, undef, undef, undef, undef], defers := [] } ∧ (V.drew.alloc (.cells #[.int .i64 0] 38)).alloc (.cells #[.int .i64 65535] 38) = w') ?reg ?rest
  case reg =>
    refine wpIn_region_any (by assumption) ?_
    change wpAnyIn _ _ _ _ _ _ _ _ _ (World.drew _)
    refine wpAnyIn_ready (rs := [0, 1]) (by kernel_rfl) (by simp) ?_
    refine AllReadyIn.cons rfl (fun K hK => ?_) (AllReadyIn.cons rfl (fun K hK => ?_) AllReadyIn.nil)
    · go_simp
      refine hK _ _ ?_
      clear hK K
      refine wpAnyIn_ready (rs := [1]) (by kernel_rfl) (by simp) ?_
      refine AllReadyIn.cons rfl (fun K hK => ?_) AllReadyIn.nil
      go_simp
      gi_wp2_with fail
      refine ⟨trivial, ?_⟩
      refine (callsIn_wide.2 (HO.out _)).mono ?_
      rintro e w2 ⟨rfl, hw2⟩
      refine hK _ _ ?_
      clear hK K
      refine wpAnyIn_ready (rs := [2]) (by kernel_rfl) (by simp) ?_
      refine AllReadyIn.cons rfl (fun K hK => ?_) AllReadyIn.nil
      go_simp
      gi_wp2_with fail
      refine ⟨trivial, ?_⟩
      refine (callsIn_wide.2 (HC.out _ _ _ (by subst hw2; go_cell) (by subst hw2; go_cell) (by subst hw2; exact HR2.out))).mono ?_
      rintro e w3 ⟨rfl, rfl⟩
      refine hK _ _ ?_
      clear hK K
      refine wpAnyIn_done (by kernel_rfl) ?_ _
      exact ⟨rfl, hw2⟩
    · go_simp
      gi_wp2_with fail
      refine ⟨trivial, ?_⟩
      refine (callsIn_wide.2 (HO.out _)).mono ?_
      rintro e w2 ⟨rfl, hw2⟩
      refine hK _ _ ?_
      clear hK K
      refine wpAnyIn_ready (rs := [0]) (by kernel_rfl) (by simp) ?_
      refine AllReadyIn.cons rfl (fun K hK => ?_) AllReadyIn.nil
      go_simp
      refine hK _ _ ?_
      clear hK K
      refine wpAnyIn_ready (rs := [2]) (by kernel_rfl) (by simp) ?_
      refine AllReadyIn.cons rfl (fun K hK => ?_) AllReadyIn.nil
      go_simp
      gi_wp2_with fail
      refine ⟨trivial, ?_⟩
      refine (callsIn_wide.2 (HC.out _ _ _ (by subst hw2; go_cell) (by subst hw2; go_cell) (by subst hw2; exact HR2.out))).mono ?_
      rintro e w3 ⟨rfl, rfl⟩
      refine hK _ _ ?_
      clear hK K
      refine wpAnyIn_done (by kernel_rfl) ?_ _
      exact ⟨rfl, hw2⟩
  case rest =>
    rintro a' w4 ⟨rfl, hw4⟩
    have HR4 := Lib.hid (show Blk w4 (w.heap.size + 1) 41 (arr [0, 0, 0, 0]) from by
      have hb : Blk V.drew (w.heap.size + 1) 41 (arr [0, 0, 0, 0]) := HR.out
      rw [← hw4]; exact (hb.alloc _).alloc _)
    have hb4 : Below w.heap.size w w4 := by
      rw [← hw4]
      have h1 : Below w.heap.size w V.drew := hB0.drew
      exact (h1.alloc h1.size _).alloc (by have := h1.size; simp; omega) _
    clear hw4 HR2 HB HR hB0 hDc HO HC
    gi_wp2_with (refine wpListIn_store_row rfl 41 (.tmp 3) (.tmp 12) rfl (w.heap.size + 1) (arr [0, 0, 0, 0]) rfl rfl 41 _ HR4.out info_moth rfl (arr_one _) ?_)
    try gi_wp2
    exact ⟨.tuple #[.int .i64 0, .agg (arr [0, 0, 0, 0]), .int .i64 2], results_mid rfl _ _ (w.heap.size + 1) 41 (arr [0, 0, 0, 0]) (0, 0) _ rfl (HR4.out.row _) Tryd.underlying41 rfl info_moth _ _ rfl rfl, rfl, below_setRow hb4 (by omega) _⟩

/-- What Count returns. -/
theorem count_any (S : List Int) (hS : S.length = 16) (w : World) (hp : Par w) :
    Calls Tryd.prog 14 #[.agg (arr S)] w fun e w' => e = .returned (if anyB (outB 0 65535) S = true then .tuple #[.int .i64 0, .agg (arr [0, 0, 0, 0]), .int .i64 2] else .tuple #[.int .i64 (cntN S (upto id 65536)), .agg (arr (cntF S (upto id 65536))), .int .i64 0]) ∧ Below w.heap.size w w' := by
  cases ha : anyB (outB 0 65535) S
  · exact (callsIn_wide (n := 6)).1 (count_in S hS ha w hp)
  · exact (callsIn_wide (n := 6)).1 (count_err S hS ha w hp)
end Go.Proofs.YtjhjgkocoghgfaaDoor
