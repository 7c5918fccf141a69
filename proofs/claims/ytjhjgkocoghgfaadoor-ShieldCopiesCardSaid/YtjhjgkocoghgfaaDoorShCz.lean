/-
  ShieldCopies: the walk of the law for a copy of figures.
-/
import Derived.Test.YtjhjgkocoghgfaaDoorShCy
import Derived.Test.YtjhjgkocoghgfaaDoorShMe
import Derived.Test.YtjhjgkocoghgfaaDoorShRj
import Derived.Test.YtjhjgkocoghgfaaDoorShRe
import Derived.Test.YtjhjgkocoghgfaaDoorShEq
import Derived.Test.YtjhjgkocoghgfaaDoorShK
namespace Go.Proofs.YtjhjgkocoghgfaaDoor
open Go Go.RowKit
set_option linter.unusedVariables false

theorem list18 {l : List Int} (h : l.length = 18) : ∃ r0 r1 r2 r3 r4 r5 r6 r7 r8 r9 r10 r11 r12 r13 r14 r15 r16 r17, l = [r0, r1, r2, r3, r4, r5, r6, r7, r8, r9, r10, r11, r12, r13, r14, r15, r16, r17] := by
  match l, h with
  | [r0, r1, r2, r3, r4, r5, r6, r7, r8, r9, r10, r11, r12, r13, r14, r15, r16, r17], _ => exact ⟨r0, r1, r2, r3, r4, r5, r6, r7, r8, r9, r10, r11, r12, r13, r14, r15, r16, r17, rfl⟩
set_option maxRecDepth 100000 in
set_option maxHeartbeats 8000000 in
theorem copies_b (s : List Int) (hs : s.length = 16) (h : chkF s = 0) (w : World) (hp : Par w) (hn : Nam w) :
    Calls Tryd.prog 3 #[.agg (arr s)] w fun e w' => e = .returned (.bool true) ∧ Below w.heap.size w w' := by
  have G := guard_rep
  have HS := Lib.hid hs
  have HF := Lib.hid (fun k (hk : k < 16) => chkF_zero h k (by omega))
  have W := fun wx hx => wrong_any s hs wx hx
  have M := fun wx hx => mend_any s hs wx hx
  have R := fun wx => refShield_any s HS true (Lib.hid (by simp [h])) wx
  have RW := fun wx => refWrong_any s HS HF.out wx
  have RM := fun wx => refMend_any s HS HF.out wx
  have HB := Lib.hid (Blk.new w 24 (arr s))
  have HI := Lib.hid (show (Tryd.prog.info? 24).map (·.size) = some (arr s).size by rw [arr_size, hs]; exact info_shield)
  obtain ⟨r0, r1, r2, r3, r4, r5, r6, r7, r8, r9, r10, r11, r12, r13, r14, r15, r16, r17, hR⟩ := list18 (repL_len (mendL_ok s (upto id 65536)).2.2.2)
  obtain ⟨N, hN⟩ : ∃ N, (wrongTo s 16).length = N := ⟨_, rfl⟩
  have hN16 : N ≤ 16 := hN ▸ wrongTo_len s 16
  rw [show wrongV s = wrongTo s 16 by unfold wrongV; rw [if_pos h], h, hN] at W
  rw [hN] at RW
  rw [if_pos h, hR] at M
  rw [hR] at RM
  have HN0 := Lib.hid hN
  have HRW := Lib.hid RW
  have HRM := Lib.hid RM
  have E0 := fun wx => eq_rep r0 r1 r2 r3 r4 r5 r6 r7 r8 r9 r10 r11 r12 r13 r14 r15 r16 r17 wx
  clear h hs hR hN RW RM
  go_enter Tryd.func3, Tryd.ntmps3
  go_wp2_with (refine wpList_load_row rfl 24 (.tmp 1) rfl w.heap.size rfl 24 (arr s) (0, 0) _ HB.out Tryd.underlying24 rfl HI.out ?_)
  refine (W _ (hp.below (below1 w _) (Nat.le_refl _))).mono ?_
  rintro e w1 ⟨⟨q, c, rfl, hr⟩, hb1⟩
  have hb2 : Below w.heap.size w w1 := tr (below1 w _) hb1
  have HB1 := Lib.hid (HB.out.below hb1 (by simp))
  have HQ1 := Lib.hid hr
  have hs1 := HB1.out.lt
  clear hb1 HB W hr
  go_wp2_with (refine wpList_load_row rfl 24 (.tmp 1) rfl w.heap.size rfl 24 (arr s) (0, 0) _ HB1.out Tryd.underlying24 rfl HI.out ?_)
  refine (M _ (hp.below hb2 (Nat.le_refl _))).mono ?_
  rintro e w2 ⟨rfl, hb3⟩
  have hb4 := tr hb2 hb3
  have HB2 := Lib.hid (HB1.out.below hb3 hs1)
  have HQ2 := Lib.hid (HQ1.out.below hb3 (Nat.le_refl _))
  have hs2 := HB2.out.lt
  clear hb2 hb3 HB1 M HQ1
  have HN := Lib.hid (Blk.new w2 30 (arr [0, 0, 0, 0, 0, 0, 0, 0, 0, 0, 0, 0, 0, 0, 0, 0, 0, 0]))
  have hbx : Below w2.heap.size w2 ((w2.alloc (.cells (arr [0, 0, 0, 0, 0, 0, 0, 0, 0, 0, 0, 0, 0, 0, 0, 0, 0, 0]) 30)).setRow w2.heap.size (arr [r0, r1, r2, r3, r4, r5, r6, r7, r8, r9, r10, r11, r12, r13, r14, r15, r16, r17])) := below_setRow ((Below.refl _ _).alloc (Nat.le_refl _) _) (Nat.le_refl _) _
  have HB3 := Lib.hid (HB2.out.below hbx hs2)
  have HQ3 := Lib.hid (HQ2.out.below hbx (Nat.le_refl _))
  have HX3 := Lib.hid (show Blk ((w2.alloc (.cells (arr [0, 0, 0, 0, 0, 0, 0, 0, 0, 0, 0, 0, 0, 0, 0, 0, 0, 0]) 30)).setRow w2.heap.size (arr [r0, r1, r2, r3, r4, r5, r6, r7, r8, r9, r10, r11, r12, r13, r14, r15, r16, r17])) w2.heap.size 30 (arr [r0, r1, r2, r3, r4, r5, r6, r7, r8, r9, r10, r11, r12, r13, r14, r15, r16, r17]) from HN.out.row _)
  have hb5 := tr hb4 hbx
  obtain ⟨U, hU⟩ : ∃ U, (w2.alloc (.cells (arr [0, 0, 0, 0, 0, 0, 0, 0, 0, 0, 0, 0, 0, 0, 0, 0, 0, 0]) 30)).setRow w2.heap.size (arr [r0, r1, r2, r3, r4, r5, r6, r7, r8, r9, r10, r11, r12, r13, r14, r15, r16, r17]) = U := ⟨_, rfl⟩
  rw [hU] at HB3 HX3 HQ3 hb5
  have e0 : (w2.alloc (.cells #[.int .i64 0, .int .i64 0, .int .i64 0, .int .i64 0, .int .i64 0, .int .i64 0, .int .i64 0, .int .i64 0, .int .i64 0, .int .i64 0, .int .i64 0, .int .i64 0, .int .i64 0, .int .i64 0, .int .i64 0, .int .i64 0, .int .i64 0, .int .i64 0] 30)).setRow w2.heap.size (arr [r0, r1, r2, r3, r4, r5, r6, r7, r8, r9, r10, r11, r12, r13, r14, r15, r16, r17]) = U := hU
  have E1 := Lib.hid e0
  clear hU e0 HB2 HQ2 hb4 hbx
  go_wp2_with (first
    | (refine wpList_store_row rfl 30 (.tmp 5) (.tmp 15) rfl w2.heap.size (arr [r0, r1, r2, r3, r4, r5, r6, r7, r8, r9, r10, r11, r12, r13, r14, r15, r16, r17]) rfl rfl 30 _ HN.out info_rep rfl (arr_one _) ?_; rw [E1.out])
    | (refine wpList_load_row rfl 24 (.tmp 1) rfl w.heap.size rfl 24 (arr s) (0, 0) _ HB3.out Tryd.underlying24 rfl HI.out ?_))
  refine (R _).mono ?_
  rintro e w4 ⟨rfl, hb6⟩
  have HX4 := Lib.hid (HX3.out.below hb6 HX3.out.lt)
  have HB4 := Lib.hid (HB3.out.below hb6 HB3.out.lt)
  have HQ4 := Lib.hid (HQ3.out.below hb6 (Nat.le_refl _))
  have hb7 := tr hb5 hb6
  clear hb5 hb6 HB3 HX3 R HN E1 HQ3
  have a0 : w4.cell? ⟨w.heap.size, 0, none⟩ = some (.int .i64 (nth s 0)) := HB4.out.chart HS.out 0 (by omega)
  have a1 : w4.cell? ⟨w.heap.size, 1, none⟩ = some (.int .i64 (nth s 1)) := HB4.out.chart HS.out 1 (by omega)
  have a2 : w4.cell? ⟨w.heap.size, 2, none⟩ = some (.int .i64 (nth s 2)) := HB4.out.chart HS.out 2 (by omega)
  have a3 : w4.cell? ⟨w.heap.size, 3, none⟩ = some (.int .i64 (nth s 3)) := HB4.out.chart HS.out 3 (by omega)
  have a4 : w4.cell? ⟨w.heap.size, 4, none⟩ = some (.int .i64 (nth s 4)) := HB4.out.chart HS.out 4 (by omega)
  have a5 : w4.cell? ⟨w.heap.size, 5, none⟩ = some (.int .i64 (nth s 5)) := HB4.out.chart HS.out 5 (by omega)
  have a6 : w4.cell? ⟨w.heap.size, 6, none⟩ = some (.int .i64 (nth s 6)) := HB4.out.chart HS.out 6 (by omega)
  have a7 : w4.cell? ⟨w.heap.size, 7, none⟩ = some (.int .i64 (nth s 7)) := HB4.out.chart HS.out 7 (by omega)
  have a8 : w4.cell? ⟨w.heap.size, 8, none⟩ = some (.int .i64 (nth s 8)) := HB4.out.chart HS.out 8 (by omega)
  have a9 : w4.cell? ⟨w.heap.size, 9, none⟩ = some (.int .i64 (nth s 9)) := HB4.out.chart HS.out 9 (by omega)
  have a10 : w4.cell? ⟨w.heap.size, 10, none⟩ = some (.int .i64 (nth s 10)) := HB4.out.chart HS.out 10 (by omega)
  have a11 : w4.cell? ⟨w.heap.size, 11, none⟩ = some (.int .i64 (nth s 11)) := HB4.out.chart HS.out 11 (by omega)
  have a12 : w4.cell? ⟨w.heap.size, 12, none⟩ = some (.int .i64 (nth s 12)) := HB4.out.chart HS.out 12 (by omega)
  have a13 : w4.cell? ⟨w.heap.size, 13, none⟩ = some (.int .i64 (nth s 13)) := HB4.out.chart HS.out 13 (by omega)
  have a14 : w4.cell? ⟨w.heap.size, 14, none⟩ = some (.int .i64 (nth s 14)) := HB4.out.chart HS.out 14 (by omega)
  have a15 : w4.cell? ⟨w.heap.size, 15, none⟩ = some (.int .i64 (nth s 15)) := HB4.out.chart HS.out 15 (by omega)
  have HA := Lib.hid (show (#[.int .i64 (nth s 0), .int .i64 (nth s 1), .int .i64 (nth s 2), .int .i64 (nth s 3), .int .i64 (nth s 4), .int .i64 (nth s 5), .int .i64 (nth s 6), .int .i64 (nth s 7), .int .i64 (nth s 8), .int .i64 (nth s 9), .int .i64 (nth s 10), .int .i64 (nth s 11), .int .i64 (nth s 12), .int .i64 (nth s 13), .int .i64 (nth s 14), .int .i64 (nth s 15)] : Array Value) = arr s by obtain ⟨x0, x1, x2, x3, x4, x5, x6, x7, x8, x9, x10, x11, x12, x13, x14, x15, rfl⟩ := sixteen HS.out; rfl)
  have hmix : Tryd.prog.follows .mixedOrders = true := by kernel_rfl
  have hmix : Tryd.prog.follows .mixedOrders = true := by kernel_rfl
  have hmix : Tryd.prog.follows .mixedOrders = true := by kernel_rfl
  have hmix : Tryd.prog.follows .mixedOrders = true := by kernel_rfl
  have hmix : Tryd.prog.follows .mixedOrders = true := by kernel_rfl
  have hmix : Tryd.prog.follows .mixedOrders = true := by kernel_rfl
  have hmix : Tryd.prog.follows .mixedOrders = true := by kernel_rfl
  have hmix : Tryd.prog.follows .mixedOrders = true := by kernel_rfl
  have E := Lib.hid (fun wx : World => E0 wx)
  clear E0
  go_wp2_with fail
  refine wp_region_any (by assumption) ?_
  refine wpAny_ready (rs := [0]) (by kernel_rfl) (by simp) ?_
  refine AllReady.cons rfl (fun K hK => ?_) AllReady.nil
  go_simp
  refine hK _ _ ?_
  clear hK K
  refine wpAny_ready (rs := [1]) (by kernel_rfl) (by simp) ?_
  refine AllReady.cons rfl (fun K hK => ?_) AllReady.nil
  go_simp
  refine hK _ _ ?_
  clear hK K
  refine wpAny_ready (rs := [2]) (by kernel_rfl) (by simp) ?_
  refine AllReady.cons rfl (fun K hK => ?_) AllReady.nil
  go_simp
  refine hK _ _ ?_
  clear hK K
  refine wpAny_ready (rs := [3]) (by kernel_rfl) (by simp) ?_
  refine AllReady.cons rfl (fun K hK => ?_) AllReady.nil
  go_simp
  refine hK _ _ ?_
  clear hK K
  refine wpAny_ready (rs := [4]) (by kernel_rfl) (by simp) ?_
  refine AllReady.cons rfl (fun K hK => ?_) AllReady.nil
  go_simp
  refine hK _ _ ?_
  clear hK K
  refine wpAny_ready (rs := [5]) (by kernel_rfl) (by simp) ?_
  refine AllReady.cons rfl (fun K hK => ?_) AllReady.nil
  go_simp
  refine hK _ _ ?_
  clear hK K
  refine wpAny_ready (rs := [6]) (by kernel_rfl) (by simp) ?_
  refine AllReady.cons rfl (fun K hK => ?_) AllReady.nil
  go_simp
  refine hK _ _ ?_
  clear hK K
  refine wpAny_take (i := 7) (v := .slice q N c) rfl (by kernel_rfl) (by kernel_rfl) (by kernel_rfl) (fun _ _ _ h => h) (Or.inl ⟨by rfl, fun w => by go_simp⟩) ?_
  have hs4 := HB4.out.lt
  have HBd := Lib.hid (show Blk w4.drew w.heap.size 24 (arr s) from HB4.out)
  refine wpAny_ready (rs := [8]) (by kernel_rfl) (by simp) ?_
  refine AllReady.cons rfl (fun K hK => ?_) AllReady.nil
  go_simp
  refine hK _ _ ?_
  clear hK K
  rw [HA.out]
  refine wpAny_ready (rs := [9]) (by kernel_rfl) (by simp) ?_
  refine AllReady.cons rfl (fun K hK => ?_) AllReady.nil
  go_simp
  go_wp2_with fail
  refine (HRW.out _).mono ?_
  rintro e w5 ⟨⟨q5, c5, rfl, hr5⟩, hb8⟩
  refine hK _ _ ?_
  clear hK K
  have hbw : Below w4.heap.size w4 w5 := tr (Below.refl _ _).drew hb8
  have HQ5 := Lib.hid (HQ4.out.below hbw (Nat.le_refl _))
  have HB5 := Lib.hid (HB4.out.below hbw HB4.out.lt)
  have HX5 := Lib.hid (HX4.out.below hbw HX4.out.lt)
  have hb9 : Below w.heap.size w w5 := tr hb7 hbw
  have hr5' := Lib.hid hr5
  clear hb8 hbw hr5 HB4 HX4 HQ4 hb7 hs4 HBd HRW
  clear a0 a1 a2 a3 a4 a5 a6 a7 a8 a9 a10 a11 a12 a13 a14 a15
  refine wpAny_ready (rs := [10]) (by kernel_rfl) (by simp) ?_
  refine AllReady.cons rfl (fun K hK => ?_) AllReady.nil
  go_simp
  go_wp2_with fail
  refine (same_any q (wrongTo s 16) N c q5 (wrongTo s 16) N c5 _ HN0 HN0 (by omega) HQ5.out hr5'.out).mono ?_
  rintro e w6 ⟨rfl, r, rfl⟩
  rw [decide_eq_true rfl]
  refine hK _ _ ?_
  clear hK K
  refine wpAny_ready (rs := [11]) (by kernel_rfl) (by simp) ?_
  refine AllReady.cons rfl (fun K hK => ?_) AllReady.nil
  go_simp
  refine hK _ _ ?_
  clear hK K
  refine wpAny_ready (rs := [12]) (by kernel_rfl) (by simp) ?_
  refine AllReady.cons rfl (fun K hK => ?_) AllReady.nil
  go_simp
  refine hK _ _ ?_
  clear hK K
  have HB6 := Lib.hid (show Blk (w5.drewN r) w.heap.size 24 (arr s) from HB5.out)
  have HX6 := Lib.hid (show Blk (w5.drewN r) w2.heap.size 30 (arr [r0, r1, r2, r3, r4, r5, r6, r7, r8, r9, r10, r11, r12, r13, r14, r15, r16, r17]) from HX5.out)
  have hU1 := Lib.hid Tryd.underlying24
  have hb9' : Below w.heap.size w (w5.drewN r) := below_drewN hb9 r
  refine wpAny_ready (rs := [13, 14]) (by kernel_rfl) (by simp) ?_
  refine AllReady.cons rfl (fun K hK => ?_) (AllReady.cons rfl (fun K hK => ?_) AllReady.nil)
  · refine Eq.mpr (if_pos (by rfl)) ?_
    refine wp_load_row 30 (.tmp 5) rfl w2.heap.size rfl 30 (arr [r0, r1, r2, r3, r4, r5, r6, r7, r8, r9, r10, r11, r12, r13, r14, r15, r16, r17]) (0, 0) _ HX6.out Tryd.underlying30 rfl info_rep (hK _ _ ?_)
    clear hK K
    refine wpAny_ready (rs := [14]) (by kernel_rfl) (by simp) ?_
    refine AllReady.cons rfl (fun K hK => ?_) AllReady.nil
    refine Eq.mpr (if_pos (by rfl)) ?_
    refine wp_load_row 24 (.tmp 1) rfl w.heap.size rfl 24 (arr s) (0, 0) _ HB6.out Tryd.underlying24 rfl HI.out (hK _ _ ?_)
    clear hK K
    refine wpAny_ready (rs := [15]) (by kernel_rfl) (by simp) ?_
    refine AllReady.cons rfl (fun K hK => ?_) AllReady.nil
    go_simp
    go_wp2_with fail
    refine (HRM.out _).mono ?_
    rintro e w7 ⟨rfl, hb10⟩
    have hbz : Below w.heap.size w w7 := tr hb9' hb10
    refine hK _ _ ?_
    clear hK K
    refine wpAny_ready (rs := [16]) (by kernel_rfl) (by simp) ?_
    refine AllReady.cons rfl (fun K hK => ?_) AllReady.nil
    have E' := E.out
    go_simp
    refine hK _ _ ?_
    clear hK K E'
    refine wpAny_ready (rs := [17]) (by kernel_rfl) (by simp) ?_
    refine AllReady.cons rfl (fun K hK => ?_) AllReady.nil
    go_simp
    refine hK _ _ ?_
    clear hK K
    refine wpAny_ready (rs := [18]) (by kernel_rfl) (by simp) ?_
    refine AllReady.cons rfl (fun K hK => ?_) AllReady.nil
    go_simp
    refine hK _ _ ?_
    clear hK K
    refine wpAny_ready (rs := [19]) (by kernel_rfl) (by simp) ?_
    refine AllReady.cons rfl (fun K hK => ?_) AllReady.nil
    go_simp
    go_wp2_with fail
    refine (known_any _ (hp.below (show Below w.heap.size w w7 from hbz) (Nat.le_refl _)) (hn.below (show Below w.heap.size w w7 from hbz) (Nat.le_refl _))).mono ?_
    rintro e w9 ⟨rfl, hbf⟩
    refine hK _ _ ?_
    clear hK K
    refine wpAny_ready (rs := [20]) (by kernel_rfl) (by simp) ?_
    refine AllReady.cons rfl (fun K hK => ?_) AllReady.nil
    go_simp
    refine hK _ _ ?_
    clear hK K
    refine wpAny_ready (rs := [21]) (by kernel_rfl) (by simp) ?_
    refine AllReady.cons rfl (fun K hK => ?_) AllReady.nil
    go_simp
    refine hK _ _ ?_
    clear hK K
    refine wpAny_done (by kernel_rfl) ?_ _
    go_wp2
    go_ret
    exact ⟨rfl, tr hbz hbf⟩
  · refine Eq.mpr (if_pos (by rfl)) ?_
    refine wp_load_row 24 (.tmp 1) rfl w.heap.size rfl 24 (arr s) (0, 0) _ HB6.out Tryd.underlying24 rfl HI.out (hK _ _ ?_)
    clear hK K
    refine wpAny_ready (rs := [13, 15]) (by kernel_rfl) (by simp) ?_
    refine AllReady.cons rfl (fun K hK => ?_) (AllReady.cons rfl (fun K hK => ?_) AllReady.nil)
    · refine Eq.mpr (if_pos (by rfl)) ?_
      refine wp_load_row 30 (.tmp 5) rfl w2.heap.size rfl 30 (arr [r0, r1, r2, r3, r4, r5, r6, r7, r8, r9, r10, r11, r12, r13, r14, r15, r16, r17]) (0, 0) _ HX6.out Tryd.underlying30 rfl info_rep (hK _ _ ?_)
      clear hK K
      refine wpAny_ready (rs := [15]) (by kernel_rfl) (by simp) ?_
      refine AllReady.cons rfl (fun K hK => ?_) AllReady.nil
      go_simp
      go_wp2_with fail
      refine (HRM.out _).mono ?_
      rintro e w7 ⟨rfl, hb10⟩
      have hbz : Below w.heap.size w w7 := tr hb9' hb10
      refine hK _ _ ?_
      clear hK K
      refine wpAny_ready (rs := [16]) (by kernel_rfl) (by simp) ?_
      refine AllReady.cons rfl (fun K hK => ?_) AllReady.nil
      have E' := E.out
      go_simp
      refine hK _ _ ?_
      clear hK K E'
      refine wpAny_ready (rs := [17]) (by kernel_rfl) (by simp) ?_
      refine AllReady.cons rfl (fun K hK => ?_) AllReady.nil
      go_simp
      refine hK _ _ ?_
      clear hK K
      refine wpAny_ready (rs := [18]) (by kernel_rfl) (by simp) ?_
      refine AllReady.cons rfl (fun K hK => ?_) AllReady.nil
      go_simp
      refine hK _ _ ?_
      clear hK K
      refine wpAny_ready (rs := [19]) (by kernel_rfl) (by simp) ?_
      refine AllReady.cons rfl (fun K hK => ?_) AllReady.nil
      go_simp
      go_wp2_with fail
      refine (known_any _ (hp.below (show Below w.heap.size w w7 from hbz) (Nat.le_refl _)) (hn.below (show Below w.heap.size w w7 from hbz) (Nat.le_refl _))).mono ?_
      rintro e w9 ⟨rfl, hbf⟩
      refine hK _ _ ?_
      clear hK K
      refine wpAny_ready (rs := [20]) (by kernel_rfl) (by simp) ?_
      refine AllReady.cons rfl (fun K hK => ?_) AllReady.nil
      go_simp
      refine hK _ _ ?_
      clear hK K
      refine wpAny_ready (rs := [21]) (by kernel_rfl) (by simp) ?_
      refine AllReady.cons rfl (fun K hK => ?_) AllReady.nil
      go_simp
      refine hK _ _ ?_
      clear hK K
      refine wpAny_done (by kernel_rfl) ?_ _
      go_wp2
      go_ret
      exact ⟨rfl, tr hbz hbf⟩
    · go_simp
      go_wp2_with fail
      refine (HRM.out _).mono ?_
      rintro e w7 ⟨rfl, hb10⟩
      have hbz : Below w.heap.size w w7 := tr hb9' hb10
      refine hK _ _ ?_
      clear hK K
      have HX7 := Lib.hid (HX6.out.below hb10 HX6.out.lt)
      refine wpAny_ready (rs := [13]) (by kernel_rfl) (by simp) ?_
      refine AllReady.cons rfl (fun K hK => ?_) AllReady.nil
      refine Eq.mpr (if_pos (by rfl)) ?_
      refine wp_load_row 30 (.tmp 5) rfl w2.heap.size rfl 30 (arr [r0, r1, r2, r3, r4, r5, r6, r7, r8, r9, r10, r11, r12, r13, r14, r15, r16, r17]) (0, 0) _ HX7.out Tryd.underlying30 rfl info_rep (hK _ _ ?_)
      clear hK K
      refine wpAny_ready (rs := [16]) (by kernel_rfl) (by simp) ?_
      refine AllReady.cons rfl (fun K hK => ?_) AllReady.nil
      have E' := E.out
      go_simp
      refine hK _ _ ?_
      clear hK K E'
      refine wpAny_ready (rs := [17]) (by kernel_rfl) (by simp) ?_
      refine AllReady.cons rfl (fun K hK => ?_) AllReady.nil
      go_simp
      refine hK _ _ ?_
      clear hK K
      refine wpAny_ready (rs := [18]) (by kernel_rfl) (by simp) ?_
      refine AllReady.cons rfl (fun K hK => ?_) AllReady.nil
      go_simp
      refine hK _ _ ?_
      clear hK K
      refine wpAny_ready (rs := [19]) (by kernel_rfl) (by simp) ?_
      refine AllReady.cons rfl (fun K hK => ?_) AllReady.nil
      go_simp
      go_wp2_with fail
      refine (known_any _ (hp.below (show Below w.heap.size w w7 from hbz) (Nat.le_refl _)) (hn.below (show Below w.heap.size w w7 from hbz) (Nat.le_refl _))).mono ?_
      rintro e w9 ⟨rfl, hbf⟩
      refine hK _ _ ?_
      clear hK K
      refine wpAny_ready (rs := [20]) (by kernel_rfl) (by simp) ?_
      refine AllReady.cons rfl (fun K hK => ?_) AllReady.nil
      go_simp
      refine hK _ _ ?_
      clear hK K
      refine wpAny_ready (rs := [21]) (by kernel_rfl) (by simp) ?_
      refine AllReady.cons rfl (fun K hK => ?_) AllReady.nil
      go_simp
      refine hK _ _ ?_
      clear hK K
      refine wpAny_done (by kernel_rfl) ?_ _
      go_wp2
      go_ret
      exact ⟨rfl, tr hbz hbf⟩
theorem copies_law (s : List Int) (hs : s.length = 16) (w : World) (hp : Par w) (hn : Nam w) :
    Calls Tryd.prog 3 #[.agg (arr s)] w fun e w' => e = .returned (.bool true) ∧ Below w.heap.size w w' := by
  rcases chkF_or s with h | h
  · exact copies_b s hs h w hp hn
  · exact copies_a s hs h w hp hn
end Go.Proofs.YtjhjgkocoghgfaaDoor
