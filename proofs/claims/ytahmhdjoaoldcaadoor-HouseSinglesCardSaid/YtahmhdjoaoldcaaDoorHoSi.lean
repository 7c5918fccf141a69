/-
  HouseSingles: the law's walk.
-/
import Derived.Test.YtahmhdjoaoldcaaDoorHoSl
namespace Go.Proofs.YtahmhdjoaoldcaaDoor
open Go Go.RowKit Go.Maps
set_option linter.unusedVariables false
set_option linter.unusedSimpArgs false

set_option maxRecDepth 100000 in
set_option maxHeartbeats 4000000 in
theorem singles_a (s : List Int) (hs : Hid (s.length = 12)) (n : Int) (HC : Hid (chkF s = 2)) (w : World) (h7 : 6 ≤ w.heap.size) (hr : Rul w) :
    Calls Tryd.prog 3 #[.agg (arr s), .int .i64 n] w fun e w' => e = .returned (.bool true) ∧ Below w.heap.size w w' := by
  have hB0 : Below w.heap.size w (w.alloc (.cells (arr s) 24)) := (Below.refl _ _).alloc (Nat.le_refl _) _
  have HS := Lib.hid (Blk.new w 24 (arr s))
  have HI := Lib.hid (show (Tryd.prog.info? 24).map (·.size) = some (arr s).size by rw [arr_size, hs.out]; exact info_houses)
  go_enter Tryd.func3, Tryd.ntmps3
  have HD := Lib.hid (show false = decide (chkF s = 0) by rw [HC.out]; rfl)
  go_wp2_with (refine wpList_load_row rfl 24 (.tmp 2) rfl w.heap.size rfl 24 (arr s) (0, 0) _ HS.out Tryd.underlying24 rfl HI.out ?_)
  refine (stands_b1 s hs n HC _).mono ?_
  rintro e w1 ⟨rfl, hb1⟩
  have hS1 := HS.out.below hb1 HS.out.lt
  have hB1 := tr hB0 hb1
  clear hb1 hB0 HS
  go_wp2_with (refine wpList_load_row rfl 24 (.tmp 2) rfl w.heap.size rfl 24 (arr s) (0, 0) _ hS1 Tryd.underlying24 rfl HI.out ?_)
  refine (partner_b1 s hs n HC _).mono ?_
  rintro e w2 ⟨rfl, hb2⟩
  have hS2 := hS1.below hb2 hS1.lt
  have hB2 := tr hB1 hb2
  clear hb2 hB1 hS1
  go_wp2_with fail
  refine (refHouse_any n _).mono ?_
  rintro e w3 ⟨rfl, rfl⟩
  cases hN : houB n with
  | true =>
    go_wp2_with (refine wpList_load_row rfl 24 (.tmp 2) rfl w.heap.size rfl 24 (arr s) (0, 0) _ hS2 Tryd.underlying24 rfl HI.out ?_)
    refine (refHouses_any s hs false HD _).mono ?_
    rintro e w4 ⟨rfl, hb4⟩
    have hB4 := tr hB2 hb4
    clear hb4 hS2
    go_wp2_with fail
    refine (known_any _ (by have := hB4.size; omega) (hr.below hB4 (Nat.le_refl _))).mono ?_
    rintro e w5 ⟨rfl, hb5⟩
    go_wp2
    go_ret
    exact ⟨rfl, tr hB4 hb5⟩
  | false =>
    go_wp2_with (refine wpList_load_row rfl 24 (.tmp 2) rfl w.heap.size rfl 24 (arr s) (0, 0) _ hS2 Tryd.underlying24 rfl HI.out ?_)
    refine (refHouses_any s hs false HD _).mono ?_
    rintro e w4 ⟨rfl, hb4⟩
    have hB4 := tr hB2 hb4
    clear hb4 hS2
    go_wp2_with fail
    refine (known_any _ (by have := hB4.size; omega) (hr.below hB4 (Nat.le_refl _))).mono ?_
    rintro e w5 ⟨rfl, hb5⟩
    go_wp2
    go_ret
    exact ⟨rfl, tr hB4 hb5⟩

set_option maxRecDepth 100000 in
set_option maxHeartbeats 4000000 in
theorem singles_b (s : List Int) (hs : Hid (s.length = 12)) (n : Int) (HC : Hid (chkF s = 0)) (HN : Hid (chkH [n] = 3)) (hN : Hid (houB n = false)) (w : World) (h7 : 6 ≤ w.heap.size) (hr : Rul w) :
    Calls Tryd.prog 3 #[.agg (arr s), .int .i64 n] w fun e w' => e = .returned (.bool true) ∧ Below w.heap.size w w' := by
  have hB0 : Below w.heap.size w (w.alloc (.cells (arr s) 24)) := (Below.refl _ _).alloc (Nat.le_refl _) _
  have HS := Lib.hid (Blk.new w 24 (arr s))
  have HI := Lib.hid (show (Tryd.prog.info? 24).map (·.size) = some (arr s).size by rw [arr_size, hs.out]; exact info_houses)
  go_enter Tryd.func3, Tryd.ntmps3
  have HD := Lib.hid (show true = decide (chkF s = 0) by rw [HC.out]; rfl)
  go_wp2_with (refine wpList_load_row rfl 24 (.tmp 2) rfl w.heap.size rfl 24 (arr s) (0, 0) _ HS.out Tryd.underlying24 rfl HI.out ?_)
  refine (stands_b2 s hs n HC HN _).mono ?_
  rintro e w1 ⟨rfl, hb1⟩
  have hS1 := HS.out.below hb1 HS.out.lt
  have hB1 := tr hB0 hb1
  clear hb1 hB0 HS
  go_wp2_with (refine wpList_load_row rfl 24 (.tmp 2) rfl w.heap.size rfl 24 (arr s) (0, 0) _ hS1 Tryd.underlying24 rfl HI.out ?_)
  refine (partner_b2 s hs n HC HN _).mono ?_
  rintro e w2 ⟨rfl, hb2⟩
  have hS2 := hS1.below hb2 hS1.lt
  have hB2 := tr hB1 hb2
  clear hb2 hB1 hS1
  go_wp2_with fail
  refine (refHouse_any n _).mono ?_
  rintro e w3 ⟨rfl, rfl⟩
  rw [hN.out]
  go_wp2_with (refine wpList_load_row rfl 24 (.tmp 2) rfl w.heap.size rfl 24 (arr s) (0, 0) _ hS2 Tryd.underlying24 rfl HI.out ?_)
  refine (refHouses_any s hs true HD _).mono ?_
  rintro e w4 ⟨rfl, hb4⟩
  have hB4 := tr hB2 hb4
  clear hb4 hS2
  go_wp2_with fail
  refine (known_any _ (by have := hB4.size; omega) (hr.below hB4 (Nat.le_refl _))).mono ?_
  rintro e w5 ⟨rfl, hb5⟩
  go_wp2
  go_ret
  exact ⟨rfl, tr hB4 hb5⟩

theorem standL_len (s : List Int) (f : Int) (k : Nat) : (standL s f k).length ≤ k := by
  unfold standL
  rw [List.length_map]
  exact Nat.le_trans (List.length_filter_le _ _) (by simp)
theorem empty_ownsI (w : World) : (w.alloc (.cells #[] 3)).ownsRow w.heap.size 3 1 (.slice (some ⟨w.heap.size, 0, none⟩) 0 0) 0 [] :=
  ⟨rfl, Or.inr ⟨w.heap.size, 0, #[], rfl, Nat.le_refl _, heap_alloc_new w _, Nat.le_refl _, by simp [maxLen], rfl, rfl⟩⟩
set_option maxRecDepth 100000 in
set_option maxHeartbeats 8000000 in
theorem singles_g (s : List Int) (hs : Hid (s.length = 12)) (k : Nat) (hk : k < 12) (HC : Hid (chkF s = 0)) (HN : Hid (chkH [(k : Int) + 1] = 0)) (hN : Hid (houB ((k : Int) + 1) = true)) (w : World) (h7 : 6 ≤ w.heap.size) (hr : Rul w) :
    Calls Tryd.prog 3 #[.agg (arr s), .int .i64 ((k : Int) + 1)] w fun e w' => e = .returned (.bool true) ∧ Below w.heap.size w w' := by
  have hB0 : Below w.heap.size w (w.alloc (.cells (arr s) 24)) := (Below.refl _ _).alloc (Nat.le_refl _) _
  have HS := Lib.hid (Blk.new w 24 (arr s))
  have HI := Lib.hid (show (Tryd.prog.info? 24).map (·.size) = some (arr s).size by rw [arr_size, hs.out]; exact info_houses)
  go_enter Tryd.func3, Tryd.ntmps3
  have HD := Lib.hid (show true = decide (chkF s = 0) by rw [HC.out]; rfl)
  go_wp2_with (refine wpList_load_row rfl 24 (.tmp 2) rfl w.heap.size rfl 24 (arr s) (0, 0) _ HS.out Tryd.underlying24 rfl HI.out ?_)
  refine (stands_l s hs k hk HC HN _).mono ?_
  rintro e w1 ⟨p, c, rfl, hrd, hb1⟩
  obtain ⟨f, hf⟩ : ∃ f, nth s k = f := ⟨_, rfl⟩
  rw [hf] at hrd ⊢
  have HFE := Lib.hid hf
  have hff : Fig f := hf ▸ chkF_zero HC.out k (by rw [hs.out]; exact hk)
  clear hf
  obtain ⟨xs, hxs⟩ : ∃ xs, standL s f 12 = xs := ⟨_, rfl⟩
  rw [hxs] at hrd ⊢
  have HXS := Lib.hid hxs
  have hxl : xs.length ≤ 1000000 := by have := standL_len s f 12; rw [hxs] at this; omega
  clear hxs
  have hS1 := HS.out.below hb1 HS.out.lt
  have hB1 := tr hB0 hb1
  clear hb1 hB0 HS
  go_wp2_with (refine wpList_load_row rfl 24 (.tmp 2) rfl w.heap.size rfl 24 (arr s) (0, 0) _ hS1 Tryd.underlying24 rfl HI.out ?_)
  refine (partner_l s hs k hk HC HN _ (by have := hB1.size; omega) (hr.below hB1 (Nat.le_refl _))).mono ?_
  rintro e w2 ⟨rfl, hb2⟩
  obtain ⟨q, hq⟩ : ∃ q, partN (k + 1) = q := ⟨_, rfl⟩
  obtain ⟨g, hg⟩ : ∃ g, nth s (q - 1) = g := ⟨_, rfl⟩
  obtain ⟨cm, hcm⟩ : ∃ cm, Int.ofNat (compN f.toNat g.toNat) = cm := ⟨_, rfl⟩
  rw [HFE.out, hq, hg, hcm]
  have HQ := Lib.hid hq
  have HCE := Lib.hid hcm
  have hqb : 1 ≤ q ∧ q ≤ 12 := by rw [← hq]; unfold partN; split <;> omega
  obtain ⟨q1, hq1e⟩ : ∃ q1, q = q1 + 1 := ⟨q - 1, by omega⟩
  have hq1 : q1 < 12 := by omega
  have HGE := Lib.hid (show nth s q1 = g by rw [← hg, hq1e]; rfl)
  have HQ1 := Lib.hid (show (Value.int .i64 (q : Nat)) = .int .i64 ((q1 : Int) + 1) by rw [hq1e]; rfl)
  have hgg : Fig g := HGE.out ▸ chkF_zero HC.out q1 (by rw [hs.out]; exact hq1)
  clear hq hg hcm hqb hq1e
  have hS2 := hS1.below hb2 hS1.lt
  have hB2 := tr hB1 hb2
  have hrd2 := hrd.below hb2 (Nat.le_refl _)
  clear hb2 hB1 hS1 hrd
  go_wp2_with fail
  refine (refHouse_any _ _).mono ?_
  rintro e w3 ⟨rfl, rfl⟩
  rw [hN.out]
  go_wp2_with (refine wpList_load_row rfl 24 (.tmp 2) rfl w.heap.size rfl 24 (arr s) (0, 0) _ hS2 Tryd.underlying24 rfl HI.out ?_)
  refine (refHouses_any s hs true HD _).mono ?_
  rintro e w4 ⟨rfl, hb4⟩
  have hB4 := tr hB2 hb4
  have hS4 := hS2.below hb4 hS2.lt
  have hrd4 := hrd2.below hb4 (Nat.le_refl _)
  have hr4 := hr.below hB4 (Nat.le_refl _)
  have hz4 : 6 ≤ w4.heap.size := by have := hB4.size; omega
  have hsl : w.heap.size < w4.heap.size := hS4.lt
  clear hb4 hB2 hS2 hrd2 hr h7
  obtain ⟨i0, hi, hz0, hz1, hz2⟩ := info_parts info_int
  obtain ⟨B0, hB0e⟩ : ∃ B0, B0 = w4.heap.size := ⟨_, rfl⟩
  have HB0 := Lib.hid hB0e
  clear hB0e
  go_wp2
  go_loopw [11, 12] (fun l i wr => ∃ j : Nat, j ≤ 12 ∧ i = .int .i64 ((j : Int) + 1) ∧ wr.ownsRow B0 3 1 l (standL s f j).length ((standL s f j).map (Value.int .i64)) ∧ Below B0 w4 wr) (fun _ i _ => 13 - (intOf i).toNat)
  case atStart => exact ⟨0, by omega, rfl, by rw [HB0.out]; exact empty_ownsI _, (Below.refl _ _).alloc (by rw [HB0.out]; exact Nat.le_refl _) _⟩
  case round =>
    obtain ⟨j, hj, rfl, hown, hB⟩ := hrel
    have hlen := standL_len s f j
    have hBB : Below w4.heap.size w4 wr := by rw [← HB0.out]; exact hB
    have hSr := hS4.below hBB hS4.lt
    by_cases hlt : j < 12
    · go_wp2_with fail
      by_cases hq : nth s j = f
      · have hqb : (nth s j == f) = true := by simp [hq]
        have HQY := Lib.hid (standL_yes hq)
        clear hq
        refine wp_region_vals follows_mixed [some 64, some 65, some 66, some 67, some 68, some 69, some 70] (by kernel_rfl) [(.agg (arr s)), (.int .i64 ((j : Int) + 1)), (.int .i64 (nth s j)), (.agg (arr s)), (.int .i64 ((k : Int) + 1)), (.int .i64 f), (.bool true)] rfl ?step ?fin
        case step =>
          intro i hi a V F
          have hi : i < 7 := hi
          have e : i = 0 ∨ i = 1 ∨ i = 2 ∨ i = 3 ∨ i = 4 ∨ i = 5 ∨ i = 6 := by omega
          clear hi
          rcases e with rfl | rfl | rfl | rfl | rfl | rfl | rfl
          · have e2 : a.tmps[2]?.getD undef = (.pointer (some ⟨w.heap.size, 0, none⟩)) := (F.kept 2 (by kernel_rfl)).trans rfl
            refine wpOp_step rfl (fun K hK => ?_)
            refine Eq.mpr (if_pos (by rfl)) ?_
            refine wp_load_row 24 (.tmp 2) rfl w.heap.size (eval_tmp e2) 24 (arr s) (0, 0) _ (hSr.below F.below hSr.lt) Tryd.underlying24 rfl HI.out ?_
            exact hK _ _ ⟨rfl, Below.refl _ _⟩
          · have e12 : a.tmps[12]?.getD undef = (.int .i64 ((j : Int) + 1)) := (F.kept 12 (by kernel_rfl)).trans rfl
            refine wpOp_step rfl (fun K hK => ?_)
            refine Eq.mpr (if_pos (by rfl)) ?_
            go_simp
            exact hK _ _ ⟨rfl, Below.refl _ _⟩
          · have e64 : a.tmps[64]?.getD undef = .agg (arr s) := F.dep 0 64 (by kernel_rfl) rfl
            have e65 : a.tmps[65]?.getD undef = (.int .i64 ((j : Int) + 1)) := F.dep 1 65 (by kernel_rfl) rfl
            refine wpOp_step rfl (fun K hK => ?_)
            refine Eq.mpr (if_pos (by rfl)) ?_
            go_simp
            go_wp2_with fail
            (with_reducible refine (refAt_l s hs j hlt _).mono ?_)
            rintro e V2 ⟨rfl, hb2⟩
            exact hK _ _ ⟨rfl, hb2⟩
          · have e2 : a.tmps[2]?.getD undef = (.pointer (some ⟨w.heap.size, 0, none⟩)) := (F.kept 2 (by kernel_rfl)).trans rfl
            refine wpOp_step rfl (fun K hK => ?_)
            refine Eq.mpr (if_pos (by rfl)) ?_
            refine wp_load_row 24 (.tmp 2) rfl w.heap.size (eval_tmp e2) 24 (arr s) (0, 0) _ (hSr.below F.below hSr.lt) Tryd.underlying24 rfl HI.out ?_
            exact hK _ _ ⟨rfl, Below.refl _ _⟩
          · have e1 : a.tmps[1]?.getD undef = (.int .i64 ((k : Int) + 1)) := (F.kept 1 (by kernel_rfl)).trans rfl
            refine wpOp_step rfl (fun K hK => ?_)
            refine Eq.mpr (if_pos (by rfl)) ?_
            go_simp
            exact hK _ _ ⟨rfl, Below.refl _ _⟩
          · have e67 : a.tmps[67]?.getD undef = .agg (arr s) := F.dep 3 67 (by kernel_rfl) rfl
            have e68 : a.tmps[68]?.getD undef = (.int .i64 ((k : Int) + 1)) := F.dep 4 68 (by kernel_rfl) rfl
            refine wpOp_step rfl (fun K hK => ?_)
            refine Eq.mpr (if_pos (by rfl)) ?_
            go_simp
            go_wp2_with fail
            (with_reducible refine (refAt_l s hs k hk _).mono ?_)
            rintro e V2 ⟨rfl, hb2⟩
            rw [HFE.out]
            exact hK _ _ ⟨rfl, hb2⟩
          · have e66 : a.tmps[66]?.getD undef = .int .i64 (nth s j) := F.dep 2 66 (by kernel_rfl) rfl
            have e69 : a.tmps[69]?.getD undef = .int .i64 f := F.dep 5 69 (by kernel_rfl) rfl
            refine wpOp_step rfl (fun K hK => ?_)
            refine Eq.mpr (if_pos (by rfl)) ?_
            go_simp
            exact hK _ _ ⟨rfl, Below.refl _ _⟩
        case fin =>
          intro V hb
          simp only [finV, List.set_cons_succ, List.set_cons_zero]
          have hown2 := owns_below hown hb
          have hB2 := hB.trans (hb.mono (by have := hB.size; rw [HB0.out]; exact this))
          have hsz2 : B0 ≤ V.heap.size := by have := hB2.size; rw [HB0.out]; exact this
          clear hb hown hB hBB hSr
          go_wp2_with (at_builtin; refine wpList_append_own _ rfl _ _ 25 rfl B0 3 i0 (.int .i64 0) 1 8 Tryd.underlying25 hi hz0 hz1 hz2 rfl (by decide) _ (standL s f j).length _ rfl (hown2.alloc _) ⟨V.heap.size, 0, none⟩ 1 1 [.int .i64 ((j : Int) + 1)] rfl rfl (news_at _ _ rfl) (one_int _) (by unfold maxLen; omega) (by omega) (by simp; omega) ?_)
          intro v2 w6 hown3 hg _
          have hB4 : Below B0 w4 w6 := (hB2.alloc hsz2 _).grown hg (by simp; omega) (owns_base hown2)
          clear hg hown2 hB2
          go_wp2
          go_roundw
          case rel => exact ⟨j + 1, by omega, by go_num, by rw [HQY.out]; simpa using hown3, hB4⟩
          case measure => simp [intOf]; omega
      · have hqb : (nth s j == f) = false := by simp [hq]
        have HQY := Lib.hid (standL_no hq)
        clear hq
        refine wp_region_vals follows_mixed [some 64, some 65, some 66, some 67, some 68, some 69, some 70] (by kernel_rfl) [(.agg (arr s)), (.int .i64 ((j : Int) + 1)), (.int .i64 (nth s j)), (.agg (arr s)), (.int .i64 ((k : Int) + 1)), (.int .i64 f), (.bool false)] rfl ?step ?fin
        case step =>
          intro i hi a V F
          have hi : i < 7 := hi
          have e : i = 0 ∨ i = 1 ∨ i = 2 ∨ i = 3 ∨ i = 4 ∨ i = 5 ∨ i = 6 := by omega
          clear hi
          rcases e with rfl | rfl | rfl | rfl | rfl | rfl | rfl
          · have e2 : a.tmps[2]?.getD undef = (.pointer (some ⟨w.heap.size, 0, none⟩)) := (F.kept 2 (by kernel_rfl)).trans rfl
            refine wpOp_step rfl (fun K hK => ?_)
            refine Eq.mpr (if_pos (by rfl)) ?_
            refine wp_load_row 24 (.tmp 2) rfl w.heap.size (eval_tmp e2) 24 (arr s) (0, 0) _ (hSr.below F.below hSr.lt) Tryd.underlying24 rfl HI.out ?_
            exact hK _ _ ⟨rfl, Below.refl _ _⟩
          · have e12 : a.tmps[12]?.getD undef = (.int .i64 ((j : Int) + 1)) := (F.kept 12 (by kernel_rfl)).trans rfl
            refine wpOp_step rfl (fun K hK => ?_)
            refine Eq.mpr (if_pos (by rfl)) ?_
            go_simp
            exact hK _ _ ⟨rfl, Below.refl _ _⟩
          · have e64 : a.tmps[64]?.getD undef = .agg (arr s) := F.dep 0 64 (by kernel_rfl) rfl
            have e65 : a.tmps[65]?.getD undef = (.int .i64 ((j : Int) + 1)) := F.dep 1 65 (by kernel_rfl) rfl
            refine wpOp_step rfl (fun K hK => ?_)
            refine Eq.mpr (if_pos (by rfl)) ?_
            go_simp
            go_wp2_with fail
            (with_reducible refine (refAt_l s hs j hlt _).mono ?_)
            rintro e V2 ⟨rfl, hb2⟩
            exact hK _ _ ⟨rfl, hb2⟩
          · have e2 : a.tmps[2]?.getD undef = (.pointer (some ⟨w.heap.size, 0, none⟩)) := (F.kept 2 (by kernel_rfl)).trans rfl
            refine wpOp_step rfl (fun K hK => ?_)
            refine Eq.mpr (if_pos (by rfl)) ?_
            refine wp_load_row 24 (.tmp 2) rfl w.heap.size (eval_tmp e2) 24 (arr s) (0, 0) _ (hSr.below F.below hSr.lt) Tryd.underlying24 rfl HI.out ?_
            exact hK _ _ ⟨rfl, Below.refl _ _⟩
          · have e1 : a.tmps[1]?.getD undef = (.int .i64 ((k : Int) + 1)) := (F.kept 1 (by kernel_rfl)).trans rfl
            refine wpOp_step rfl (fun K hK => ?_)
            refine Eq.mpr (if_pos (by rfl)) ?_
            go_simp
            exact hK _ _ ⟨rfl, Below.refl _ _⟩
          · have e67 : a.tmps[67]?.getD undef = .agg (arr s) := F.dep 3 67 (by kernel_rfl) rfl
            have e68 : a.tmps[68]?.getD undef = (.int .i64 ((k : Int) + 1)) := F.dep 4 68 (by kernel_rfl) rfl
            refine wpOp_step rfl (fun K hK => ?_)
            refine Eq.mpr (if_pos (by rfl)) ?_
            go_simp
            go_wp2_with fail
            (with_reducible refine (refAt_l s hs k hk _).mono ?_)
            rintro e V2 ⟨rfl, hb2⟩
            rw [HFE.out]
            exact hK _ _ ⟨rfl, hb2⟩
          · have e66 : a.tmps[66]?.getD undef = .int .i64 (nth s j) := F.dep 2 66 (by kernel_rfl) rfl
            have e69 : a.tmps[69]?.getD undef = .int .i64 f := F.dep 5 69 (by kernel_rfl) rfl
            refine wpOp_step rfl (fun K hK => ?_)
            refine Eq.mpr (if_pos (by rfl)) ?_
            go_simp
            exact hK _ _ ⟨rfl, Below.refl _ _⟩
        case fin =>
          intro V hb
          simp only [finV, List.set_cons_succ, List.set_cons_zero]
          have hown2 := owns_below hown hb
          have hB2 := hB.trans (hb.mono (by have := hB.size; rw [HB0.out]; exact this))
          clear hb hown hB hBB hSr
          go_wp2
          go_roundw
          case rel => exact ⟨j + 1, by omega, by go_num, by rw [HQY.out]; exact hown2, hB2⟩
          case measure => simp [intOf]; omega
    · obtain rfl : j = 12 := by omega
      have hBw : Below w.heap.size w wr := hB4.trans (hBB.mono hB4.size)
      have hrd := hrd4.below hBB (Nat.le_refl _)
      have hrr := hr4.below hBB (Nat.le_refl _)
      have hzr : 6 ≤ wr.heap.size := by have := hBB.size; omega
      rw [HXS.out] at hown
      obtain ⟨p2, c2, rfl, hrd2⟩ := Got.of_owns hown
      clear hrd4 hr4 hown hlt hj hB hBB hB4 hS4
      go_wp2_with fail
      refine (refPartner_any k hk _ hzr).mono ?_
      rintro e w7 ⟨rfl, hb7⟩
      have HQ2 := Lib.hid (show (partN (k + 1)) = q from HQ.out)
      rw [HQ2.out]
      replace hrd := hrd.below hb7 (Nat.le_refl _)
      replace hrd2 := hrd2.below hb7 (Nat.le_refl _)
      replace hrr := hrr.below hb7 (Nat.le_refl _)
      replace hSr := hSr.below hb7 hSr.lt
      replace hBw := tr hBw hb7
      replace hzr : 6 ≤ w7.heap.size := by have := hb7.size; omega
      clear hb7
      go_wp2_with fail
      refine wp_region_vals follows_mixed [some 77, some 78, some 79, some 80, some 81, some 82, some 83, some 84, some 85, some 86, some 87, some 88, some 89, some 90, some 91, some 92, some 93, some 94, some 95, some 96, some 97, some 98, some 99, some 100, some 101, some 102, some 103, some 104, some 105, some 106, some 4] (by kernel_rfl) [(.int .i64 0), (.bool true), (.bool true), (.int .i64 0), (.bool true), (.bool true), (.bool true), (.slice p xs.length c), (.slice p2 xs.length c2), (.bool true), (.bool true), (.bool true), (.int .i64 (q : Nat)), (.int .i64 (q : Nat)), (.bool true), (.bool true), (.bool true), (.int .i64 cm), (.agg (arr s)), (.int .i64 ((k : Int) + 1)), (.int .i64 f), (.agg (arr s)), (.int .i64 (q : Nat)), (.int .i64 g), (.int .i64 cm), (.bool true), (.bool true), (.bool true), (.bool true), (.bool true), (.bool true)] rfl ?step ?fin
      case step =>
        intro i hi a V F
        have hi : i < 31 := hi
        have e : i = 0 ∨ i = 1 ∨ i = 2 ∨ i = 3 ∨ i = 4 ∨ i = 5 ∨ i = 6 ∨ i = 7 ∨ i = 8 ∨ i = 9 ∨ i = 10 ∨ i = 11 ∨ i = 12 ∨ i = 13 ∨ i = 14 ∨ i = 15 ∨ i = 16 ∨ i = 17 ∨ i = 18 ∨ i = 19 ∨ i = 20 ∨ i = 21 ∨ i = 22 ∨ i = 23 ∨ i = 24 ∨ i = 25 ∨ i = 26 ∨ i = 27 ∨ i = 28 ∨ i = 29 ∨ i = 30 := by omega
        clear hi
        rcases e with rfl | rfl | rfl | rfl | rfl | rfl | rfl | rfl | rfl | rfl | rfl | rfl | rfl | rfl | rfl | rfl | rfl | rfl | rfl | rfl | rfl | rfl | rfl | rfl | rfl | rfl | rfl | rfl | rfl | rfl | rfl
        · have e6 : a.tmps[6]?.getD undef = .int .i64 0 := (F.kept 6 (by kernel_rfl)).trans rfl
          refine wpOp_step rfl (fun K hK => ?_)
          refine Eq.mpr (if_pos (by rfl)) ?_
          go_simp
          exact hK _ _ ⟨rfl, Below.refl _ _⟩
        · have e77 : a.tmps[77]?.getD undef = .int .i64 0 := F.dep 0 77 (by kernel_rfl) rfl
          refine wpOp_step rfl (fun K hK => ?_)
          refine Eq.mpr (if_pos (by rfl)) ?_
          go_simp
          exact hK _ _ ⟨rfl, Below.refl _ _⟩
        · have e78 : a.tmps[78]?.getD undef = .bool true := F.dep 1 78 (by kernel_rfl) rfl
          refine wpOp_step rfl (fun K hK => ?_)
          refine Eq.mpr (if_pos (by rfl)) ?_
          go_simp
          exact hK _ _ ⟨rfl, Below.refl _ _⟩
        · have e9 : a.tmps[9]?.getD undef = .int .i64 0 := (F.kept 9 (by kernel_rfl)).trans rfl
          have e79 : a.tmps[79]?.getD undef = .bool true := F.dep 2 79 (by kernel_rfl) rfl
          refine wpOp_step rfl (fun K hK => ?_)
          refine Eq.mpr (if_pos (wanted_of rfl rfl e79)) ?_
          go_simp
          exact hK _ _ ⟨rfl, Below.refl _ _⟩
        · have e80 : a.tmps[80]?.getD undef = .int .i64 0 := F.dep 3 80 (by kernel_rfl) rfl
          have e79 : a.tmps[79]?.getD undef = .bool true := F.dep 2 79 (by kernel_rfl) rfl
          refine wpOp_step rfl (fun K hK => ?_)
          refine Eq.mpr (if_pos (wanted_of rfl rfl e79)) ?_
          go_simp
          exact hK _ _ ⟨rfl, Below.refl _ _⟩
        · have e79 : a.tmps[79]?.getD undef = .bool true := F.dep 2 79 (by kernel_rfl) rfl
          have e81 : a.tmps[81]?.getD undef = .bool true := F.dep 4 81 (by kernel_rfl) rfl
          refine wpOp_step rfl (fun K hK => ?_)
          refine Eq.mpr (if_pos (by rfl)) ?_
          go_simp
          exact hK _ _ ⟨rfl, Below.refl _ _⟩
        · have e82 : a.tmps[82]?.getD undef = .bool true := F.dep 5 82 (by kernel_rfl) rfl
          refine wpOp_step rfl (fun K hK => ?_)
          refine Eq.mpr (if_pos (by rfl)) ?_
          go_simp
          exact hK _ _ ⟨rfl, Below.refl _ _⟩
        · have e5 : a.tmps[5]?.getD undef = (.slice p xs.length c) := (F.kept 5 (by kernel_rfl)).trans rfl
          have e83 : a.tmps[83]?.getD undef = .bool true := F.dep 6 83 (by kernel_rfl) rfl
          refine wpOp_step rfl (fun K hK => ?_)
          refine Eq.mpr (if_pos (wanted_of rfl rfl e83)) ?_
          go_simp
          exact hK _ _ ⟨rfl, Below.refl _ _⟩
        · have e11 : a.tmps[11]?.getD undef = (.slice p2 xs.length c2) := (F.kept 11 (by kernel_rfl)).trans rfl
          have e83 : a.tmps[83]?.getD undef = .bool true := F.dep 6 83 (by kernel_rfl) rfl
          refine wpOp_step rfl (fun K hK => ?_)
          refine Eq.mpr (if_pos (wanted_of rfl rfl e83)) ?_
          go_simp
          exact hK _ _ ⟨rfl, Below.refl _ _⟩
        · have e84 : a.tmps[84]?.getD undef = (.slice p xs.length c) := F.dep 7 84 (by kernel_rfl) rfl
          have e85 : a.tmps[85]?.getD undef = (.slice p2 xs.length c2) := F.dep 8 85 (by kernel_rfl) rfl
          have e83 : a.tmps[83]?.getD undef = .bool true := F.dep 6 83 (by kernel_rfl) rfl
          refine wpOp_step rfl (fun K hK => ?_)
          refine Eq.mpr (if_pos (wanted_of rfl rfl e83)) ?_
          go_simp
          go_wp2_with fail
          (with_reducible refine (same5_any p xs xs.length c p2 xs xs.length c2 _ (Lib.hid rfl) (Lib.hid rfl) hxl (hrd.below F.below (Nat.le_refl _)) (hrd2.below F.below (Nat.le_refl _))).mono ?_)
          rintro e V2 ⟨rfl, r, rfl⟩
          rw [show (decide (xs = xs)) = true from by simp]
          exact hK _ _ ⟨rfl, below_drewN (Below.refl _ _) r⟩
        · have e83 : a.tmps[83]?.getD undef = .bool true := F.dep 6 83 (by kernel_rfl) rfl
          have e86 : a.tmps[86]?.getD undef = .bool true := F.dep 9 86 (by kernel_rfl) rfl
          refine wpOp_step rfl (fun K hK => ?_)
          refine Eq.mpr (if_pos (by rfl)) ?_
          go_simp
          exact hK _ _ ⟨rfl, Below.refl _ _⟩
        · have e87 : a.tmps[87]?.getD undef = .bool true := F.dep 10 87 (by kernel_rfl) rfl
          refine wpOp_step rfl (fun K hK => ?_)
          refine Eq.mpr (if_pos (by rfl)) ?_
          go_simp
          exact hK _ _ ⟨rfl, Below.refl _ _⟩
        · have e7 : a.tmps[7]?.getD undef = (.int .i64 (q : Nat)) := (F.kept 7 (by kernel_rfl)).trans rfl
          have e88 : a.tmps[88]?.getD undef = .bool true := F.dep 11 88 (by kernel_rfl) rfl
          refine wpOp_step rfl (fun K hK => ?_)
          refine Eq.mpr (if_pos (wanted_of rfl rfl e88)) ?_
          go_simp
          exact hK _ _ ⟨rfl, Below.refl _ _⟩
        · have e13 : a.tmps[13]?.getD undef = (.int .i64 (q : Nat)) := (F.kept 13 (by kernel_rfl)).trans rfl
          have e88 : a.tmps[88]?.getD undef = .bool true := F.dep 11 88 (by kernel_rfl) rfl
          refine wpOp_step rfl (fun K hK => ?_)
          refine Eq.mpr (if_pos (wanted_of rfl rfl e88)) ?_
          go_simp
          exact hK _ _ ⟨rfl, Below.refl _ _⟩
        · have e89 : a.tmps[89]?.getD undef = (.int .i64 (q : Nat)) := F.dep 12 89 (by kernel_rfl) rfl
          have e90 : a.tmps[90]?.getD undef = (.int .i64 (q : Nat)) := F.dep 13 90 (by kernel_rfl) rfl
          have e88 : a.tmps[88]?.getD undef = .bool true := F.dep 11 88 (by kernel_rfl) rfl
          refine wpOp_step rfl (fun K hK => ?_)
          refine Eq.mpr (if_pos (wanted_of rfl rfl e88)) ?_
          go_simp
          exact hK _ _ ⟨rfl, Below.refl _ _⟩
        · have e88 : a.tmps[88]?.getD undef = .bool true := F.dep 11 88 (by kernel_rfl) rfl
          have e91 : a.tmps[91]?.getD undef = .bool true := F.dep 14 91 (by kernel_rfl) rfl
          refine wpOp_step rfl (fun K hK => ?_)
          refine Eq.mpr (if_pos (by rfl)) ?_
          go_simp
          exact hK _ _ ⟨rfl, Below.refl _ _⟩
        · have e92 : a.tmps[92]?.getD undef = .bool true := F.dep 15 92 (by kernel_rfl) rfl
          refine wpOp_step rfl (fun K hK => ?_)
          refine Eq.mpr (if_pos (by rfl)) ?_
          go_simp
          exact hK _ _ ⟨rfl, Below.refl _ _⟩
        · have e8 : a.tmps[8]?.getD undef = (.int .i64 cm) := (F.kept 8 (by kernel_rfl)).trans rfl
          have e93 : a.tmps[93]?.getD undef = .bool true := F.dep 16 93 (by kernel_rfl) rfl
          refine wpOp_step rfl (fun K hK => ?_)
          refine Eq.mpr (if_pos (wanted_of rfl rfl e93)) ?_
          go_simp
          exact hK _ _ ⟨rfl, Below.refl _ _⟩
        · have e2 : a.tmps[2]?.getD undef = (.pointer (some ⟨w.heap.size, 0, none⟩)) := (F.kept 2 (by kernel_rfl)).trans rfl
          have e93 : a.tmps[93]?.getD undef = .bool true := F.dep 16 93 (by kernel_rfl) rfl
          refine wpOp_step rfl (fun K hK => ?_)
          refine Eq.mpr (if_pos (wanted_of rfl rfl e93)) ?_
          refine wp_load_row 24 (.tmp 2) rfl w.heap.size (eval_tmp e2) 24 (arr s) (0, 0) _ (hSr.below F.below hSr.lt) Tryd.underlying24 rfl HI.out ?_
          exact hK _ _ ⟨rfl, Below.refl _ _⟩
        · have e1 : a.tmps[1]?.getD undef = (.int .i64 ((k : Int) + 1)) := (F.kept 1 (by kernel_rfl)).trans rfl
          have e93 : a.tmps[93]?.getD undef = .bool true := F.dep 16 93 (by kernel_rfl) rfl
          refine wpOp_step rfl (fun K hK => ?_)
          refine Eq.mpr (if_pos (wanted_of rfl rfl e93)) ?_
          go_simp
          exact hK _ _ ⟨rfl, Below.refl _ _⟩
        · have e95 : a.tmps[95]?.getD undef = .agg (arr s) := F.dep 18 95 (by kernel_rfl) rfl
          have e96 : a.tmps[96]?.getD undef = (.int .i64 ((k : Int) + 1)) := F.dep 19 96 (by kernel_rfl) rfl
          have e93 : a.tmps[93]?.getD undef = .bool true := F.dep 16 93 (by kernel_rfl) rfl
          refine wpOp_step rfl (fun K hK => ?_)
          refine Eq.mpr (if_pos (wanted_of rfl rfl e93)) ?_
          go_simp
          go_wp2_with fail
          (with_reducible refine (refAt_l s hs k hk _).mono ?_)
          rintro e V2 ⟨rfl, hb2⟩
          rw [HFE.out]
          exact hK _ _ ⟨rfl, hb2⟩
        · have e2 : a.tmps[2]?.getD undef = (.pointer (some ⟨w.heap.size, 0, none⟩)) := (F.kept 2 (by kernel_rfl)).trans rfl
          have e93 : a.tmps[93]?.getD undef = .bool true := F.dep 16 93 (by kernel_rfl) rfl
          refine wpOp_step rfl (fun K hK => ?_)
          refine Eq.mpr (if_pos (wanted_of rfl rfl e93)) ?_
          refine wp_load_row 24 (.tmp 2) rfl w.heap.size (eval_tmp e2) 24 (arr s) (0, 0) _ (hSr.below F.below hSr.lt) Tryd.underlying24 rfl HI.out ?_
          exact hK _ _ ⟨rfl, Below.refl _ _⟩
        · have e13 : a.tmps[13]?.getD undef = (.int .i64 (q : Nat)) := (F.kept 13 (by kernel_rfl)).trans rfl
          have e93 : a.tmps[93]?.getD undef = .bool true := F.dep 16 93 (by kernel_rfl) rfl
          refine wpOp_step rfl (fun K hK => ?_)
          refine Eq.mpr (if_pos (wanted_of rfl rfl e93)) ?_
          go_simp
          exact hK _ _ ⟨rfl, Below.refl _ _⟩
        · have e98 : a.tmps[98]?.getD undef = .agg (arr s) := F.dep 21 98 (by kernel_rfl) rfl
          have e99 : a.tmps[99]?.getD undef = (.int .i64 (q : Nat)) := F.dep 22 99 (by kernel_rfl) rfl
          have e93 : a.tmps[93]?.getD undef = .bool true := F.dep 16 93 (by kernel_rfl) rfl
          refine wpOp_step rfl (fun K hK => ?_)
          refine Eq.mpr (if_pos (wanted_of rfl rfl e93)) ?_
          have e99b : a.tmps[99]?.getD undef = (.int .i64 ((q1 : Int) + 1)) := e99.trans HQ1.out
          clear e99
          go_simp
          go_wp2_with fail
          (with_reducible refine (refAt_l s hs q1 hq1 _).mono ?_)
          rintro e V2 ⟨rfl, hb2⟩
          rw [HGE.out]
          exact hK _ _ ⟨rfl, hb2⟩
        · have e97 : a.tmps[97]?.getD undef = .int .i64 f := F.dep 20 97 (by kernel_rfl) rfl
          have e100 : a.tmps[100]?.getD undef = .int .i64 g := F.dep 23 100 (by kernel_rfl) rfl
          have e93 : a.tmps[93]?.getD undef = .bool true := F.dep 16 93 (by kernel_rfl) rfl
          refine wpOp_step rfl (fun K hK => ?_)
          refine Eq.mpr (if_pos (wanted_of rfl rfl e93)) ?_
          go_simp
          go_wp2_with fail
          (with_reducible refine (refCompany_any f g hff hgg _ (by have := F.below.size; omega)).mono ?_)
          rintro e V2 ⟨rfl, hb2⟩
          rw [HCE.out]
          exact hK _ _ ⟨rfl, hb2⟩
        · have e94 : a.tmps[94]?.getD undef = (.int .i64 cm) := F.dep 17 94 (by kernel_rfl) rfl
          have e101 : a.tmps[101]?.getD undef = (.int .i64 cm) := F.dep 24 101 (by kernel_rfl) rfl
          have e93 : a.tmps[93]?.getD undef = .bool true := F.dep 16 93 (by kernel_rfl) rfl
          refine wpOp_step rfl (fun K hK => ?_)
          refine Eq.mpr (if_pos (wanted_of rfl rfl e93)) ?_
          go_simp
          exact hK _ _ ⟨rfl, Below.refl _ _⟩
        · have e93 : a.tmps[93]?.getD undef = .bool true := F.dep 16 93 (by kernel_rfl) rfl
          have e102 : a.tmps[102]?.getD undef = .bool true := F.dep 25 102 (by kernel_rfl) rfl
          refine wpOp_step rfl (fun K hK => ?_)
          refine Eq.mpr (if_pos (by rfl)) ?_
          go_simp
          exact hK _ _ ⟨rfl, Below.refl _ _⟩
        · have e103 : a.tmps[103]?.getD undef = .bool true := F.dep 26 103 (by kernel_rfl) rfl
          refine wpOp_step rfl (fun K hK => ?_)
          refine Eq.mpr (if_pos (by rfl)) ?_
          go_simp
          exact hK _ _ ⟨rfl, Below.refl _ _⟩
        · have e104 : a.tmps[104]?.getD undef = .bool true := F.dep 27 104 (by kernel_rfl) rfl
          refine wpOp_step rfl (fun K hK => ?_)
          refine Eq.mpr (if_pos (wanted_of rfl rfl e104)) ?_
          go_simp
          go_wp2_with fail
          (with_reducible refine (known_any _ (by have := F.below.size; omega) (hrr.below F.below (Nat.le_refl _))).mono ?_)
          rintro e V2 ⟨rfl, hb2⟩
          exact hK _ _ ⟨rfl, hb2⟩
        · have e104 : a.tmps[104]?.getD undef = .bool true := F.dep 27 104 (by kernel_rfl) rfl
          have e105 : a.tmps[105]?.getD undef = .bool true := F.dep 28 105 (by kernel_rfl) rfl
          refine wpOp_step rfl (fun K hK => ?_)
          refine Eq.mpr (if_pos (by rfl)) ?_
          go_simp
          exact hK _ _ ⟨rfl, Below.refl _ _⟩
        · have e106 : a.tmps[106]?.getD undef = .bool true := F.dep 29 106 (by kernel_rfl) rfl
          refine wpOp_step rfl (fun K hK => ?_)
          refine Eq.mpr (if_pos (by rfl)) ?_
          go_simp
          exact hK _ _ ⟨rfl, Below.refl _ _⟩
      case fin =>
        intro V hb
        simp only [finV, List.set_cons_succ, List.set_cons_zero]
        go_wp2
        go_ret
        exact ⟨rfl, tr hBw hb⟩

theorem singles_law (s : List Int) (hs : s.length = 12) (n : Int) (w : World) (h7 : 6 ≤ w.heap.size) (hr : Rul w) :
    Calls Tryd.prog 3 #[.agg (arr s), .int .i64 n] w fun e w' => e = .returned (.bool true) ∧ Below w.heap.size w w' := by
  rcases chkF_or s with h | h
  · rcases chkH_one (a := n) with ⟨h1, h2⟩ | ⟨h1, h2⟩
    · obtain ⟨k, hk, rfl⟩ := hou_nat h2
      have e : (Int.ofNat (k + 1)) = (k : Int) + 1 := rfl
      rw [e] at h1 h2 ⊢
      exact singles_g s (Lib.hid hs) k hk (Lib.hid h) (Lib.hid h1) (Lib.hid (by unfold houB; unfold Hou at h2; simpa using h2)) w h7 hr
    · exact singles_b s (Lib.hid hs) n (Lib.hid h) (Lib.hid h1) (Lib.hid (by unfold houB; unfold Hou at h2; simpa using h2)) w h7 hr
  · exact singles_a s (Lib.hid hs) n (Lib.hid h) w h7 hr
end Go.Proofs.YtahmhdjoaoldcaaDoor
