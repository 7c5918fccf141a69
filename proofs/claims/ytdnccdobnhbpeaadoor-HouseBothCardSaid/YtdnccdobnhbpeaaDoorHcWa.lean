/-
  The law on ties both ways.
-/
import Derived.Test.YtdnccdobnhbpeaaDoorHcO
import Derived.Test.YtdnccdobnhbpeaaDoorHcV
import Derived.Test.YtdnccdobnhbpeaaDoorHcWl
import Derived.BigQuiet
import Derived.Deep.CutBlock
import Derived.Deep.CutRange
import Derived.Deep.Light
namespace Go.Proofs.YtdnccdobnhbpeaaDoor
open Go Go.RowKit Go.Shelf Go.Maps Go.ChangeShapes
set_option linter.unusedVariables false
set_option linter.unusedSimpArgs false

set_option maxRecDepth 100000 in
set_option maxHeartbeats 8000000 in
theorem both_walkA (s0 s1 s2 s3 s4 s5 s6 s7 s8 s9 s10 s11 : Int) (HC : Hid (chkF [s0, s1, s2, s3, s4, s5, s6, s7, s8, s9, s10, s11] = 0)) (a b : Int) (ha : Hou a) (hb : Hou b) (HAB : Hid ((a == b) = false)) (HBA : Hid ((b == a) = false)) (zs : List Int) (hz : zs.length = 14) (hzb : ∀ k, k < 14 → 0 ≤ nth zs k ∧ nth zs k < 256) (HS : Hid (arr (skyTo zs 12) = #[.int .i64 s0, .int .i64 s1, .int .i64 s2, .int .i64 s3, .int .i64 s4, .int .i64 s5, .int .i64 s6, .int .i64 s7, .int .i64 s8, .int .i64 s9, .int .i64 s10, .int .i64 s11])) (HA : Hid (skyA zs = a)) (HBv : Hid (skyB zs = b)) (HVV : Hid (jdg [s0, s1, s2, s3, s4, s5, s6, s7, s8, s9, s10, s11] a b ≤ 2)) (w : World) (h6 : 6 ≤ w.heap.size) (hr : Rul w) :
    Calls Tryd.prog 5 #[.agg (bys zs)] w fun e w' => e = .returned (.bool true) ∧ Below w.heap.size w w' := by
  have hX := Blk.new w 61 (bys zs)
  have hB0 := below1 w (.cells (bys zs) 61)
  have HX := Lib.hid hX
  clear hX
  have HIs := Lib.hid (show (Tryd.prog.info? 61).map (·.size) = some (bys zs).size by rw [show (bys zs).size = 14 by simp [bys, hz]]; exact info_sky)
  have HIh := Lib.hid (show (Tryd.prog.info? 24).map (·.size) = some (#[.int .i64 s0, .int .i64 s1, .int .i64 s2, .int .i64 s3, .int .i64 s4, .int .i64 s5, .int .i64 s6, .int .i64 s7, .int .i64 s8, .int .i64 s9, .int .i64 s10, .int .i64 s11] : Array Value).size from info_houses)
  go_enter Tryd.func5, Tryd.ntmps5
  go_wp2_with (refine wpList_load_row rfl 61 (.tmp 1) rfl w.heap.size rfl 61 (bys zs) (0, 0) _ HX.out Tryd.underlying61 rfl HIs.out ?_)
  refine (sky_any zs hz hzb _).mono ?_
  rintro e w2 ⟨rfl, hb2⟩
  rw [HS.out, HA.out, HBv.out]
  have hB2 : Below w.heap.size w w2 := hB0.trans (hb2.mono hB0.size)
  clear hb2 hB0 HX HIs
  have HZ := Lib.hid (newAt (W := w2) (o := .cells #[.int .i64 0, .int .i64 0, .int .i64 0, .int .i64 0, .int .i64 0, .int .i64 0, .int .i64 0, .int .i64 0, .int .i64 0, .int .i64 0, .int .i64 0, .int .i64 0] 24) rfl)
  have HH' : Hid (Blk ((w2.alloc (.cells #[.int .i64 0, .int .i64 0, .int .i64 0, .int .i64 0, .int .i64 0, .int .i64 0, .int .i64 0, .int .i64 0, .int .i64 0, .int .i64 0, .int .i64 0, .int .i64 0] 24)).setRow w2.heap.size #[.int .i64 s0, .int .i64 s1, .int .i64 s2, .int .i64 s3, .int .i64 s4, .int .i64 s5, .int .i64 s6, .int .i64 s7, .int .i64 s8, .int .i64 s9, .int .i64 s10, .int .i64 s11]) w2.heap.size 24 #[.int .i64 s0, .int .i64 s1, .int .i64 s2, .int .i64 s3, .int .i64 s4, .int .i64 s5, .int .i64 s6, .int .i64 s7, .int .i64 s8, .int .i64 s9, .int .i64 s10, .int .i64 s11]) := Lib.hid (Blk.row HZ.out _)
  go_wp2_with (first
    | (refine wpList_store_row rfl 24 (.tmp 3) (.tmp 31) rfl w2.heap.size #[.int .i64 s0, .int .i64 s1, .int .i64 s2, .int .i64 s3, .int .i64 s4, .int .i64 s5, .int .i64 s6, .int .i64 s7, .int .i64 s8, .int .i64 s9, .int .i64 s10, .int .i64 s11] rfl rfl 24 _ HZ.out HIh.out rfl (by simp [Value.oneCell']) ?_)
    | (refine wpList_load_row rfl 24 (.tmp 3) rfl w2.heap.size rfl 24 #[.int .i64 s0, .int .i64 s1, .int .i64 s2, .int .i64 s3, .int .i64 s4, .int .i64 s5, .int .i64 s6, .int .i64 s7, .int .i64 s8, .int .i64 s9, .int .i64 s10, .int .i64 s11] (0, 0) _ HH'.out Tryd.underlying24 rfl HIh.out ?_))
  obtain ⟨S3, hS3⟩ : ∃ S3, w2.heap.size = S3 := ⟨_, rfl⟩
  generalize hW3 : World.setRow _ _ _ = W3
  rw [hW3] at HH'
  rw [hS3] at HH' hW3
  have hB3 : Below w.heap.size w W3 := by
    rw [← hW3]
    exact below_setRow (hB2.alloc hB2.size _) (by rw [← hS3]; exact hB2.size) _
  have hs3 : S3 < W3.heap.size := HH'.out.lt
  have hs3' : w.heap.size ≤ S3 := by rw [← hS3]; exact hB2.size
  clear hW3 HZ
  have hw3 : 6 ≤ W3.heap.size := Nat.le_trans h6 hB3.size
  refine (tiesS_any s0 s1 s2 s3 s4 s5 s6 s7 s8 s9 s10 s11 HC a b ha hb HAB W3 hw3).mono ?_
  rintro e w4 ⟨⟨v1, ts, rfl, hp1, ho1⟩, hb4⟩
  obtain ⟨p1, c1, rfl, hR1, _⟩ := Rows3.of_owns ho1
  obtain ⟨n, hn⟩ : ∃ n, ts.length = n := ⟨_, rfl⟩
  rw [hn]
  have hB4 := hB3.trans (hb4.mono hB3.size)
  have HH := Lib.hid (HH'.out.below hb4 hs3)
  have hs4 : S3 < w4.heap.size := HH.out.lt
  clear hb4 ho1 hB3 hs3 HH' hw3
  go_wp2_with (refine wpList_load_row rfl 24 (.tmp 3) rfl S3 rfl 24 #[.int .i64 s0, .int .i64 s1, .int .i64 s2, .int .i64 s3, .int .i64 s4, .int .i64 s5, .int .i64 s6, .int .i64 s7, .int .i64 s8, .int .i64 s9, .int .i64 s10, .int .i64 s11] (0, 0) _ HH.out Tryd.underlying24 rfl HIh.out ?_)
  have hw4 : 6 ≤ w4.heap.size := Nat.le_trans h6 hB4.size
  refine (tiesS_any s0 s1 s2 s3 s4 s5 s6 s7 s8 s9 s10 s11 HC b a hb ha HBA w4 hw4).mono ?_
  rintro e w5 ⟨⟨v2, us, rfl, hp2, ho2⟩, hb5⟩
  obtain ⟨p2, c2, rfl, hR2, _⟩ := Rows3.of_owns ho2
  have hn2 : us.length = n := by rw [hp2.length_eq, ← raw_len, ← hp1.length_eq]; exact hn
  rw [hn2]
  have hB5 := hB4.trans (hb5.mono hB4.size)
  have HH5 := Lib.hid (HH.out.below hb5 hs4)
  have hR1' := hR1.below hb5 (Nat.le_refl _)
  have hs5 : S3 < w5.heap.size := HH5.out.lt
  clear hb5 ho2 hB4 hs4 HH hw4 hR1
  have HH := HH5
  clear HH5
  go_wp2_with (refine wpList_load_row rfl 24 (.tmp 3) rfl S3 rfl 24 #[.int .i64 s0, .int .i64 s1, .int .i64 s2, .int .i64 s3, .int .i64 s4, .int .i64 s5, .int .i64 s6, .int .i64 s7, .int .i64 s8, .int .i64 s9, .int .i64 s10, .int .i64 s11] (0, 0) _ HH.out Tryd.underlying24 rfl HIh.out ?_)
  have hw5 : 6 ≤ w5.heap.size := Nat.le_trans h6 hB5.size
  refine (judgeS_any s0 s1 s2 s3 s4 s5 s6 s7 s8 s9 s10 s11 HC a b ha hb HAB w5 hw5).mono ?_
  rintro e w6 ⟨rfl, hb6⟩
  obtain ⟨V, hV⟩ : ∃ V, jdg [s0, s1, s2, s3, s4, s5, s6, s7, s8, s9, s10, s11] a b = V := ⟨_, rfl⟩
  rw [hV]
  have hB6 := hB5.trans (hb6.mono hB5.size)
  have HH6 := Lib.hid (HH.out.below hb6 hs5)
  have hR1 := hR1'.below hb6 (Nat.le_refl _)
  have hR2' := hR2.below hb6 (Nat.le_refl _)
  have hs6 : S3 < w6.heap.size := HH6.out.lt
  clear hb6 hB5 hs5 HH hw5 hR1' hR2
  have HH := HH6
  clear HH6
  go_wp2_with (refine wpList_load_row rfl 24 (.tmp 3) rfl S3 rfl 24 #[.int .i64 s0, .int .i64 s1, .int .i64 s2, .int .i64 s3, .int .i64 s4, .int .i64 s5, .int .i64 s6, .int .i64 s7, .int .i64 s8, .int .i64 s9, .int .i64 s10, .int .i64 s11] (0, 0) _ HH.out Tryd.underlying24 rfl HIh.out ?_)
  have hw6 : 6 ≤ w6.heap.size := Nat.le_trans h6 hB6.size
  refine (judgeS_any s0 s1 s2 s3 s4 s5 s6 s7 s8 s9 s10 s11 HC b a hb ha HBA w6 hw6).mono ?_
  rintro e w7 ⟨rfl, hb7⟩
  obtain ⟨U, hU⟩ : ∃ U, jdg [s0, s1, s2, s3, s4, s5, s6, s7, s8, s9, s10, s11] b a = U := ⟨_, rfl⟩
  rw [hU]
  have hB7 := hB6.trans (hb7.mono hB6.size)
  have HH7 := Lib.hid (HH.out.below hb7 hs6)
  have HR1 := Lib.hid (hR1.below hb7 (Nat.le_refl _))
  have HR2 := Lib.hid (hR2'.below hb7 (Nat.le_refl _))
  have hs7 : S3 < w7.heap.size := HH7.out.lt
  clear hb7 hB6 hs6 HH hw6 hR1 hR2'
  have HH := HH7
  clear HH7
  have hnr : (rawL [s0, s1, s2, s3, s4, s5, s6, s7, s8, s9, s10, s11] a b).length = n := by rw [← hp1.length_eq]; exact hn
  obtain ⟨j1, j2, j3, j4⟩ := jdg_facts (s := [s0, s1, s2, s3, s4, s5, s6, s7, s8, s9, s10, s11]) ha hb
  obtain ⟨j5, j6, j7, j8⟩ := jdg_facts (s := [s0, s1, s2, s3, s4, s5, s6, s7, s8, s9, s10, s11]) hb ha
  rw [hV] at j1 j2 j3 j4
  rw [hU] at j5 j6 j7
  rw [hU] at j4
  rw [hnr] at j3
  rw [← raw_len, hnr] at j7
  clear j8
  have hn40 : n ≤ 40 := by rw [← hnr]; exact rawL_len _ _ _
  have hw7 : 6 ≤ w7.heap.size := Nat.le_trans h6 hB7.size
  have HP1 := Lib.hid hp1
  have HP2 := Lib.hid hp2
  have HN1 := Lib.hid hn
  have HN2 := Lib.hid hn2
  have hv : V ≤ 2 := by
    have h := HVV.out
    rw [hV] at h
    omega
  clear hp1 hp2 hn hn2 hV hU hnr
  · obtain rfl : V = U := j4 (.inl hv)
    have hn0 : 0 < n := j3.1 hv
    have v1' : ¬ V < 1 := by omega
    have v2' : ¬ 4 < V := by omega
    clear j1 j2 j3 j4 j5 j6 j7
    go_wp2_with fail
    clear hn0 v1' v2' hv HVV
    generalize Value.agg #[.int .i64 s0, .int .i64 s1, .int .i64 s2, .int .i64 s3, .int .i64 s4, .int .i64 s5, .int .i64 s6, .int .i64 s7, .int .i64 s8, .int .i64 s9, .int .i64 s10, .int .i64 s11] = J1
    generalize Value.agg (bys zs) = J2
    go_loopw [14] (fun i wr => ∃ k : Nat, k ≤ n ∧ i = .int .i64 k ∧ Hid (Blk wr S3 24 #[.int .i64 s0, .int .i64 s1, .int .i64 s2, .int .i64 s3, .int .i64 s4, .int .i64 s5, .int .i64 s6, .int .i64 s7, .int .i64 s8, .int .i64 s9, .int .i64 s10, .int .i64 s11]) ∧ Hid (Rows3 wr p1 ts) ∧ Hid (Rows3 wr p2 us) ∧ Below w.heap.size w wr) (fun i _ => n - (intOf i).toNat)
    case atStart => exact ⟨0, by omega, rfl, HH, HR1, HR2, hB7⟩
    case round =>
      obtain ⟨k, hk, rfl, HHk, HR1k, HR2k, hB⟩ := hrel
      clear HH HR1 HR2 hB7 hs7 hw7
      by_cases hlt : k < n
      · obtain ⟨g1, rfl, d0, d1, d2⟩ := HR1k.out k (by rw [HN1.out]; exact hlt)
        obtain ⟨t, ht⟩ : ∃ t, nthT ts k = t := ⟨_, rfl⟩
        rw [ht] at d0 d1 d2
        have hIs : IsT [s0, s1, s2, s3, s4, s5, s6, s7, s8, s9, s10, s11] a b t := by
          rw [← ht]
          exact mem_raw.1 (HP1.out.mem_iff.1 (nthT_mem (by rw [HN1.out]; exact hlt)))
        have hUs : (t.1, t.2.2, t.2.1) ∈ us := HP2.out.mem_iff.2 (mem_raw.2 (isT_swap ha hb hIs))
        have hTl := tie_law ha hb hIs
        have hTh := isT_hou ha hb hIs
        clear hIs ht
        obtain ⟨q, x, y⟩ := t
        have c0 : wr.cell? ⟨g1, k * 3, none⟩ = some (.int .i64 q) := d0
        have c1 : wr.cell? ⟨g1, k * 3 + 1, none⟩ = some (.int .i64 x) := d1
        have c2 : wr.cell? ⟨g1, k * 3 + 2, none⟩ = some (.int .i64 y) := d2
        have HU2 := Lib.hid hUs
        have HTL := Lib.hid hTl
        have HTH := Lib.hid hTh
        clear d0 d1 d2 hUs hTl hTh
        have hki : (k : Int) < (n : Int) := Int.ofNat_lt.2 hlt
        have hsk : S3 < wr.heap.size := HHk.out.lt
        go_upto_block 1 with fail
        go_cut [] from 120 to 316 (fun wx => Hid (Blk wx S3 24 #[.int .i64 s0, .int .i64 s1, .int .i64 s2, .int .i64 s3, .int .i64 s4, .int .i64 s5, .int .i64 s6, .int .i64 s7, .int .i64 s8, .int .i64 s9, .int .i64 s10, .int .i64 s11]) ∧ Hid (Rows3 wx (some ⟨g1, 0, none⟩) ts) ∧ Hid (Rows3 wx p2 us) ∧ Below w.heap.size w wx)
        case first =>
          clear hki hk
          go_upto_block 2 with fail
          clear c0 c1 c2
          obtain ⟨S9, hS9⟩ : ∃ S9, wr.heap.size = S9 := ⟨_, rfl⟩
          obtain ⟨W9, hW9⟩ : ∃ W9, wr.alloc (.cells #[.int .i64 q, .int .i64 x, .int .i64 y] 66) = W9 := ⟨_, rfl⟩
          rw [hS9, hW9]
          have HT9 : Hid (Blk W9 S9 66 #[.int .i64 q, .int .i64 x, .int .i64 y]) := by rw [← hS9, ← hW9]; exact Lib.hid (newAt rfl)
          have hb9 : Below wr.heap.size wr W9 := by rw [← hW9]; exact below1 wr _
          have HH9 := Lib.hid (HHk.out.below hb9 HHk.out.lt)
          have HR19 := Lib.hid (HR1k.out.below hb9 (Nat.le_refl _))
          have HR29 := Lib.hid (HR2k.out.below hb9 (Nat.le_refl _))
          have hB9 := hB.trans (hb9.mono hB.size)
          clear hb9 hW9 HHk HR1k HR2k hB hS9 hsk
          go_cut [16, 17] from 130 to 150 (fun f _ wx => f = .bool true ∧ ∃ r, wx = W9.drewN r)
          case first =>
            go_wp2_with fail
            go_loopw [16, 17] (fun f i wz => ∃ j : Nat, j ≤ n ∧ i = .int .i64 j ∧ f = .bool (fTo us (q, y, x) j) ∧ ∃ r, wz = W9.drewN r) (fun _ i _ => n - (intOf i).toNat)
            case atStart => exact ⟨0, by omega, rfl, rfl, 0, rfl⟩
            case round =>
              obtain ⟨j, hj, rfl, rfl, r, rfl⟩ := hrel
              have t0 : W9.cell? ⟨S9, 0, none⟩ = some (.int .i64 q) := HT9.out.cell 0
              have t1 : W9.cell? ⟨S9, 1, none⟩ = some (.int .i64 x) := HT9.out.cell 1
              have t2 : W9.cell? ⟨S9, 2, none⟩ = some (.int .i64 y) := HT9.out.cell 2
              by_cases hjt : j < n
              · obtain ⟨g2, rfl, d0, d1, d2⟩ := HR29.out j (by rw [HN2.out]; exact hjt)
                obtain ⟨u, hu⟩ : ∃ u, nthT us j = u := ⟨_, rfl⟩
                rw [hu] at d0 d1 d2
                have HFS := Lib.hid (show fTo us (q, y, x) (j + 1) = (fTo us (q, y, x) j || decide (u = (q, y, x))) by rw [fTo_succ, hu])
                obtain ⟨q', x', y'⟩ := u
                have c0 : W9.cell? ⟨g2, j * 3, none⟩ = some (.int .i64 q') := d0
                have c1 : W9.cell? ⟨g2, j * 3 + 1, none⟩ = some (.int .i64 x') := d1
                have c2 : W9.cell? ⟨g2, j * 3 + 2, none⟩ = some (.int .i64 y') := d2
                clear d0 d1 d2 hu
                have hji : (j : Int) < (n : Int) := Int.ofNat_lt.2 hjt
                cases hf : fTo us (q, y, x) j
                · rw [hf] at HFS
                  go_wp2
                  refine wp_region_quiet_lit (by kernel_rfl) (by kernel_rfl) ?_
                  repeat (go_big_quiet_step (fail))
                  go_big_quiet_want
                  refine quiet_eql_tie (.tmp 141) (.tmp 148) rfl q' x' y' q y x rfl rfl ?_
                  go_big_quiet_on
                  go_frame
                  have HF := Lib.hid (show fTo us (q, y, x) (j + 1) = decide ((q', x', y') = (q, y, x)) by rw [HFS.out]; simp)
                  repeat (go_big_quiet_step (fail))
                  refine wpQuiet_nil ?_
                  intro _ hw'
                  obtain ⟨nq, hw''⟩ := hw'
                  subst hw''
                  go_wp2
                  go_roundw
                  case rel => (go_light; exact ⟨j + 1, by omega, by go_num, by rw [HF.out]; simp [Prod.mk.injEq, Bool.decide_and], _, rfl⟩)
                  case measure => (go_light; simp [intOf]; omega)
                · have HF := Lib.hid (show fTo us (q, y, x) (j + 1) = true by rw [HFS.out, hf]; rfl)
                  clear HFS
                  go_wp2
                  go_quiet (fail)
                  go_wp2
                  go_roundw
                  case rel => (go_light; exact ⟨j + 1, by omega, by go_num, by rw [HF.out], _, rfl⟩)
                  case measure => (go_light; simp [intOf]; omega)
              · obtain rfl : n = j := Nat.le_antisymm (Nat.le_of_not_lt hjt) hj
                have hfa : fTo us (q, y, x) n = true := by rw [← HN2.out]; exact fTo_all HU2.out
                rw [hfa]
                have hji : ¬ ((n : Int) < (n : Int)) := Int.lt_irrefl _
                clear HT9 HH9 HR19 HR29 hB9 t0 t1 t2
                go_wp2
                go_meet
                exact ⟨rfl, _, rfl⟩
          case rest =>
            obtain ⟨rfl, r, rfl⟩ := hcut
            have t0 : W9.cell? ⟨S9, 0, none⟩ = some (.int .i64 q) := HT9.out.cell 0
            have t1 : W9.cell? ⟨S9, 1, none⟩ = some (.int .i64 x) := HT9.out.cell 1
            have t2 : W9.cell? ⟨S9, 2, none⟩ = some (.int .i64 y) := HT9.out.cell 2
            obtain ⟨hx1, hx2⟩ := HTH.out.1
            obtain ⟨hy1, hy2⟩ := HTH.out.2
            have hx1 : 1 ≤ x := hx1
            have hx2 : x ≤ 12 := hx2
            have hy1 : 1 ≤ y := hy1
            have hy2 : y ≤ 12 := hy2
            obtain ⟨ha1, ha2⟩ := ha
            obtain ⟨hb1, hb2⟩ := hb
            obtain ⟨FA, hFA⟩ : ∃ FA, fg [s0, s1, s2, s3, s4, s5, s6, s7, s8, s9, s10, s11] a = FA := ⟨_, rfl⟩
            obtain ⟨FB, hFB⟩ : ∃ FB, fg [s0, s1, s2, s3, s4, s5, s6, s7, s8, s9, s10, s11] b = FB := ⟨_, rfl⟩
            obtain ⟨FX, hFX⟩ : ∃ FX, fg [s0, s1, s2, s3, s4, s5, s6, s7, s8, s9, s10, s11] x = FX := ⟨_, rfl⟩
            obtain ⟨FY, hFY⟩ : ∃ FY, fg [s0, s1, s2, s3, s4, s5, s6, s7, s8, s9, s10, s11] y = FY := ⟨_, rfl⟩
            have ca : W9.cell? ⟨S3, a.toNat - 1, none⟩ = some (.int .i64 FA) := (HH9.out.cell _).trans (by rw [← hFA, toNat_pred ha1]; exact arr_get (xs := [s0, s1, s2, s3, s4, s5, s6, s7, s8, s9, s10, s11]) (hou_lt ⟨ha1, ha2⟩))
            have cb : W9.cell? ⟨S3, b.toNat - 1, none⟩ = some (.int .i64 FB) := (HH9.out.cell _).trans (by rw [← hFB, toNat_pred hb1]; exact arr_get (xs := [s0, s1, s2, s3, s4, s5, s6, s7, s8, s9, s10, s11]) (hou_lt ⟨hb1, hb2⟩))
            have cx : W9.cell? ⟨S3, x.toNat - 1, none⟩ = some (.int .i64 FX) := (HH9.out.cell _).trans (by rw [← hFX, toNat_pred hx1]; exact arr_get (xs := [s0, s1, s2, s3, s4, s5, s6, s7, s8, s9, s10, s11]) (hou_lt ⟨hx1, hx2⟩))
            have cy : W9.cell? ⟨S3, y.toNat - 1, none⟩ = some (.int .i64 FY) := (HH9.out.cell _).trans (by rw [← hFY, toNat_pred hy1]; exact arr_get (xs := [s0, s1, s2, s3, s4, s5, s6, s7, s8, s9, s10, s11]) (hou_lt ⟨hy1, hy2⟩))
            have HFA := Lib.hid hFA
            have HFB := Lib.hid hFB
            have HFX := Lib.hid hFX
            have HFY := Lib.hid hFY
            clear hFA hFB hFX hFY HU2
            go_wp2
            go_quiet (fail)
            go_wp2_with fail
            obtain ⟨W10, hW10⟩ : ∃ W10, W9.drewN (r + nq) = W10 := ⟨_, rfl⟩
            rw [hW10]
            have hb10 : Below W9.heap.size W9 W10 := by rw [← hW10]; exact below_drewN (Below.refl _ _) _
            have KA := Lib.hid (Kp.below (W' := W10) ⟨HT9.out, HH9.out, HR19.out, HR29.out, hB9, hB9.size⟩ hb10)
            have hX : Hou x := ⟨hx1, hx2⟩
            have hY : Hou y := ⟨hy1, hy2⟩
            have hAh : Hou a := ⟨ha1, ha2⟩
            have hBh : Hou b := ⟨hb1, hb2⟩
            obtain ⟨N, hN⟩ : ∃ N : Int, (apN x y : Int) = N := ⟨_, rfl⟩
            obtain ⟨M, hM⟩ : ∃ M : Int, (apN x a : Int) = M := ⟨_, rfl⟩
            obtain ⟨Q, hQ⟩ : ∃ Q : Int, (apN y b : Int) = Q := ⟨_, rfl⟩
            have HK := Lib.hid (law_cases HTL.out HFA.out HFB.out HFX.out HFY.out hN hM hQ)
            clear HTL HFA HFB HFX HFY hb10 hW10 HT9 HH9 HR19 HR29 hB9 t0 t1 t2 ca cb cx cy HTH
            refine (apartS_any x y W10 (Nat.le_trans h6 KA.out.b.size)).mono ?_
            rintro e w11 ⟨rfl, hb11⟩
            rw [apartV_ap (a := x) (b := y) hX hY, hN, chk_two (a := x) (b := y) hX hY]
            have KB := Lib.hid (KA.out.below hb11)
            clear hb11 KA
            have t1 : w11.cell? ⟨S9, 1, none⟩ = some (.int .i64 x) := KB.out.tie.cell 1
            go_wp2_with fail
            clear t1
            refine (apartS_any x a w11 (Nat.le_trans h6 KB.out.b.size)).mono ?_
            rintro e w12 ⟨rfl, hb12⟩
            rw [apartV_ap (a := x) (b := a) hX hAh, hM, chk_two (a := x) (b := a) hX hAh]
            have KC := Lib.hid (KB.out.below hb12)
            clear hb12 KB
            have t2 : w12.cell? ⟨S9, 2, none⟩ = some (.int .i64 y) := KC.out.tie.cell 2
            go_wp2_with fail
            clear t2
            refine (apartS_any y b w12 (Nat.le_trans h6 KC.out.b.size)).mono ?_
            rintro e w13 ⟨rfl, hb13⟩
            rw [apartV_ap (a := y) (b := b) hY hBh, hQ, chk_two (a := y) (b := b) hY hBh]
            have KD := Lib.hid (KC.out.below hb13)
            clear hb13 KC
            have t0 : w13.cell? ⟨S9, 0, none⟩ = some (.int .i64 q) := KD.out.tie.cell 0
            have t1 : w13.cell? ⟨S9, 1, none⟩ = some (.int .i64 x) := KD.out.tie.cell 1
            have t2 : w13.cell? ⟨S9, 2, none⟩ = some (.int .i64 y) := KD.out.tie.cell 2
            clear hN hM hQ
            go_upto_block 4 with fail
            clear t0 t1 t2
            refine both_kinds q x y a b FA FB FX FY N M Q S9 w13 (Lib.hid KD.out.tie) HK _ ?_
            intros
            go_wp2_with fail
            go_meet
            exact ⟨Lib.hid KD.out.hh, Lib.hid KD.out.r1, Lib.hid KD.out.r2, KD.out.b⟩
        case rest =>
          obtain ⟨HHc, HR1c, HR2c, hBc⟩ := hcut
          clear HHk HR1k HR2k hB c0 c1 c2 HU2 HTL HTH
          go_wp2
          go_roundw
          case rel => (go_light; exact ⟨k + 1, by omega, by go_num, HHc, HR1c, HR2c, hBc⟩)
          case measure => (go_light; simp [intOf]; omega)
      · obtain rfl : n = k := Nat.le_antisymm (Nat.le_of_not_lt hlt) hk
        have hki : ¬ ((n : Int) < (n : Int)) := Int.lt_irrefl _
        go_wp2_with fail
        refine (known_any _ (Nat.le_trans h6 hB.size) (hr.below hB (Nat.le_refl _))).mono ?_
        rintro e w8 ⟨rfl, hb8⟩
        go_wp2
        go_ret
        exact ⟨rfl, hB.trans (hb8.mono hB.size)⟩
end Go.Proofs.YtdnccdobnhbpeaaDoor
