/-
  The law on ties both ways, where nothing is granted.
-/
import Derived.Test.YtdnccdobnhbpeaaDoorHcO
import Derived.Test.YtdnccdobnhbpeaaDoorHcV
import Derived.BigQuiet
import Derived.Deep.CutBlock
import Derived.Deep.CutRange
import Derived.Deep.Light
namespace Go.Proofs.YtdnccdobnhbpeaaDoor
open Go Go.RowKit Go.Shelf Go.Maps Go.ChangeShapes
set_option linter.unusedVariables false
set_option linter.unusedSimpArgs false

set_option maxRecDepth 100000 in
set_option maxHeartbeats 8000000 in
theorem both_walkB (s0 s1 s2 s3 s4 s5 s6 s7 s8 s9 s10 s11 : Int) (HC : Hid (chkF [s0, s1, s2, s3, s4, s5, s6, s7, s8, s9, s10, s11] = 0)) (a b : Int) (ha : Hou a) (hb : Hou b) (HAB : Hid ((a == b) = false)) (HBA : Hid ((b == a) = false)) (zs : List Int) (hz : zs.length = 14) (hzb : ∀ k, k < 14 → 0 ≤ nth zs k ∧ nth zs k < 256) (HS : Hid (arr (skyTo zs 12) = #[.int .i64 s0, .int .i64 s1, .int .i64 s2, .int .i64 s3, .int .i64 s4, .int .i64 s5, .int .i64 s6, .int .i64 s7, .int .i64 s8, .int .i64 s9, .int .i64 s10, .int .i64 s11])) (HA : Hid (skyA zs = a)) (HBv : Hid (skyB zs = b)) (HVV : Hid (¬ jdg [s0, s1, s2, s3, s4, s5, s6, s7, s8, s9, s10, s11] a b ≤ 2)) (w : World) (h6 : 6 ≤ w.heap.size) (hr : Rul w) :
    Calls Tryd.prog 5 #[.agg (bys zs)] w fun e w' => e = .returned (.bool true) ∧ Below w.heap.size w w' := by
  have hX := Blk.new w 61 (bys zs)
  have hB0 := below1 w (.cells (bys zs) 61)
  have HX := Lib.hid hX
  clear hX
  have HIs := Lib.hid (show (Tryd.prog.info? 61).map (·.size) = some (bys zs).size by rw [show (bys zs).size = 14 by simp [bys, hz]]; exact info_sky)
  have HIh := Lib.hid (show (Tryd.prog.info? 24).map (·.size) = some (#[.int .i64 s0, .int .i64 s1, .int .i64 s2, .int .i64 s3, .int .i64 s4, .int .i64 s5, .int .i64 s6, .int .i64 s7, .int .i64 s8, .int .i64 s9, .int .i64 s10, .int .i64 s11] : Array Value).size from info_houses)
  go_enter Tryd.func5, Tryd.ntmps5
  go_wp2_with (refine wpList_load_row rfl 61 (.tmp 1) rfl w.heap.size rfl 61 (bys zs) (0, 0) _ HX.out Tryd.underlying61 rfl HIs.out ?_)
  refine (sky_any zs hz hzb _).mono ?_
  rintro e w2 ⟨rfl, hb2⟩
  rw [HS.out, HA.out, HBv.out]
  have hB2 : Below w.heap.size w w2 := hB0.trans (hb2.mono hB0.size)
  clear hb2 hB0 HX HIs
  have HZ := Lib.hid (newAt (W := w2) (o := .cells #[.int .i64 0, .int .i64 0, .int .i64 0, .int .i64 0, .int .i64 0, .int .i64 0, .int .i64 0, .int .i64 0, .int .i64 0, .int .i64 0, .int .i64 0, .int .i64 0] 24) rfl)
  have HH' : Hid (Blk ((w2.alloc (.cells #[.int .i64 0, .int .i64 0, .int .i64 0, .int .i64 0, .int .i64 0, .int .i64 0, .int .i64 0, .int .i64 0, .int .i64 0, .int .i64 0, .int .i64 0, .int .i64 0] 24)).setRow w2.heap.size #[.int .i64 s0, .int .i64 s1, .int .i64 s2, .int .i64 s3, .int .i64 s4, .int .i64 s5, .int .i64 s6, .int .i64 s7, .int .i64 s8, .int .i64 s9, .int .i64 s10, .int .i64 s11]) w2.heap.size 24 #[.int .i64 s0, .int .i64 s1, .int .i64 s2, .int .i64 s3, .int .i64 s4, .int .i64 s5, .int .i64 s6, .int .i64 s7, .int .i64 s8, .int .i64 s9, .int .i64 s10, .int .i64 s11]) := Lib.hid (Blk.row HZ.out _)
  go_wp2_with (first
    | (refine wpList_store_row rfl 24 (.tmp 3) (.tmp 31) rfl w2.heap.size #[.int .i64 s0, .int .i64 s1, .int .i64 s2, .int .i64 s3, .int .i64 s4, .int .i64 s5, .int .i64 s6, .int .i64 s7, .int .i64 s8, .int .i64 s9, .int .i64 s10, .int .i64 s11] rfl rfl 24 _ HZ.out HIh.out rfl (by simp [Value.oneCell']) ?_)
    | (refine wpList_load_row rfl 24 (.tmp 3) rfl w2.heap.size rfl 24 #[.int .i64 s0, .int .i64 s1, .int .i64 s2, .int .i64 s3, .int .i64 s4, .int .i64 s5, .int .i64 s6, .int .i64 s7, .int .i64 s8, .int .i64 s9, .int .i64 s10, .int .i64 s11] (0, 0) _ HH'.out Tryd.underlying24 rfl HIh.out ?_))
  obtain ⟨S3, hS3⟩ : ∃ S3, w2.heap.size = S3 := ⟨_, rfl⟩
  generalize hW3 : World.setRow _ _ _ = W3
  rw [hW3] at HH'
  rw [hS3] at HH' hW3
  have hB3 : Below w.heap.size w W3 := by
    rw [← hW3]
    exact below_setRow (hB2.alloc hB2.size _) (by rw [← hS3]; exact hB2.size) _
  have hs3 : S3 < W3.heap.size := HH'.out.lt
  have hs3' : w.heap.size ≤ S3 := by rw [← hS3]; exact hB2.size
  clear hW3 HZ
  have hw3 : 6 ≤ W3.heap.size := Nat.le_trans h6 hB3.size
  refine (tiesS_any s0 s1 s2 s3 s4 s5 s6 s7 s8 s9 s10 s11 HC a b ha hb HAB W3 hw3).mono ?_
  rintro e w4 ⟨⟨v1, ts, rfl, hp1, ho1⟩, hb4⟩
  obtain ⟨p1, c1, rfl, hR1, _⟩ := Rows3.of_owns ho1
  obtain ⟨n, hn⟩ : ∃ n, ts.length = n := ⟨_, rfl⟩
  rw [hn]
  have hB4 := hB3.trans (hb4.mono hB3.size)
  have HH := Lib.hid (HH'.out.below hb4 hs3)
  have hs4 : S3 < w4.heap.size := HH.out.lt
  clear hb4 ho1 hB3 hs3 HH' hw3
  go_wp2_with (refine wpList_load_row rfl 24 (.tmp 3) rfl S3 rfl 24 #[.int .i64 s0, .int .i64 s1, .int .i64 s2, .int .i64 s3, .int .i64 s4, .int .i64 s5, .int .i64 s6, .int .i64 s7, .int .i64 s8, .int .i64 s9, .int .i64 s10, .int .i64 s11] (0, 0) _ HH.out Tryd.underlying24 rfl HIh.out ?_)
  have hw4 : 6 ≤ w4.heap.size := Nat.le_trans h6 hB4.size
  refine (tiesS_any s0 s1 s2 s3 s4 s5 s6 s7 s8 s9 s10 s11 HC b a hb ha HBA w4 hw4).mono ?_
  rintro e w5 ⟨⟨v2, us, rfl, hp2, ho2⟩, hb5⟩
  obtain ⟨p2, c2, rfl, hR2, _⟩ := Rows3.of_owns ho2
  have hn2 : us.length = n := by rw [hp2.length_eq, ← raw_len, ← hp1.length_eq]; exact hn
  rw [hn2]
  have hB5 := hB4.trans (hb5.mono hB4.size)
  have HH5 := Lib.hid (HH.out.below hb5 hs4)
  have hR1' := hR1.below hb5 (Nat.le_refl _)
  have hs5 : S3 < w5.heap.size := HH5.out.lt
  clear hb5 ho2 hB4 hs4 HH hw4 hR1
  have HH := HH5
  clear HH5
  go_wp2_with (refine wpList_load_row rfl 24 (.tmp 3) rfl S3 rfl 24 #[.int .i64 s0, .int .i64 s1, .int .i64 s2, .int .i64 s3, .int .i64 s4, .int .i64 s5, .int .i64 s6, .int .i64 s7, .int .i64 s8, .int .i64 s9, .int .i64 s10, .int .i64 s11] (0, 0) _ HH.out Tryd.underlying24 rfl HIh.out ?_)
  have hw5 : 6 ≤ w5.heap.size := Nat.le_trans h6 hB5.size
  refine (judgeS_any s0 s1 s2 s3 s4 s5 s6 s7 s8 s9 s10 s11 HC a b ha hb HAB w5 hw5).mono ?_
  rintro e w6 ⟨rfl, hb6⟩
  obtain ⟨V, hV⟩ : ∃ V, jdg [s0, s1, s2, s3, s4, s5, s6, s7, s8, s9, s10, s11] a b = V := ⟨_, rfl⟩
  rw [hV]
  have hB6 := hB5.trans (hb6.mono hB5.size)
  have HH6 := Lib.hid (HH.out.below hb6 hs5)
  have hR1 := hR1'.below hb6 (Nat.le_refl _)
  have hR2' := hR2.below hb6 (Nat.le_refl _)
  have hs6 : S3 < w6.heap.size := HH6.out.lt
  clear hb6 hB5 hs5 HH hw5 hR1' hR2
  have HH := HH6
  clear HH6
  go_wp2_with (refine wpList_load_row rfl 24 (.tmp 3) rfl S3 rfl 24 #[.int .i64 s0, .int .i64 s1, .int .i64 s2, .int .i64 s3, .int .i64 s4, .int .i64 s5, .int .i64 s6, .int .i64 s7, .int .i64 s8, .int .i64 s9, .int .i64 s10, .int .i64 s11] (0, 0) _ HH.out Tryd.underlying24 rfl HIh.out ?_)
  have hw6 : 6 ≤ w6.heap.size := Nat.le_trans h6 hB6.size
  refine (judgeS_any s0 s1 s2 s3 s4 s5 s6 s7 s8 s9 s10 s11 HC b a hb ha HBA w6 hw6).mono ?_
  rintro e w7 ⟨rfl, hb7⟩
  obtain ⟨U, hU⟩ : ∃ U, jdg [s0, s1, s2, s3, s4, s5, s6, s7, s8, s9, s10, s11] b a = U := ⟨_, rfl⟩
  rw [hU]
  have hB7 := hB6.trans (hb7.mono hB6.size)
  have HH7 := Lib.hid (HH.out.below hb7 hs6)
  have HR1 := Lib.hid (hR1.below hb7 (Nat.le_refl _))
  have HR2 := Lib.hid (hR2'.below hb7 (Nat.le_refl _))
  have hs7 : S3 < w7.heap.size := HH7.out.lt
  clear hb7 hB6 hs6 HH hw6 hR1 hR2'
  have HH := HH7
  clear HH7
  have hnr : (rawL [s0, s1, s2, s3, s4, s5, s6, s7, s8, s9, s10, s11] a b).length = n := by rw [← hp1.length_eq]; exact hn
  obtain ⟨j1, j2, j3, j4⟩ := jdg_facts (s := [s0, s1, s2, s3, s4, s5, s6, s7, s8, s9, s10, s11]) ha hb
  obtain ⟨j5, j6, j7, j8⟩ := jdg_facts (s := [s0, s1, s2, s3, s4, s5, s6, s7, s8, s9, s10, s11]) hb ha
  rw [hV] at j1 j2 j3 j4
  rw [hU] at j5 j6 j7
  rw [hU] at j4
  rw [hnr] at j3
  rw [← raw_len, hnr] at j7
  clear j8
  have hn40 : n ≤ 40 := by rw [← hnr]; exact rawL_len _ _ _
  have hw7 : 6 ≤ w7.heap.size := Nat.le_trans h6 hB7.size
  have HP1 := Lib.hid hp1
  have HP2 := Lib.hid hp2
  have HN1 := Lib.hid hn
  have HN2 := Lib.hid hn2
  have hv : ¬ V ≤ 2 := by
    have h := HVV.out
    rw [hV] at h
    omega
  clear hp1 hp2 hn hn2 hV hU hnr
  · have v3' : ¬ U ≤ 2 := fun h => hv (by rw [j4 (.inr h)]; exact h)
    obtain rfl : n = 0 := by
      rcases Nat.eq_zero_or_pos n with h | h
      · exact h
      · exact absurd (j3.2 h) hv
    have v1' : ¬ V < 1 := by omega
    have v2' : ¬ 4 < V := by omega
    have v4' : ¬ U < 1 := by omega
    have v5' : ¬ 4 < U := by omega
    clear j1 j2 j3 j4 j5 j6 j7
    go_wp2
    go_loopw [14] (fun i wr => i = .int .i64 0 ∧ wr = w7) (fun _ _ => 0)
    case atStart => exact ⟨rfl, rfl⟩
    case round =>
      obtain ⟨rfl, rfl⟩ := hrel
      go_wp2_with fail
      refine (known_any _ hw7 (hr.below hB7 (Nat.le_refl _))).mono ?_
      rintro e w8 ⟨rfl, hb8⟩
      go_wp2
      go_ret
      exact ⟨rfl, hB7.trans (hb8.mono hB7.size)⟩
end Go.Proofs.YtdnccdobnhbpeaaDoor
