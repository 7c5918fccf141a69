/-
  ShieldWays: the walk of the law.
-/
import Derived.Test.YtgaljmhhagldlaaDoorShRe
namespace Go.Proofs.YtgaljmhhagldlaaDoor
open Go Go.RowKit
set_option linter.unusedVariables false

theorem wrongTo_mono {s : List Int} {p : Nat} (h4 : 4 ≤ p) (h : nth s p ≠ followF s p) : ∀ n, wrongTo s (p + 1 + n) ≠ [] := by
  intro n
  induction n with
  | zero => rw [Nat.add_zero, wrongTo_yes h4 h]; simp
  | succ n ih =>
    rw [show p + 1 + (n + 1) = (p + 1 + n) + 1 by omega, wrongTo]
    split
    · exact ih
    · simp
theorem follows_of {s : List Int} (h : wrongTo s 16 = []) {p : Nat} (h4 : 4 ≤ p) (h16 : p < 16) : nth s p = followF s p := by
  by_cases hq : nth s p = followF s p
  · exact hq
  · exact absurd h (by have := wrongTo_mono h4 hq (15 - p); rwa [show p + 1 + (15 - p) = 16 by omega] at this)
theorem chart_of {s : List Int} (hl : s.length = 16) (h : wrongTo s 16 = []) : dP (moth s) 16 = s := by
  have key : ∀ n j, j ≤ n → j < 16 → nth (dP (moth s) 16) j = nth s j := by
    intro n
    induction n with
    | zero =>
      intro j hj _
      obtain rfl : j = 0 := by omega
      rw [dP_moth _ rfl (by omega)]; rfl
    | succ n ih =>
      intro j hj h16
      by_cases h4 : j < 4
      · rw [dP_moth _ rfl h4]
        have : j = 0 ∨ j = 1 ∨ j = 2 ∨ j = 3 := by omega
        rcases this with rfl | rfl | rfl | rfl <;> rfl
      · rw [dP_follow _ rfl (by omega) h16, follows_of h (by omega) h16]
        exact followF_congr (by omega) h16 fun i hi => ih i (by omega) (by omega)
  apply List.ext_getElem
  · rw [dP_len _ rfl, hl]
  · intro i h1 h2
    have := key i i (Nat.le_refl _) (by omega)
    rwa [nth_eq h1, nth_eq h2] at this
theorem wrong_some {s : List Int} (hl : s.length = 16) (h : dP (moth s) 16 ≠ s) : 0 < (wrongTo s 16).length := by
  rcases Nat.eq_zero_or_pos (wrongTo s 16).length with h0 | h0
  · exact absurd (chart_of hl (List.eq_nil_of_length_eq_zero h0)) h
  · exact h0
theorem wrong_none {s : List Int} (hl : s.length = 16) (h : dP (moth s) 16 = s) (hf : Figs s) : wrongTo s 16 = [] := by
  have hm : ∀ k, k < 4 → Fig (nth (moth s) k) := fun k hk => by
    have : k = 0 ∨ k = 1 ∨ k = 2 ∨ k = 3 := by omega
    rcases this with rfl | rfl | rfl | rfl
    · exact hf 0 (by omega)
    · exact hf 1 (by omega)
    · exact hf 2 (by omega)
    · exact hf 3 (by omega)
  have := wrong_dP (m := moth s) rfl hm
  rw [h] at this
  unfold wrongV at this
  rwa [if_pos (chkF_figs hl hf)] at this

set_option maxRecDepth 100000 in
set_option maxHeartbeats 8000000 in
theorem ways_a (s : List Int) (line : Int) (hs : Hid (s.length = 16)) (H : Hid (chkF s = 2)) (w : World) (hp : Par w) (hn : Nam w) :
    Calls Tryd.prog 9 #[.agg (arr s), .int .i64 line] w fun e w' => e = .returned (.bool true) ∧ Below w.heap.size w w' := by
  have E := Lib.hid (show wayE s line = 2 by have := H.out; simp [wayE, this])
  have V := Lib.hid (show wayV s line = [] by have := E.out; simp [wayV, this])
  have HB : Hid (false = decide (chkF s = 0)) := by have := H.out; exact Lib.hid (by simp [this])
  have HM := Lib.hid (Blk.new w 56 (arr s))
  have hB0 : Below w.heap.size w (w.alloc (.cells (arr s) 56)) := (Below.refl _ _).alloc (Nat.le_refl _) _
  have HI := Lib.hid (show (Tryd.prog.info? 56).map (·.size) = some (arr s).size by rw [arr_size, hs.out]; exact info_shield)
  go_enter Tryd.func9, Tryd.ntmps9
  go_wp2_with (refine wpList_load_row rfl 56 (.tmp 2) rfl w.heap.size rfl 56 (arr s) (0, 0) _ HM.out Tryd.underlying56 rfl HI.out ?_)
  refine (way_any s line hs.out _ (hp.below hB0 (Nat.le_refl _))).mono ?_
  rintro e w1 ⟨⟨q, c, rfl, hr⟩, hb1⟩
  rw [E.out, V.out]
  have HM1 := Lib.hid (HM.out.below hb1 (by simp))
  have hc1 := tr hB0 hb1
  have hs1 := HM1.out.lt
  have hr1 := V.out ▸ hr
  clear hB0 hb1 HM hr
  go_wp2_with (refine wpList_load_row rfl 56 (.tmp 2) rfl w.heap.size rfl 56 (arr s) (0, 0) _ HM1.out Tryd.underlying56 rfl HI.out ?_)
  refine (refShield_any s hs _ HB _).mono ?_
  rintro e w2 ⟨rfl, hb2⟩
  have HM2 := Lib.hid (HM1.out.below hb2 hs1)
  have hc2 := tr hc1 hb2
  have hs2 := HM2.out.lt
  have hr2 := hr1.below hb2 (Nat.le_refl _)
  clear hc1 hb2 HM1 hr1
  go_wp2_with (go_at_call 22; refine (known_any _ (hp.below hc2 (Nat.le_refl _)) (hn.below hc2 (Nat.le_refl _))).mono ?_; rintro e w8 ⟨rfl, hbz⟩)
  go_ret
  exact ⟨rfl, tr hc2 hbz⟩
set_option maxRecDepth 100000 in
set_option maxHeartbeats 8000000 in
theorem ways_b (s : List Int) (line : Int) (hs : Hid (s.length = 16)) (H : Hid (chkF s = 0)) (O : Hid (outB 0 3 line = true)) (w : World) (hp : Par w) (hn : Nam w) :
    Calls Tryd.prog 9 #[.agg (arr s), .int .i64 line] w fun e w' => e = .returned (.bool true) ∧ Below w.heap.size w w' := by
  have E := Lib.hid (show wayE s line = 3 by have := H.out; have := O.out; simp [wayE, *])
  have V := Lib.hid (show wayV s line = [] by have := E.out; simp [wayV, this])
  have HB : Hid (true = decide (chkF s = 0)) := by have := H.out; exact Lib.hid (by simp [this])
  have HM := Lib.hid (Blk.new w 56 (arr s))
  have hB0 : Below w.heap.size w (w.alloc (.cells (arr s) 56)) := (Below.refl _ _).alloc (Nat.le_refl _) _
  have HI := Lib.hid (show (Tryd.prog.info? 56).map (·.size) = some (arr s).size by rw [arr_size, hs.out]; exact info_shield)
  go_enter Tryd.func9, Tryd.ntmps9
  go_wp2_with (refine wpList_load_row rfl 56 (.tmp 2) rfl w.heap.size rfl 56 (arr s) (0, 0) _ HM.out Tryd.underlying56 rfl HI.out ?_)
  refine (way_any s line hs.out _ (hp.below hB0 (Nat.le_refl _))).mono ?_
  rintro e w1 ⟨⟨q, c, rfl, hr⟩, hb1⟩
  rw [E.out, V.out]
  have HM1 := Lib.hid (HM.out.below hb1 (by simp))
  have hc1 := tr hB0 hb1
  have hs1 := HM1.out.lt
  have hr1 := V.out ▸ hr
  clear hB0 hb1 HM hr
  go_wp2_with (refine wpList_load_row rfl 56 (.tmp 2) rfl w.heap.size rfl 56 (arr s) (0, 0) _ HM1.out Tryd.underlying56 rfl HI.out ?_)
  refine (refShield_any s hs _ HB _).mono ?_
  rintro e w2 ⟨rfl, hb2⟩
  have HM2 := Lib.hid (HM1.out.below hb2 hs1)
  have hc2 := tr hc1 hb2
  have hs2 := HM2.out.lt
  have hr2 := hr1.below hb2 (Nat.le_refl _)
  clear hc1 hb2 HM1 hr1
  have ho : line < 0 ∨ 3 < line := by have := O.out; simpa [outB] using this
  rcases ho with ho | ho
  all_goals
    go_wp2_with (go_at_call 22; refine (known_any _ (hp.below hc2 (Nat.le_refl _)) (hn.below hc2 (Nat.le_refl _))).mono ?_; rintro e w8 ⟨rfl, hbz⟩)
    go_ret
    exact ⟨rfl, tr hc2 hbz⟩
set_option maxRecDepth 100000 in
set_option maxHeartbeats 8000000 in
theorem ways_c (s : List Int) (line : Int) (hs : Hid (s.length = 16)) (H : Hid (chkF s = 0)) (O : Hid (outB 0 3 line = false)) (D : Hid (dP (moth s) 16 ≠ s)) (w : World) (hp : Par w) (hn : Nam w) :
    Calls Tryd.prog 9 #[.agg (arr s), .int .i64 line] w fun e w' => e = .returned (.bool true) ∧ Below w.heap.size w w' := by
  have E := Lib.hid (show wayE s line = 30 by have := H.out; have := O.out; have := D.out; simp [wayE, *])
  have V := Lib.hid (show wayV s line = [] by have := E.out; simp [wayV, this])
  have HB : Hid (true = decide (chkF s = 0)) := by have := H.out; exact Lib.hid (by simp [this])
  have hwl := wrong_some hs.out D.out
  have HM := Lib.hid (Blk.new w 56 (arr s))
  have hB0 : Below w.heap.size w (w.alloc (.cells (arr s) 56)) := (Below.refl _ _).alloc (Nat.le_refl _) _
  have HI := Lib.hid (show (Tryd.prog.info? 56).map (·.size) = some (arr s).size by rw [arr_size, hs.out]; exact info_shield)
  go_enter Tryd.func9, Tryd.ntmps9
  go_wp2_with (refine wpList_load_row rfl 56 (.tmp 2) rfl w.heap.size rfl 56 (arr s) (0, 0) _ HM.out Tryd.underlying56 rfl HI.out ?_)
  refine (way_any s line hs.out _ (hp.below hB0 (Nat.le_refl _))).mono ?_
  rintro e w1 ⟨⟨q, c, rfl, hr⟩, hb1⟩
  rw [E.out, V.out]
  have HM1 := Lib.hid (HM.out.below hb1 (by simp))
  have hc1 := tr hB0 hb1
  have hs1 := HM1.out.lt
  have hr1 := V.out ▸ hr
  clear hB0 hb1 HM hr
  go_wp2_with (refine wpList_load_row rfl 56 (.tmp 2) rfl w.heap.size rfl 56 (arr s) (0, 0) _ HM1.out Tryd.underlying56 rfl HI.out ?_)
  refine (refShield_any s hs _ HB _).mono ?_
  rintro e w2 ⟨rfl, hb2⟩
  have HM2 := Lib.hid (HM1.out.below hb2 hs1)
  have hc2 := tr hc1 hb2
  have hs2 := HM2.out.lt
  have hr2 := hr1.below hb2 (Nat.le_refl _)
  clear hc1 hb2 HM1 hr1
  obtain ⟨l0, l3⟩ : 0 ≤ line ∧ line ≤ 3 := by have := O.out; simp [outB] at this; omega
  have HF := Lib.hid (fun k (hk : k < 16) => chkF_zero H.out k (by have := hs.out; omega))
  go_wp2_with (refine wpList_load_row rfl 56 (.tmp 2) rfl w.heap.size rfl 56 (arr s) (0, 0) _ HM2.out Tryd.underlying56 rfl HI.out ?_)
  refine (refWrong_any s hs HF.out _).mono ?_
  rintro e w3 ⟨⟨q3, c3, rfl, _⟩, hb3⟩
  have HM3 := Lib.hid (HM2.out.below hb3 hs2)
  have hc3 := tr hc2 hb3
  have hs3 := HM3.out.lt
  have hr3 := hr2.below hb3 (Nat.le_refl _)
  clear hc2 hb3 HM2 hr2
  go_wp2_with (go_at_call 22; refine (known_any _ (hp.below hc3 (Nat.le_refl _)) (hn.below hc3 (Nat.le_refl _))).mono ?_; rintro e w8 ⟨rfl, hbz⟩)
  go_ret
  exact ⟨rfl, tr hc3 hbz⟩
set_option maxRecDepth 100000 in
set_option maxHeartbeats 8000000 in
theorem ways_d (s : List Int) (line : Int) (hs : Hid (s.length = 16)) (H : Hid (chkF s = 0)) (O : Hid (outB 0 3 line = false)) (D : Hid (dP (moth s) 16 = s)) (B : Hid (bitB (nth s 14) line = false)) (w : World) (hp : Par w) (hn : Nam w) :
    Calls Tryd.prog 9 #[.agg (arr s), .int .i64 line] w fun e w' => e = .returned (.bool true) ∧ Below w.heap.size w w' := by
  have E := Lib.hid (show wayE s line = 7 by have := H.out; have := O.out; have := D.out; have := B.out; simp [wayE, *])
  have V := Lib.hid (show wayV s line = [] by have := E.out; simp [wayV, this])
  have HB : Hid (true = decide (chkF s = 0)) := by have := H.out; exact Lib.hid (by simp [this])
  have W0 := Lib.hid (wrong_none hs.out D.out (fun k hk => chkF_zero H.out k (by have := hs.out; omega)))
  have HM := Lib.hid (Blk.new w 56 (arr s))
  have hB0 : Below w.heap.size w (w.alloc (.cells (arr s) 56)) := (Below.refl _ _).alloc (Nat.le_refl _) _
  have HI := Lib.hid (show (Tryd.prog.info? 56).map (·.size) = some (arr s).size by rw [arr_size, hs.out]; exact info_shield)
  go_enter Tryd.func9, Tryd.ntmps9
  go_wp2_with (refine wpList_load_row rfl 56 (.tmp 2) rfl w.heap.size rfl 56 (arr s) (0, 0) _ HM.out Tryd.underlying56 rfl HI.out ?_)
  refine (way_any s line hs.out _ (hp.below hB0 (Nat.le_refl _))).mono ?_
  rintro e w1 ⟨⟨q, c, rfl, hr⟩, hb1⟩
  rw [E.out, V.out]
  have HM1 := Lib.hid (HM.out.below hb1 (by simp))
  have hc1 := tr hB0 hb1
  have hs1 := HM1.out.lt
  have hr1 := V.out ▸ hr
  clear hB0 hb1 HM hr
  go_wp2_with (refine wpList_load_row rfl 56 (.tmp 2) rfl w.heap.size rfl 56 (arr s) (0, 0) _ HM1.out Tryd.underlying56 rfl HI.out ?_)
  refine (refShield_any s hs _ HB _).mono ?_
  rintro e w2 ⟨rfl, hb2⟩
  have HM2 := Lib.hid (HM1.out.below hb2 hs1)
  have hc2 := tr hc1 hb2
  have hs2 := HM2.out.lt
  have hr2 := hr1.below hb2 (Nat.le_refl _)
  clear hc1 hb2 HM1 hr1
  obtain ⟨l0, l3⟩ : 0 ≤ line ∧ line ≤ 3 := by have := O.out; simp [outB] at this; omega
  have HF := Lib.hid (fun k (hk : k < 16) => chkF_zero H.out k (by have := hs.out; omega))
  go_wp2_with (refine wpList_load_row rfl 56 (.tmp 2) rfl w.heap.size rfl 56 (arr s) (0, 0) _ HM2.out Tryd.underlying56 rfl HI.out ?_)
  refine (refWrong_any s hs HF.out _).mono ?_
  rintro e w3 ⟨⟨q3, c3, rfl, _⟩, hb3⟩
  rw [W0.out]
  have HM3 := Lib.hid (HM2.out.below hb3 hs2)
  have hc3 := tr hc2 hb3
  have hs3 := HM3.out.lt
  have hr3 := hr2.below hb3 (Nat.le_refl _)
  clear hc2 hb3 HM2 hr2
  obtain ⟨l, rfl⟩ := Int.eq_ofNat_of_zero_le l0
  have hl3 : l ≤ 3 := by omega
  have c14 : w3.cell? ⟨w.heap.size, 14, none⟩ = some (.int .i64 (nth s 14)) := HM3.out.chart hs.out 14 (by omega)
  have HL := Lib.hid (show markF (nth s 14) l = 2 by unfold markF; rw [B.out]; rfl)
  go_wp2_with (first | (go_at_call 24; refine (refLine_any _ l (HF.out 14 (by omega)) hl3 _).mono ?_; rintro e w4 ⟨rfl, rfl⟩; rw [HL.out]) | (go_at_call 22; refine (known_any _ (hp.below hc3 (Nat.le_refl _)) (hn.below hc3 (Nat.le_refl _))).mono ?_; rintro e w8 ⟨rfl, hbz⟩))
  go_ret
  exact ⟨rfl, tr hc3 hbz⟩
set_option maxRecDepth 100000 in
set_option maxHeartbeats 8000000 in
theorem ways_e (s : List Int) (line : Int) (hs : Hid (s.length = 16)) (H : Hid (chkF s = 0)) (O : Hid (outB 0 3 line = false)) (D : Hid (dP (moth s) 16 = s)) (B : Hid (bitB (nth s 14) line = true)) (w : World) (hp : Par w) (hn : Nam w) :
    Calls Tryd.prog 9 #[.agg (arr s), .int .i64 line] w fun e w' => e = .returned (.bool true) ∧ Below w.heap.size w w' := by
  have E := Lib.hid (show wayE s line = 0 by have := H.out; have := O.out; have := D.out; have := B.out; simp [wayE, *])
  have V := Lib.hid (show wayV s line = wayTo s line 3 by have := E.out; simp [wayV, this])
  have HB : Hid (true = decide (chkF s = 0)) := by have := H.out; exact Lib.hid (by simp [this])
  have W0 := Lib.hid (wrong_none hs.out D.out (fun k hk => chkF_zero H.out k (by have := hs.out; omega)))
  have HM := Lib.hid (Blk.new w 56 (arr s))
  have hB0 : Below w.heap.size w (w.alloc (.cells (arr s) 56)) := (Below.refl _ _).alloc (Nat.le_refl _) _
  have HI := Lib.hid (show (Tryd.prog.info? 56).map (·.size) = some (arr s).size by rw [arr_size, hs.out]; exact info_shield)
  go_enter Tryd.func9, Tryd.ntmps9
  go_wp2_with (refine wpList_load_row rfl 56 (.tmp 2) rfl w.heap.size rfl 56 (arr s) (0, 0) _ HM.out Tryd.underlying56 rfl HI.out ?_)
  refine (way_any s line hs.out _ (hp.below hB0 (Nat.le_refl _))).mono ?_
  rintro e w1 ⟨⟨q, c, rfl, hr⟩, hb1⟩
  rw [E.out, V.out]
  have HM1 := Lib.hid (HM.out.below hb1 (by simp))
  have hc1 := tr hB0 hb1
  have hs1 := HM1.out.lt
  have hr1 := V.out ▸ hr
  clear hB0 hb1 HM hr
  go_wp2_with (refine wpList_load_row rfl 56 (.tmp 2) rfl w.heap.size rfl 56 (arr s) (0, 0) _ HM1.out Tryd.underlying56 rfl HI.out ?_)
  refine (refShield_any s hs _ HB _).mono ?_
  rintro e w2 ⟨rfl, hb2⟩
  have HM2 := Lib.hid (HM1.out.below hb2 hs1)
  have hc2 := tr hc1 hb2
  have hs2 := HM2.out.lt
  have hr2 := hr1.below hb2 (Nat.le_refl _)
  clear hc1 hb2 HM1 hr1
  obtain ⟨l0, l3⟩ : 0 ≤ line ∧ line ≤ 3 := by have := O.out; simp [outB] at this; omega
  have HF := Lib.hid (fun k (hk : k < 16) => chkF_zero H.out k (by have := hs.out; omega))
  go_wp2_with (refine wpList_load_row rfl 56 (.tmp 2) rfl w.heap.size rfl 56 (arr s) (0, 0) _ HM2.out Tryd.underlying56 rfl HI.out ?_)
  refine (refWrong_any s hs HF.out _).mono ?_
  rintro e w3 ⟨⟨q3, c3, rfl, _⟩, hb3⟩
  rw [W0.out]
  have HM3 := Lib.hid (HM2.out.below hb3 hs2)
  have hc3 := tr hc2 hb3
  have hs3 := HM3.out.lt
  have hr3 := hr2.below hb3 (Nat.le_refl _)
  clear hc2 hb3 HM2 hr2
  obtain ⟨l, rfl⟩ := Int.eq_ofNat_of_zero_le l0
  have hl3 : l ≤ 3 := by omega
  have c14 : w3.cell? ⟨w.heap.size, 14, none⟩ = some (.int .i64 (nth s 14)) := HM3.out.chart hs.out 14 (by omega)
  have HL := Lib.hid (show markF (nth s 14) l = 1 by unfold markF; rw [B.out]; rfl)
  have WL := Lib.hid (wayTo_len s l 3)
  rw [WL.out]
  have k0 : w3.cell? ⟨w.heap.size, 0, none⟩ = some (.int .i64 (nth s 0)) := HM3.out.chart hs.out 0 (by omega)
  have k1 : w3.cell? ⟨w.heap.size, 1, none⟩ = some (.int .i64 (nth s 1)) := HM3.out.chart hs.out 1 (by omega)
  have k2 : w3.cell? ⟨w.heap.size, 2, none⟩ = some (.int .i64 (nth s 2)) := HM3.out.chart hs.out 2 (by omega)
  have k3 : w3.cell? ⟨w.heap.size, 3, none⟩ = some (.int .i64 (nth s 3)) := HM3.out.chart hs.out 3 (by omega)
  have k4 : w3.cell? ⟨w.heap.size, 4, none⟩ = some (.int .i64 (nth s 4)) := HM3.out.chart hs.out 4 (by omega)
  have k5 : w3.cell? ⟨w.heap.size, 5, none⟩ = some (.int .i64 (nth s 5)) := HM3.out.chart hs.out 5 (by omega)
  have k6 : w3.cell? ⟨w.heap.size, 6, none⟩ = some (.int .i64 (nth s 6)) := HM3.out.chart hs.out 6 (by omega)
  have k7 : w3.cell? ⟨w.heap.size, 7, none⟩ = some (.int .i64 (nth s 7)) := HM3.out.chart hs.out 7 (by omega)
  have k8 : w3.cell? ⟨w.heap.size, 8, none⟩ = some (.int .i64 (nth s 8)) := HM3.out.chart hs.out 8 (by omega)
  have k9 : w3.cell? ⟨w.heap.size, 9, none⟩ = some (.int .i64 (nth s 9)) := HM3.out.chart hs.out 9 (by omega)
  have k10 : w3.cell? ⟨w.heap.size, 10, none⟩ = some (.int .i64 (nth s 10)) := HM3.out.chart hs.out 10 (by omega)
  have k11 : w3.cell? ⟨w.heap.size, 11, none⟩ = some (.int .i64 (nth s 11)) := HM3.out.chart hs.out 11 (by omega)
  have k12 : w3.cell? ⟨w.heap.size, 12, none⟩ = some (.int .i64 (nth s 12)) := HM3.out.chart hs.out 12 (by omega)
  have k13 : w3.cell? ⟨w.heap.size, 13, none⟩ = some (.int .i64 (nth s 13)) := HM3.out.chart hs.out 13 (by omega)
  have k15 : w3.cell? ⟨w.heap.size, 15, none⟩ = some (.int .i64 (nth s 15)) := HM3.out.chart hs.out 15 (by omega)
  have HA := Lib.hid (show (#[.int .i64 (nth s 0), .int .i64 (nth s 1), .int .i64 (nth s 2), .int .i64 (nth s 3), .int .i64 (nth s 4), .int .i64 (nth s 5), .int .i64 (nth s 6), .int .i64 (nth s 7), .int .i64 (nth s 8), .int .i64 (nth s 9), .int .i64 (nth s 10), .int .i64 (nth s 11), .int .i64 (nth s 12), .int .i64 (nth s 13), .int .i64 (nth s 14), .int .i64 (nth s 15)] : Array Value) = arr s by obtain ⟨x0, x1, x2, x3, x4, x5, x6, x7, x8, x9, x10, x11, x12, x13, x14, x15, rfl⟩ := sixteen hs.out; rfl)
  have HWC := Lib.hid (fun wx => refWay_any s l hs HF.out hl3 B wx)
  go_wp2_with (first
    | (go_at_call 24; refine (refLine_any _ l (HF.out 14 (by omega)) hl3 _).mono ?_; rintro e w4 ⟨rfl, rfl⟩; rw [HL.out])
    | (go_at_call 45; rw [HA.out]; refine (HWC.out _).mono ?_; rintro e w5 ⟨⟨q5, c5, rfl, hr5⟩, hb5⟩; have hr6 := hr3.below hb5 (Nat.le_refl _); have hc5 := tr hc3 hb5)
    | (go_at_call 31; refine (same_any q (wayTo s l 3) 4 c q5 (wayTo s l 3) 4 c5 _ WL WL (by omega) hr6 hr5).mono ?_; rintro e w6 ⟨rfl, r, rfl⟩; rw [decide_eq_true rfl]; have hc6 := below_drewN hc5 r)
    | (go_at_call 22; refine (known_any _ (hp.below hc6 (Nat.le_refl _)) (hn.below hc6 (Nat.le_refl _))).mono ?_; rintro e w8 ⟨rfl, hbz⟩))
  go_ret
  exact ⟨rfl, tr hc6 hbz⟩
theorem ways_any (s : List Int) (line : Int) (hs : s.length = 16) (w : World) (hp : Par w) (hn : Nam w) :
    Calls Tryd.prog 9 #[.agg (arr s), .int .i64 line] w fun e w' => e = .returned (.bool true) ∧ Below w.heap.size w w' := by
  rcases chkF_or s with h | h
  · by_cases ho : outB 0 3 line = true
    · exact ways_b s line hs h ho w hp hn
    · have ho' : outB 0 3 line = false := by simpa using ho
      by_cases hd : dP (moth s) 16 = s
      · by_cases hb : bitB (nth s 14) line = true
        · exact ways_e s line hs h ho' hd hb w hp hn
        · exact ways_d s line hs h ho' hd (Lib.hid (show bitB (nth s 14) line = false by simpa using hb)) w hp hn
      · exact ways_c s line hs h ho' hd w hp hn
  · exact ways_a s line hs h w hp hn
end Go.Proofs.YtgaljmhhagldlaaDoor
