/-
  The reference of chapter 3: copies and ways.
-/
import Derived.Test.YtgaljmhhagldlaaDoorShRc
import Derived.Test.YtgaljmhhagldlaaDoorShH
import Derived.Test.YtgaljmhhagldlaaDoorShP
namespace Go.Proofs.YtgaljmhhagldlaaDoor
open Go Go.RowKit
set_option linter.unusedVariables false

theorem sixteen {s : List Int} (h : s.length = 16) : ∃ x0 x1 x2 x3 x4 x5 x6 x7 x8 x9 x10 x11 x12 x13 x14 x15 : Int, s = [x0, x1, x2, x3, x4, x5, x6, x7, x8, x9, x10, x11, x12, x13, x14, x15] := by
  match s, h with
  | [x0, x1, x2, x3, x4, x5, x6, x7, x8, x9, x10, x11, x12, x13, x14, x15], _ => exact ⟨_, _, _, _, _, _, _, _, _, _, _, _, _, _, _, _, rfl⟩
theorem figW_true {x : Int} (h : Fig x) : figB x = true := by simp [figB]; exact h
theorem figW_false {x : Int} (h : ¬ Fig x) : figB x = false := by
  simp only [figB, decide_eq_false_iff_not]
  exact h
set_option maxHeartbeats 2000000 in
theorem refShield_any (s : List Int) (hs : Hid (s.length = 16)) (b : Bool) (hb : Hid (b = decide (chkF s = 0))) (w : World) :
    Calls Tryd.prog 38 #[.agg (arr s)] w fun e w' => e = .returned (.bool b) ∧ Below w.heap.size w w' := by
  have HM := Lib.hid (Blk.new w 56 (arr s))
  have hB0 : Below w.heap.size w (w.alloc (.cells (arr s) 56)) := (Below.refl _ _).alloc (Nat.le_refl _) _
  have HC := Lib.hid (HM.out.chart hs.out)
  go_enter Tryd.func38, Tryd.ntmps38
  go_wp2
  generalize (w.alloc (.cells (arr s) 56)) = W at *
  go_loop [3] (fun i => ∃ k : Nat, k ≤ 16 ∧ i = .int .i64 k ∧ Hid (∀ j, j < k → Fig (nth s j))) (fun i => 16 - (intOf i).toNat)
  case atStart => exact ⟨0, by omega, rfl, fun j hj => by omega⟩
  case round =>
    obtain ⟨k, hk, rfl, HF⟩ := hrel
    by_cases hlt : k < 16
    · have hc := HC.out k hlt
      by_cases hfg : Fig (nth s k)
      · have HG := Lib.hid (figW_true hfg)
        have HH := Lib.hid hfg
        clear hfg
        go_wp2_with (go_at_call 21; refine (refFigure_any _ _).mono ?_; rintro e w' ⟨rfl, rfl⟩; rw [HG.out])
        go_round
        case rel => exact ⟨k + 1, by omega, by go_num, fun j hj => by by_cases e : j = k; exact e ▸ HH.out; exact HF.out j (by omega)⟩
        case measure => simp [intOf]; omega
      · have HG := Lib.hid (figW_false hfg)
        have HB := Lib.hid (show b = false by rw [hb.out]; simp only [decide_eq_false_iff_not]; intro h; exact hfg (chkF_zero h k (by have := hs.out; omega)))
        clear hfg
        go_wp2_with (go_at_call 21; refine (refFigure_any _ _).mono ?_; rintro e w' ⟨rfl, rfl⟩; rw [HG.out])
        go_ret
        exact ⟨by rw [HB.out]; rfl, hB0⟩
    · obtain rfl : k = 16 := by omega
      have HB := Lib.hid (show b = true by rw [hb.out]; simp only [decide_eq_true_eq]; exact chkF_figs hs.out HF.out)
      go_wp2
      go_ret
      exact ⟨by rw [HB.out]; rfl, hB0⟩

theorem empty_owns (w : World) : (w.alloc (.cells #[] 3)).ownsRow w.heap.size 3 1 (.slice (some ⟨w.heap.size, 0, none⟩) 0 0) 0 [] :=
  ⟨rfl, Or.inr ⟨w.heap.size, 0, #[], rfl, Nat.le_refl _, heap_alloc_new w _, Nat.le_refl _, by simp [maxLen], rfl, rfl⟩⟩
theorem owns_less {w : World} {base base' : Nat} {e : TypeId} {size : Nat} {v : Value} {n : Nat} {xs : List Value} (h : w.ownsRow base e size v n xs) (hb : base' ≤ base) : w.ownsRow base' e size v n xs := by
  obtain ⟨h1, h2⟩ := h
  rcases h2 with h2 | ⟨g, cap, cur, hv, hg, r⟩
  · exact ⟨h1, .inl h2⟩
  · exact ⟨h1, .inr ⟨g, cap, cur, hv, by omega, r⟩⟩
set_option maxRecDepth 100000 in
set_option maxHeartbeats 4000000 in
theorem refWrong_any (s : List Int) (hs : Hid (s.length = 16)) (hf : Figs s) (w : World) :
    Calls Tryd.prog 39 #[.agg (arr s)] w fun e w' => (∃ q c, e = .returned (.slice q (wrongTo s 16).length c) ∧ Reads w' q (wrongTo s 16)) ∧ Below w.heap.size w w' := by
  have HM := Lib.hid (show Blk ((w.alloc (.cells (arr s) 56)).alloc (.cells #[] 3)) w.heap.size 56 (arr s) from (Blk.new w _ _).alloc _)
  have hB0 : Below w.heap.size w ((w.alloc (.cells (arr s) 56)).alloc (.cells #[] 3)) := ((Below.refl _ _).alloc (Nat.le_refl _) _).alloc (by simp) _
  have hO : ((w.alloc (.cells (arr s) 56)).alloc (.cells #[] 3)).ownsRow (w.heap.size + 1) 3 1 (.slice (some ⟨w.heap.size + 1, 0, none⟩) 0 0) 0 [] := by
    have := empty_owns (w.alloc (.cells (arr s) 56))
    simpa using this
  have HO := Lib.hid hO
  clear hO
  obtain ⟨i0, hi, hz0, hz1, hz2⟩ := info_parts info_int
  go_enter Tryd.func39, Tryd.ntmps39
  go_wp2
  generalize ((w.alloc (.cells (arr s) 56)).alloc (.cells #[] 3)) = w1 at *
  have hsz1 : w.heap.size < w1.heap.size := HM.out.lt
  go_loopw [3, 4] (fun v i wr => ∃ p : Nat, 4 ≤ p ∧ p ≤ 16 ∧ i = .int .i64 p ∧ wr.ownsRow (w.heap.size + 1) 3 1 v (wrongTo s p).length ((wrongTo s p).map (Value.int .i64)) ∧ Below (w.heap.size + 1) w1 wr) (fun _ i _ => 16 - (intOf i).toNat)
  case atStart => exact ⟨4, by omega, by omega, rfl, HO.out, Below.refl _ _⟩
  case round =>
    obtain ⟨p, hp4, hp16, rfl, hown, hB⟩ := hrel
    by_cases hlt : p < 16
    · have HX := Lib.hid (HM.out.below hB (by omega))
      have hsz : w.heap.size < wr.heap.size := HX.out.lt
      have hc0 : wr.cell? ⟨w.heap.size, p, none⟩ = some (.int .i64 (nth s p)) := HX.out.chart hs.out p hlt
      have kr : wr.rangeAt w.heap.size 0 (s.map (Value.int .i64)) := HX.out.range
      have U : Tryd.prog.underlying 56 = some (.array 16 22) := Tryd.underlying56
      have I : (Tryd.prog.info? 56).map (·.size) = some (s.map (Value.int .i64)).length := by rw [List.length_map, hs.out]; exact info_shield
      have hwl := wrongTo_len s p
      have q1 : (p : Int) < 16 := by omega
      by_cases hq : nth s p = followF s p
      · have e3 : (nth s p != followF s p) = false := by simp [hq]
        have E3 := Lib.hid e3
        have HQ := Lib.hid (wrongTo_no hq)
        clear hq e3
        go_wp2_with fail
        go_region_held3 (fun w' => w'.cell? ⟨w.heap.size, p, none⟩ = some (.int .i64 (nth s p)) ∧ w'.rangeAt w.heap.size 0 (s.map (Value.int .i64)) ∧ Below wr.heap.size wr w')
          (first | exact ⟨hc0, kr, (Below.refl _ _).drew⟩ | assumption | exact ⟨cell_tr hbk (by exact hc0), range_tr hbk (by exact kr), tr (Below.drew (Below.refl wr.heap.size wr)) hbk⟩)
          (first | (go_at_call 62; refine (refFollows_any s hs hf p hp4 hlt _).mono ?_; rintro e w' ⟨rfl, hbk⟩))
        rename_i hh
        obtain ⟨_, _, hbx⟩ := hh
        rw [E3.out]
        have hown2 := owns_below hown hbx
        have hB2 := hB.trans (hbx.mono (by omega))
        clear hbx hown hc0 hbk hB kr U I
        go_wp2
        go_roundw
        case rel => exact ⟨p + 1, by omega, by omega, by go_num, by rw [HQ.out]; exact hown2, hB2⟩
        case measure => simp [intOf]; omega
      · have e3 : (nth s p != followF s p) = true := by simp [hq]
        have E3 := Lib.hid e3
        have HQ := Lib.hid (wrongTo_yes hp4 hq)
        clear hq e3
        go_wp2_with fail
        go_region_held3 (fun w' => w'.cell? ⟨w.heap.size, p, none⟩ = some (.int .i64 (nth s p)) ∧ w'.rangeAt w.heap.size 0 (s.map (Value.int .i64)) ∧ Below wr.heap.size wr w')
          (first | exact ⟨hc0, kr, (Below.refl _ _).drew⟩ | assumption | exact ⟨cell_tr hbk (by exact hc0), range_tr hbk (by exact kr), tr (Below.drew (Below.refl wr.heap.size wr)) hbk⟩)
          (first | (go_at_call 62; refine (refFollows_any s hs hf p hp4 hlt _).mono ?_; rintro e w' ⟨rfl, hbk⟩))
        rename_i hh
        obtain ⟨_, _, hbx⟩ := hh
        rw [E3.out]
        have hown2 := owns_below hown hbx
        have hB2 := hB.trans (hbx.mono (by omega))
        have hsz2 : wr.heap.size ≤ w'.heap.size := hbx.size
        clear hbx hown hc0 hbk hB kr U I
        go_wp2_with (at_builtin; refine wpList_append_own _ rfl _ _ 44 rfl (w.heap.size + 1) 3 i0 (.int .i64 0) 1 8 Tryd.underlying44 hi hz0 hz1 hz2 rfl (by decide) _ (wrongTo s p).length _ rfl (hown2.alloc _) ⟨w'.heap.size, 0, none⟩ 1 1 [.int .i64 p] rfl rfl (news_at _ _ rfl) (one_int _) (by unfold maxLen; omega) (by omega) (by simp; omega) ?_)
        intro v2 w6 hown3 hg _
        have hB3 : Below (w.heap.size + 1) w1 w6 := (hB2.alloc (by omega) _).grown hg (by simp; omega) (owns_base hown2)
        clear hg hown2 hB2
        go_wp2
        go_roundw
        case rel => exact ⟨p + 1, by omega, by omega, by go_num, by rw [HQ.out]; simpa using hown3, hB3⟩
        case measure => simp [intOf]; omega
    · obtain rfl : p = 16 := by omega
      go_wp2
      obtain ⟨q, c, rfl, hrd⟩ := Got.of_owns hown
      go_ret
      exact ⟨⟨q, c, rfl, hrd⟩, hB0.trans (hB.mono (by omega))⟩

set_option maxRecDepth 100000 in
set_option maxHeartbeats 4000000 in
theorem refWay_any (s : List Int) (l : Nat) (hs : Hid (s.length = 16)) (hf : Hid (Figs s)) (hl : l ≤ 3) (hb : Hid (bitB (nth s 14) l = true)) (w : World) :
    Calls Tryd.prog 45 #[.agg (arr s), .int .i64 l] w fun e w' => (∃ q c, e = .returned (.slice q 4 c) ∧ Reads w' q (wayTo s l 3)) ∧ Below w.heap.size w w' := by
  have HM := Lib.hid (Blk.new w 56 (arr s))
  have hB0 : Below w.heap.size w (w.alloc (.cells (arr s) 56)) := (Below.refl _ _).alloc (Nat.le_refl _) _
  have HC := Lib.hid (HM.out.chart hs.out)
  have c14 := HC.out 14 (by omega)
  have M14 := Lib.hid (show markF (nth s 14) l = 1 by unfold markF; rw [hb.out]; rfl)
  obtain ⟨i0, hi, hz0, hz1, hz2⟩ := info_parts info_int
  have a14 : (arr s)[14]? = some (.int .i64 (nth s 14)) := arr_get (by have := hs.out; omega)
  go_enter Tryd.func45, Tryd.ntmps45
  go_wp2_with (go_at_call 24; refine (refLine_any _ l (hf.out 14 (by omega)) hl _).mono ?_; rintro e w' ⟨rfl, rfl⟩; rw [M14.out])
  have HWS := Lib.hid (show (w.alloc (.cells (arr s) 56)).heap.size = w.heap.size + 1 by simp)
  generalize (w.alloc (.cells (arr s) 56)) = W at *
  have hsW : w.heap.size < W.heap.size := HM.out.lt
  clear c14 a14
  go_loopw [5, 6] (fun v i wr => ∃ k : Nat, k ≤ 3 ∧ i = .int .i64 (plc s l k) ∧ wr.ownsRow (w.heap.size + 1) 3 1 v (k + 1) ((wayTo s l k).map (Value.int .i64)) ∧ Below (w.heap.size + 1) W wr) (fun _ i _ => (intOf i).toNat)
  case atStart => exact ⟨0, by omega, rfl, by have := one_owns W 14 (B := w.heap.size + 1) (by omega); rw [HWS.out] at this; exact this, (Below.refl (w.heap.size + 1) W).alloc (by omega) _⟩
  case round =>
    obtain ⟨k, hk, rfl, hown, hB⟩ := hrel
    by_cases h8 : 8 ≤ plc s l k
    · have hk3 := plc_ge s l hk h8
      have hcs := plc_cases s l hk3
      have HX := Lib.hid (HM.out.below hB (by omega))
      have hszr : w.heap.size < wr.heap.size := HX.out.lt
      have h16 : plc s l k < 16 := by omega
      obtain ⟨pa, pb⟩ := parAB_lt' h8 h16
      have HN : Hid (plc s l (k + 1) = nx s l (plc s l k)) := rfl
      have HW : Hid (wayTo s l (k + 1) = wayTo s l k ++ [(plc s l (k + 1) : Int)]) := rfl
      have HPC := Lib.hid (fun w => refParents_any (plc s l k) h8 h16 w)
      have hfa := hf.out (parA (plc s l k)) (by omega)
      have hfb := Lib.hid (show nx s l (plc s l k) = if bitB (nth s (parA (plc s l k))) l = true then parA (plc s l k) else parB (plc s l k) from rfl)
      have hlt : nx s l (plc s l k) < plc s l k := by rcases nx_or s l (plc s l k) with h | h <;> omega
      have hca : wr.cell? ⟨w.heap.size, parA (plc s l k), none⟩ = some (.int .i64 (nth s (parA (plc s l k)))) := HX.out.chart hs.out _ (by omega)
      generalize nx s l (plc s l k) = nxt at *
      generalize plc s l k = p at *
      generalize parA p = a at *
      generalize parB p = b at *
      clear hcs
      have qa : (a : Int) < 16 := by omega
      cases hbt : bitB (nth s a) l
      · have HL := Lib.hid (show markF (nth s a) l = 2 by unfold markF; rw [hbt]; rfl)
        have HE : Hid (nxt = b) := by have := hfb.out; rw [hbt] at this; exact this
        obtain rfl := HE.out
        clear hbt hfb HE
        go_wp2_with (first
          | (go_at_call 71; refine (HPC.out _).mono ?_; rintro e w4 ⟨rfl, rfl⟩)
          | (go_at_call 24; refine (refLine_any _ l hfa hl _).mono ?_; rintro e w4 ⟨rfl, rfl⟩; rw [HL.out])
          | (at_builtin; refine wpList_append_own _ rfl _ _ 44 rfl (w.heap.size + 1) 3 i0 (.int .i64 0) 1 8 Tryd.underlying44 hi hz0 hz1 hz2 rfl (by decide) _ (k + 1) _ rfl (hown.alloc _) ⟨wr.heap.size, 0, none⟩ 1 1 [.int .i64 (nxt : Nat)] rfl rfl (news_at _ _ (by simp)) (one_int _) (by unfold maxLen; omega) (by omega) (by simp; omega) ?_))
        intro v2 w6 hown3 hg _
        have hB3 : Below (w.heap.size + 1) W w6 := (hB.alloc (by omega) _).grown hg (by simp; omega) (owns_base hown)
        clear hg hown hB
        go_wp2
        go_roundw
        case rel => exact ⟨k + 1, by omega, by rw [HN.out], by rw [HW.out, HN.out]; simpa using hown3, hB3⟩
        case measure => simp [intOf]; omega
      · have HL := Lib.hid (show markF (nth s a) l = 1 by unfold markF; rw [hbt]; rfl)
        have HE : Hid (nxt = a) := by have := hfb.out; rw [hbt] at this; exact this
        obtain rfl := HE.out
        clear hbt hfb HE
        go_wp2_with (first
          | (go_at_call 71; refine (HPC.out _).mono ?_; rintro e w4 ⟨rfl, rfl⟩)
          | (go_at_call 24; refine (refLine_any _ l hfa hl _).mono ?_; rintro e w4 ⟨rfl, rfl⟩; rw [HL.out])
          | (at_builtin; refine wpList_append_own _ rfl _ _ 44 rfl (w.heap.size + 1) 3 i0 (.int .i64 0) 1 8 Tryd.underlying44 hi hz0 hz1 hz2 rfl (by decide) _ (k + 1) _ rfl (hown.alloc _) ⟨wr.heap.size, 0, none⟩ 1 1 [.int .i64 (nxt : Nat)] rfl rfl (news_at _ _ (by simp)) (one_int _) (by unfold maxLen; omega) (by omega) (by simp; omega) ?_))
        intro v2 w6 hown3 hg _
        have hB3 : Below (w.heap.size + 1) W w6 := (hB.alloc (by omega) _).grown hg (by simp; omega) (owns_base hown)
        clear hg hown hB
        go_wp2
        go_roundw
        case rel => exact ⟨k + 1, by omega, by rw [HN.out], by rw [HW.out, HN.out]; simpa using hown3, hB3⟩
        case measure => simp [intOf]; omega
    · have hk3 := plc_lt s l hk (by omega)
      subst hk3
      go_wp2
      obtain ⟨q, c, rfl, hrd⟩ := Got.of_owns hown
      go_ret
      exact ⟨⟨q, c, by rw [wayTo_len]; rfl, hrd⟩, hB0.trans (hB.mono (by omega))⟩
end Go.Proofs.YtgaljmhhagldlaaDoor
