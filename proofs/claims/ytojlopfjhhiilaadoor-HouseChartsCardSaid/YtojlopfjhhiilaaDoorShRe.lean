/-
  The reference of chapter 3: copies and ways.
-/
import Derived.Test.YtojlopfjhhiilaaDoorShRc
import Derived.Test.YtojlopfjhhiilaaDoorShH
import Derived.Test.YtojlopfjhhiilaaDoorShP
namespace Go.Proofs.YtojlopfjhhiilaaDoor
open Go Go.RowKit
set_option linter.unusedVariables false

theorem sixteen {s : List Int} (h : s.length = 16) : ∃ x0 x1 x2 x3 x4 x5 x6 x7 x8 x9 x10 x11 x12 x13 x14 x15 : Int, s = [x0, x1, x2, x3, x4, x5, x6, x7, x8, x9, x10, x11, x12, x13, x14, x15] := by
  match s, h with
  | [x0, x1, x2, x3, x4, x5, x6, x7, x8, x9, x10, x11, x12, x13, x14, x15], _ => exact ⟨_, _, _, _, _, _, _, _, _, _, _, _, _, _, _, _, rfl⟩
theorem figW_true {x : Int} (h : Fig x) : figB x = true := by simp [figB]; exact h
theorem figW_false {x : Int} (h : ¬ Fig x) : figB x = false := by
  simp only [figB, decide_eq_false_iff_not]
  exact h
set_option maxHeartbeats 2000000 in
theorem refShield_any (s : List Int) (hs : Hid (s.length = 16)) (b : Bool) (hb : Hid (b = decide (chkF s = 0))) (w : World) :
    Calls Tryd.prog 10 #[.agg (arr s)] w fun e w' => e = .returned (.bool b) ∧ Below w.heap.size w w' := by
  have HM := Lib.hid (Blk.new w 24 (arr s))
  have hB0 : Below w.heap.size w (w.alloc (.cells (arr s) 24)) := (Below.refl _ _).alloc (Nat.le_refl _) _
  have HC := Lib.hid (HM.out.chart hs.out)
  go_enter Tryd.func10, Tryd.ntmps10
  go_wp2
  generalize (w.alloc (.cells (arr s) 24)) = W at *
  go_loop [3] (fun i => ∃ k : Nat, k ≤ 16 ∧ i = .int .i64 k ∧ Hid (∀ j, j < k → Fig (nth s j))) (fun i => 16 - (intOf i).toNat)
  case atStart => exact ⟨0, by omega, rfl, fun j hj => by omega⟩
  case round =>
    obtain ⟨k, hk, rfl, HF⟩ := hrel
    by_cases hlt : k < 16
    · have hc := HC.out k hlt
      by_cases hfg : Fig (nth s k)
      · have HG := Lib.hid (figW_true hfg)
        have HH := Lib.hid hfg
        clear hfg
        go_wp2_with (go_at_call 18; refine (refFigure_any _ _).mono ?_; rintro e w' ⟨rfl, rfl⟩; rw [HG.out])
        go_round
        case rel => exact ⟨k + 1, by omega, by go_num, fun j hj => by by_cases e : j = k; exact e ▸ HH.out; exact HF.out j (by omega)⟩
        case measure => simp [intOf]; omega
      · have HG := Lib.hid (figW_false hfg)
        have HB := Lib.hid (show b = false by rw [hb.out]; simp only [decide_eq_false_iff_not]; intro h; exact hfg (chkF_zero h k (by have := hs.out; omega)))
        clear hfg
        go_wp2_with (go_at_call 18; refine (refFigure_any _ _).mono ?_; rintro e w' ⟨rfl, rfl⟩; rw [HG.out])
        go_ret
        exact ⟨by rw [HB.out]; rfl, hB0⟩
    · obtain rfl : k = 16 := by omega
      have HB := Lib.hid (show b = true by rw [hb.out]; simp only [decide_eq_true_eq]; exact chkF_figs hs.out HF.out)
      go_wp2
      go_ret
      exact ⟨by rw [HB.out]; rfl, hB0⟩

theorem empty_owns (w : World) : (w.alloc (.cells #[] 3)).ownsRow w.heap.size 3 1 (.slice (some ⟨w.heap.size, 0, none⟩) 0 0) 0 [] :=
  ⟨rfl, Or.inr ⟨w.heap.size, 0, #[], rfl, Nat.le_refl _, heap_alloc_new w _, Nat.le_refl _, by simp [maxLen], rfl, rfl⟩⟩
theorem owns_less {w : World} {base base' : Nat} {e : TypeId} {size : Nat} {v : Value} {n : Nat} {xs : List Value} (h : w.ownsRow base e size v n xs) (hb : base' ≤ base) : w.ownsRow base' e size v n xs := by
  obtain ⟨h1, h2⟩ := h
  rcases h2 with h2 | ⟨g, cap, cur, hv, hg, r⟩
  · exact ⟨h1, .inl h2⟩
  · exact ⟨h1, .inr ⟨g, cap, cur, hv, by omega, r⟩⟩
set_option maxRecDepth 100000 in
set_option maxHeartbeats 4000000 in
theorem refWrong_any (s : List Int) (hs : Hid (s.length = 16)) (hf : Figs s) (w : World) :
    Calls Tryd.prog 11 #[.agg (arr s)] w fun e w' => (∃ q c, e = .returned (.slice q (wrongTo s 16).length c) ∧ Reads w' q (wrongTo s 16)) ∧ Below w.heap.size w w' := by
  have HM := Lib.hid (show Blk ((w.alloc (.cells (arr s) 24)).alloc (.cells #[] 3)) w.heap.size 24 (arr s) from (Blk.new w _ _).alloc _)
  have hB0 : Below w.heap.size w ((w.alloc (.cells (arr s) 24)).alloc (.cells #[] 3)) := ((Below.refl _ _).alloc (Nat.le_refl _) _).alloc (by simp) _
  have hO : ((w.alloc (.cells (arr s) 24)).alloc (.cells #[] 3)).ownsRow (w.heap.size + 1) 3 1 (.slice (some ⟨w.heap.size + 1, 0, none⟩) 0 0) 0 [] := by
    have := empty_owns (w.alloc (.cells (arr s) 24))
    simpa using this
  have HO := Lib.hid hO
  clear hO
  obtain ⟨i0, hi, hz0, hz1, hz2⟩ := info_parts info_int
  go_enter Tryd.func11, Tryd.ntmps11
  go_wp2
  generalize ((w.alloc (.cells (arr s) 24)).alloc (.cells #[] 3)) = w1 at *
  have hsz1 : w.heap.size < w1.heap.size := HM.out.lt
  go_loopw [3, 4] (fun v i wr => ∃ p : Nat, 4 ≤ p ∧ p ≤ 16 ∧ i = .int .i64 p ∧ wr.ownsRow (w.heap.size + 1) 3 1 v (wrongTo s p).length ((wrongTo s p).map (Value.int .i64)) ∧ Below (w.heap.size + 1) w1 wr) (fun _ i _ => 16 - (intOf i).toNat)
  case atStart => exact ⟨4, by omega, by omega, rfl, HO.out, Below.refl _ _⟩
  case round =>
    obtain ⟨p, hp4, hp16, rfl, hown, hB⟩ := hrel
    by_cases hlt : p < 16
    · have HX := Lib.hid (HM.out.below hB (by omega))
      have hsz : w.heap.size < wr.heap.size := HX.out.lt
      have hc0 : wr.cell? ⟨w.heap.size, p, none⟩ = some (.int .i64 (nth s p)) := HX.out.chart hs.out p hlt
      have kr : wr.rangeAt w.heap.size 0 (s.map (Value.int .i64)) := HX.out.range
      have U : Tryd.prog.underlying 24 = some (.array 16 22) := Tryd.underlying24
      have I : (Tryd.prog.info? 24).map (·.size) = some (s.map (Value.int .i64)).length := by rw [List.length_map, hs.out]; exact info_shield
      have hwl := wrongTo_len s p
      have q1 : (p : Int) < 16 := by omega
      by_cases hq : nth s p = followF s p
      · have e3 : (nth s p != followF s p) = false := by simp [hq]
        have E3 := Lib.hid e3
        have HQ := Lib.hid (wrongTo_no hq)
        clear hq e3
        go_wp2_with fail
        go_region_held3 (fun w' => w'.cell? ⟨w.heap.size, p, none⟩ = some (.int .i64 (nth s p)) ∧ w'.rangeAt w.heap.size 0 (s.map (Value.int .i64)) ∧ Below wr.heap.size wr w')
          (first | exact ⟨hc0, kr, (Below.refl _ _).drew⟩ | assumption | exact ⟨cell_tr hbk (by exact hc0), range_tr hbk (by exact kr), tr (Below.drew (Below.refl wr.heap.size wr)) hbk⟩)
          (first | (go_at_call 33; refine (refFollows_any s hs hf p hp4 hlt _).mono ?_; rintro e w' ⟨rfl, hbk⟩))
        rename_i hh
        obtain ⟨_, _, hbx⟩ := hh
        rw [E3.out]
        have hown2 := owns_below hown hbx
        have hB2 := hB.trans (hbx.mono (by omega))
        clear hbx hown hc0 hbk hB kr U I
        go_wp2
        go_roundw
        case rel => exact ⟨p + 1, by omega, by omega, by go_num, by rw [HQ.out]; exact hown2, hB2⟩
        case measure => simp [intOf]; omega
      · have e3 : (nth s p != followF s p) = true := by simp [hq]
        have E3 := Lib.hid e3
        have HQ := Lib.hid (wrongTo_yes hp4 hq)
        clear hq e3
        go_wp2_with fail
        go_region_held3 (fun w' => w'.cell? ⟨w.heap.size, p, none⟩ = some (.int .i64 (nth s p)) ∧ w'.rangeAt w.heap.size 0 (s.map (Value.int .i64)) ∧ Below wr.heap.size wr w')
          (first | exact ⟨hc0, kr, (Below.refl _ _).drew⟩ | assumption | exact ⟨cell_tr hbk (by exact hc0), range_tr hbk (by exact kr), tr (Below.drew (Below.refl wr.heap.size wr)) hbk⟩)
          (first | (go_at_call 33; refine (refFollows_any s hs hf p hp4 hlt _).mono ?_; rintro e w' ⟨rfl, hbk⟩))
        rename_i hh
        obtain ⟨_, _, hbx⟩ := hh
        rw [E3.out]
        have hown2 := owns_below hown hbx
        have hB2 := hB.trans (hbx.mono (by omega))
        have hsz2 : wr.heap.size ≤ w'.heap.size := hbx.size
        clear hbx hown hc0 hbk hB kr U I
        go_wp2_with (at_builtin; refine wpList_append_own _ rfl _ _ 34 rfl (w.heap.size + 1) 3 i0 (.int .i64 0) 1 8 Tryd.underlying34 hi hz0 hz1 hz2 rfl (by decide) _ (wrongTo s p).length _ rfl (hown2.alloc _) ⟨w'.heap.size, 0, none⟩ 1 1 [.int .i64 p] rfl rfl (news_at _ _ rfl) (one_int _) (by unfold maxLen; omega) (by omega) (by simp; omega) ?_)
        intro v2 w6 hown3 hg _
        have hB3 : Below (w.heap.size + 1) w1 w6 := (hB2.alloc (by omega) _).grown hg (by simp; omega) (owns_base hown2)
        clear hg hown2 hB2
        go_wp2
        go_roundw
        case rel => exact ⟨p + 1, by omega, by omega, by go_num, by rw [HQ.out]; simpa using hown3, hB3⟩
        case measure => simp [intOf]; omega
    · obtain rfl : p = 16 := by omega
      go_wp2
      obtain ⟨q, c, rfl, hrd⟩ := Got.of_owns hown
      go_ret
      exact ⟨⟨q, c, rfl, hrd⟩, hB0.trans (hB.mono (by omega))⟩

end Go.Proofs.YtojlopfjhhiilaaDoor
