/-
  OddsRepeats: for every list of weights and every number of times, the function returns true and leaves the list as it is. Nothing is asked of the input.
-/
import Derived.Test.YtagodfaclohkmaaZ
import Derived.WalkKit
import Derived.ProofKit
import Derived.OpenShut
import Derived.ChangeOld
import Derived.Below
namespace Go.Proofs.Ytagodfaclohkmaa
open Go.ChangeShapes Go.WideShapes Go.ChangeAt Go.RowKit
set_option linter.unusedVariables false

theorem oddsRepeats_specs (xs : List Int) (t : Int) (hl : xs.length ≤ 1000000000000000) : ∃ (L : List Int) (E : Int), L.length ≤ 4096 ∧
    (∀ p c w, Reads w p xs → Calls Try.prog 49 #[.slice p xs.length c, .int .i64 t] w fun e w' => ∃ p' c', e = .returned (.tuple #[.slice p' L.length c', .int .i64 E]) ∧ Reads w' p' L ∧ Below w.heap.size w w') ∧
    (∀ p c w, Reads w p xs → Calls Try.prog 50 #[.slice p xs.length c, .int .i64 t] w fun e w' => ∃ p' c', e = .returned (.tuple #[.slice p' L.length c', .int .i64 E]) ∧ Reads w' p' L ∧ Below w.heap.size w w') :=
  ⟨(sRep xs t).1, (sRep xs t).2, sRep_length xs t, fun p c w hR => repeat_any p xs c t w hl hR, fun p c w hR => refRepeat_any p xs c t w hl hR⟩

theorem oddsRepeats_equal (L : List Int) (hL : L.length ≤ 4096) (pa : Option Addr) (ca : Nat) (pb : Option Addr) (cb : Nat) (w : World) (hRa : Reads w pa L) (hRb : Reads w pb L) :
    Calls Try.prog 24 #[.slice pa L.length ca, .slice pb L.length cb] w fun e w' => e = .returned (.bool true) ∧ Below w.heap.size w w' := by
  have h := equal_any pa L ca pb L cb w (by omega) (by omega) hRa hRb
  rwa [eqL_self] at h

set_option maxRecDepth 100000 in
set_option maxHeartbeats 4000000 in
theorem oddsRepeats_walk (p : Option Addr) (xs : List Int) (c : Nat) (t : Int) (w : World) (hC : Came w p xs c) :
    Calls Try.prog 7 #[.slice p xs.length c, .int .i64 t] w fun e w' => e = .returned (.bool true) ∧ Below w.heap.size w w' := by
  by_cases h1 : longB xs.length = true
  · have H1 := Lib.hid h1
    clear h1
    go_enter Try.func7, Try.ntmps7
    go_wp2_with fail
    go_call (long_any p xs c w) as e w1 ⟨rfl, hb1⟩
    rw [H1.out]
    go_wp2_with fail
    go_call (known_any _) as e w2 ⟨rfl, hb2⟩
    go_wp2
    go_returns
    exact ⟨rfl, tr hb1 hb2⟩
  · have h1' : longB xs.length = false := by simpa using h1
    have hln := longB_false h1'
    have H1 := Lib.hid h1'
    clear h1 h1'
    obtain ⟨L, E, hL, hF, hG⟩ := oddsRepeats_specs xs t (by omega)
    by_cases x1 : 100 < xs.length
    · by_cases x2 : xs.length ≤ 4096
      · go_enter Try.func7, Try.ntmps7
        go_wp2_with fail
        go_call (long_any p xs c w) as e w1 ⟨rfl, hb1⟩
        rw [H1.out]
        go_wp2_with fail
        go_call (known_any _) as e w2 ⟨rfl, hb2⟩
        go_wp2
        go_returns
        exact ⟨rfl, tr hb1 hb2⟩
      · go_enter Try.func7, Try.ntmps7
        go_wp2_with fail
        go_call (long_any p xs c w) as e w1 ⟨rfl, hB1⟩
        rw [H1.out]
        go_wp2_with fail
        go_call (own_any p xs c w1 (by omega) (hC.below hB1 (Nat.le_refl _))) as e w2 ⟨⟨p1, c1, rfl, hr1⟩, hb2⟩
        have hB2 := tr hB1 hb2
        clear hB1 hb2
        go_wp2_with fail
        go_call (hF p1 c1 _ hr1) as e w3 ⟨p3, c3, rfl, hr3, hb3⟩
        have hB3 := tr hB2 hb3
        clear hB2 hb3 hr1
        go_wp2_with fail
        go_call (hG p c _ (hC.2.1.below hB3 (Nat.le_refl _))) as e w4 ⟨p4, c4, rfl, hr4, hb4⟩
        have hr3' := hr3.below hb4 (Nat.le_refl _)
        have hB4 := tr hB3 hb4
        clear hB3 hb4 hr3
        go_wp2_with fail
        go_call (oddsRepeats_equal L hL p3 c3 p4 c4 _ hr3' hr4) as e w5 ⟨rfl, hb5⟩
        have hB5 := tr hB4 hb5
        clear hB4 hb5 hr3' hr4
        go_wp2_with fail
        go_call (known_any _) as e w6 ⟨rfl, hb6⟩
        go_wp2
        go_returns
        exact ⟨rfl, tr hB5 hb6⟩
    · go_enter Try.func7, Try.ntmps7
      go_wp2_with fail
      go_call (long_any p xs c w) as e w1 ⟨rfl, hB1⟩
      rw [H1.out]
      go_wp2_with fail
      go_call (own_any p xs c w1 (by omega) (hC.below hB1 (Nat.le_refl _))) as e w2 ⟨⟨p1, c1, rfl, hr1⟩, hb2⟩
      have hB2 := tr hB1 hb2
      clear hB1 hb2
      go_wp2_with fail
      go_call (hF p1 c1 _ hr1) as e w3 ⟨p3, c3, rfl, hr3, hb3⟩
      have hB3 := tr hB2 hb3
      clear hB2 hb3 hr1
      go_wp2_with fail
      go_call (hG p c _ (hC.2.1.below hB3 (Nat.le_refl _))) as e w4 ⟨p4, c4, rfl, hr4, hb4⟩
      have hr3' := hr3.below hb4 (Nat.le_refl _)
      have hB4 := tr hB3 hb4
      clear hB3 hb4 hr3
      go_wp2_with fail
      go_call (oddsRepeats_equal L hL p3 c3 p4 c4 _ hr3' hr4) as e w5 ⟨rfl, hb5⟩
      have hB5 := tr hB4 hb5
      clear hB4 hb5 hr3' hr4
      go_wp2_with fail
      go_call (known_any _) as e w6 ⟨rfl, hb6⟩
      go_wp2
      go_returns
      exact ⟨rfl, tr hB5 hb6⟩

theorem oddsRepeats_own : ownKnob Try.prog.godebug = none := by kernel_rfl
theorem oddsRepeats_laidOut : laidOutB Try.prog = true := by kernel_rfl

set_option maxRecDepth 100000 in
theorem oddsRepeats_lifted (os : Os) (started : os.Started) (H : Type) (enc : TypeId × Value → H) :
    ReturnsInHanded {} Try.checked os 7 .any (Rows.oddsRepeatsSpec.pre6 enc Try.prog Try.f7 Rows.oddsRepeatsRow.domain false) (Rows.oddsRepeatsSpec.post enc Try.prog Try.f7 false true false false) := by
  refine returnsInHanded_of_change (C := Try.checked) oddsRepeats_own started (by kernel_rfl) Try.func7
    (ChangeSpec.witness6 (enc := enc) (C := Try.checked) false ⟨#[], #[.slice none 0 0, .int .i64 0], []⟩ 8 (by kernel_rfl) (by kernel_rfl) (by kernel_rfl) (by kernel_rfl)) ?_
  intro W base args ds gs before hval0 hW hcnd _
  have hval : ∀ (j : Nat) t v, Try.f7.params[j]? = some t → args[j]? = some v → Value.okWide Try.prog W .any base t v := hval0
  have hW' := hW
  obtain ⟨p, q, hA0, hV, rfl, hfz, hnd⟩ := hW
  have hA : DataW.TrodAll enc Try.prog W 0 (fun _ => true) true Try.f7.params.toList args.toList ds p := hA0
  rw [Try.params7] at hA hval
  obtain ⟨v0, v1, d0, d1, p0, p1, rfl, rfl, rfl, h0, h1⟩ := trodAll_two hA
  obtain ⟨rfl, rfl⟩ := trodVars_none hV
  have lt0 : ∀ x ∈ p0, x.block < W.heap.size := by obtain ⟨m, hm⟩ := h0; exact DataW.trod_lt m _ _ _ hm
  obtain ⟨a0, xs0, c0, rfl, hC0, _⟩ := came_open (hval 0 22 v0 rfl rfl) h0
  obtain ⟨a1, rfl, rfl, rfl, w1⟩ := open_int Try.underlying3 (hval 1 3 v1 rfl rfl) h1
  clear hA0 hval0
  refine (oddsRepeats_walk a0 xs0 c0 a1 W hC0).mono fun e W' ⟨he, bel⟩ => ?_
  subst he
  exact ⟨_, rfl, _, _, _, [], _, [], hW', trodAll_mk1 (shut_bool Try.underlying4 _), (trodAll_cons_mk (Below.trod oddsRepeats_laidOut (by kernel_rfl) (of_decide_eq_true (by kernel_rfl)) h0 bel lt0) (trodAll_cons_mk (shut_int Try.underlying3 w1) trodAll_mk0)), rfl, bel.frame _, fun h => by cases h⟩

theorem oddsRepeats_holds : Rows.OddsRepeatsSaid :=
  OpenClaim.holds_of_wide 7 Try.f7 rfl rfl rfl rfl rfl rfl rfl ⟨rfl, rfl, rfl, rfl, rfl⟩ rfl rfl rfl rfl rfl (by kernel_rfl) Try.func7 (by kernel_rfl)
    (of_decide_eq_true (by kernel_rfl)) (by unfold Func.isWrapper; first | (rw [if_pos (by decide +kernel)]; kernel_rfl) | (rw [if_neg (by decide +kernel)]; exact ⟨rfl, rfl⟩))
    (fun os started H enc _ => oddsRepeats_lifted os started H enc)
end Go.Proofs.Ytagodfaclohkmaa
