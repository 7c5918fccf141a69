/-
  OddsFair: for every number of sides, every number of values, and every list of throws, the function returns true and leaves the throws as they are. Nothing is asked of the input.
-/
import Derived.Test.YtagodfaclohkmaaK
import Derived.Test.YtagodfaclohkmaaS
import Derived.Test.YtagodfaclohkmaaT
import Derived.WalkKit
import Derived.ProofKit
import Derived.OpenShut
import Derived.ChangeOld
import Derived.Below
namespace Go.Proofs.Ytagodfaclohkmaa
open Go.ChangeShapes Go.WideShapes Go.ChangeAt Go.RowKit
set_option linter.unusedVariables false

set_option maxRecDepth 100000 in
set_option maxHeartbeats 4000000 in
theorem oddsFair_walk (s b : Int) (p : Option Addr) (ts : List Int) (c : Nat) (w : World) (hC : Came w p ts c) :
    Calls Try.prog 9 #[.int .i64 s, .int .i64 b, .slice p ts.length c] w fun e w' => e = .returned (.bool true) ∧ Below w.heap.size w w' := by
  by_cases h1 : 10100 < ts.length
  · have x0 : 200 < ts.length := by omega
    have x1 : ¬ ts.length ≤ 10000 := by omega
    go_enter Try.func9, Try.ntmps9
    go_wp2_with fail
    go_call (known_any _) as e w1 ⟨rfl, hb1⟩
    go_wp2
    go_returns
    exact ⟨rfl, hb1⟩
  · obtain ⟨V, U, E, hF, hG⟩ : ∃ V U E : Int,
        (∀ p' c' w', Reads w' p' ts → Calls Try.prog 53 #[.int .i64 s, .int .i64 b, .slice p' ts.length c'] w' fun e w'' => e = .returned (.tuple #[.int .i64 V, .int .i64 U, .int .i64 E]) ∧ Below w'.heap.size w' w'') ∧
        (∀ p' c' w', Reads w' p' ts → Calls Try.prog 54 #[.int .i64 s, .int .i64 b, .slice p' ts.length c'] w' fun e w'' => e = .returned (.tuple #[.int .i64 V, .int .i64 U, .int .i64 E]) ∧ Below w'.heap.size w' w'') :=
      ⟨_, _, _, fun p' c' w' hR => fair_any s b p' ts c' w' (by omega) hR, fun p' c' w' hR => refFair_any s b p' ts c' w' (by omega) hR⟩
    by_cases h2 : 200 < ts.length
    · by_cases h3 : ts.length ≤ 10000
      · go_enter Try.func9, Try.ntmps9
        go_wp2_with fail
        go_call (known_any _) as e w1 ⟨rfl, hb1⟩
        go_wp2
        go_returns
        exact ⟨rfl, hb1⟩
      · go_enter Try.func9, Try.ntmps9
        go_wp2_with fail
        go_call (own_any p ts c _ (by omega) hC) as e w1 ⟨⟨p1, c1, rfl, hr1⟩, hb1⟩
        go_wp2_with fail
        go_call (hF p1 c1 _ hr1) as e w2 ⟨rfl, hb2⟩
        go_wp2_with fail
        go_call (hG p c _ (hC.2.1.below (hb1.trans (hb2.mono hb1.size)) (Nat.le_refl _))) as e w3 ⟨rfl, hb3⟩
        go_wp2_with fail
        go_call (known_any _) as e w4 ⟨rfl, hb4⟩
        go_wp2
        go_returns
        exact ⟨rfl, tr (tr (tr hb1 hb2) hb3) hb4⟩
    · go_enter Try.func9, Try.ntmps9
      go_wp2_with fail
      go_call (own_any p ts c _ (by omega) hC) as e w1 ⟨⟨p1, c1, rfl, hr1⟩, hb1⟩
      go_wp2_with fail
      go_call (hF p1 c1 _ hr1) as e w2 ⟨rfl, hb2⟩
      go_wp2_with fail
      go_call (hG p c _ (hC.2.1.below (hb1.trans (hb2.mono hb1.size)) (Nat.le_refl _))) as e w3 ⟨rfl, hb3⟩
      go_wp2_with fail
      go_call (known_any _) as e w4 ⟨rfl, hb4⟩
      go_wp2
      go_returns
      exact ⟨rfl, tr (tr (tr hb1 hb2) hb3) hb4⟩

theorem oddsFair_own : ownKnob Try.prog.godebug = none := by kernel_rfl
theorem oddsFair_laidOut : laidOutB Try.prog = true := by kernel_rfl

set_option maxRecDepth 100000 in
theorem oddsFair_lifted (os : Os) (started : os.Started) (H : Type) (enc : TypeId × Value → H) :
    ReturnsInHanded {} Try.checked os 9 .any (Rows.oddsFairSpec.pre6 enc Try.prog Try.f9 Rows.oddsFairRow.domain false) (Rows.oddsFairSpec.post enc Try.prog Try.f9 false true false false) := by
  refine returnsInHanded_of_change (C := Try.checked) oddsFair_own started (by kernel_rfl) Try.func9
    (ChangeSpec.witness6 (enc := enc) (C := Try.checked) false ⟨#[], #[.int .i64 0, .int .i64 0, .slice none 0 0], []⟩ 8 (by kernel_rfl) (by kernel_rfl) (by kernel_rfl) (by kernel_rfl)) ?_
  intro W base args ds gs before hval0 hW hcnd _
  have hval : ∀ (j : Nat) t v, Try.f9.params[j]? = some t → args[j]? = some v → Value.okWide Try.prog W .any base t v := hval0
  have hW' := hW
  obtain ⟨p, q, hA0, hV, rfl, hfz, hnd⟩ := hW
  have hA : DataW.TrodAll enc Try.prog W 0 (fun _ => true) true Try.f9.params.toList args.toList ds p := hA0
  rw [Try.params9] at hA hval
  obtain ⟨v0, v1, v2, d0, d1, d2, p0, p1, p2, rfl, rfl, rfl, h0, h1, h2⟩ := trodAll_three hA
  obtain ⟨rfl, rfl⟩ := trodVars_none hV
  obtain ⟨a0, rfl, rfl, rfl, w0⟩ := open_int Try.underlying3 (hval 0 3 v0 rfl rfl) h0
  obtain ⟨a1, rfl, rfl, rfl, w1⟩ := open_int Try.underlying3 (hval 1 3 v1 rfl rfl) h1
  have lt2 : ∀ x ∈ p2, x.block < W.heap.size := by obtain ⟨m, hm⟩ := h2; exact DataW.trod_lt m _ _ _ hm
  obtain ⟨a2, xs2, c2, rfl, hC2, _⟩ := came_open (hval 2 22 v2 rfl rfl) h2
  clear hA0 hval0
  refine (oddsFair_walk a0 a1 a2 xs2 c2 W hC2).mono fun e W' ⟨he, bel⟩ => ?_
  subst he
  exact ⟨_, rfl, _, _, _, [], _, [], hW', trodAll_mk1 (shut_bool Try.underlying4 _), (trodAll_cons_mk (shut_int Try.underlying3 w0) (trodAll_cons_mk (shut_int Try.underlying3 w1) (trodAll_cons_mk (Below.trod oddsFair_laidOut (by kernel_rfl) (of_decide_eq_true (by kernel_rfl)) h2 bel lt2) trodAll_mk0))), rfl, bel.frame _, fun h => by cases h⟩

theorem oddsFair_holds : Rows.OddsFairSaid :=
  OpenClaim.holds_of_wide 9 Try.f9 rfl rfl rfl rfl rfl rfl rfl ⟨rfl, rfl, rfl, rfl, rfl⟩ rfl rfl rfl rfl rfl (by kernel_rfl) Try.func9 (by kernel_rfl)
    (of_decide_eq_true (by kernel_rfl)) (by unfold Func.isWrapper; first | (rw [if_pos (by decide +kernel)]; kernel_rfl) | (rw [if_neg (by decide +kernel)]; exact ⟨rfl, rfl⟩))
    (fun os started H enc _ => oddsFair_lifted os started H enc)
end Go.Proofs.Ytagodfaclohkmaa
