/-
  OddsChances: for every two chances, valid or not, the function returns true. Nothing is asked of the input.
-/
import Derived.Test.YtnpnnfbmnlgioaaCm
import Derived.Test.YtnpnnfbmnlgioaaCn
import Derived.Test.YtnpnnfbmnlgioaaCo
import Derived.WalkKit
import Derived.ProofKit
import Derived.OpenShut
import Derived.ChangeOld
import Derived.Below
namespace Go.Proofs.Ytnpnnfbmnlgioaa
open Go.ChangeShapes Go.WideShapes Go.ChangeAt Go.RowKit
set_option linter.unusedVariables false

theorem sEither_bad {an ad bn bd : Int} (h : badC an ad = true ∨ badC bn bd = true) : sEither an ad bn bd = (0, 0, 2) := by unfold sEither; rw [if_pos h]

theorem oddsChances_walk (an ad bn bd : Int) (w : World) :
    Calls Try.prog 3 #[.agg #[.int .i64 an, .int .i64 ad], .agg #[.int .i64 bn, .int .i64 bd]] w fun e w' => e = .returned (.bool true) ∧ Below w.heap.size w w' := by
  have hX := fun w => both_any an ad bn bd w
  have hY := fun w => not_any an ad w
  have hZ := fun w => either_any lenOk an ad bn bd w
  have hU := fun w => refBoth_any an ad bn bd w
  have hV := fun w => refNot_any an ad w
  have hW := fun w => refEither_any an ad bn bd w
  have hA := fun w => refChance_ok an ad w
  have hB := fun w => refChance_ok bn bd w
  by_cases ha : badC an ad = true
  · have hK := fun w => compare_bad an ad bn bd w (.inl ha)
    rw [ha] at hA
    exact chances_a an ad bn bd _ _ _ _ _ _ _ _ _ w hK hX hY hZ hU hV hW hA
  · have ha' : badC an ad = false := by simpa using ha
    rw [ha'] at hA
    by_cases hb : badC bn bd = true
    · have hK := fun w => compare_bad an ad bn bd w (.inr hb)
      rw [hb] at hB
      exact chances_b an ad bn bd _ _ _ _ _ _ _ _ _ w hK hX hY hZ hU hV hW hA hB
    · have hb' : badC bn bd = false := by simpa using hb
      have hK := fun w => compare_ok an ad bn bd w ha' hb'
      rw [hb'] at hB
      obtain ⟨a1, a2, a3, a4, _⟩ := badC_ok ha'
      obtain ⟨b1, b2, b3, b4, _⟩ := badC_ok hb'
      have hC := fun w => refCompare_ok an ad bn bd w a3 (by omega) b3 b4 a1 a2 b1 b2
      exact chances_c an ad bn bd _ _ _ _ _ _ _ _ _ _ w hK hX hY hZ hU hV hW hA hB hC

theorem oddsChances_own : ownKnob Try.prog.godebug = none := by kernel_rfl
theorem oddsChances_laidOut : laidOutB Try.prog = true := by kernel_rfl

set_option maxRecDepth 100000 in
theorem oddsChances_lifted (os : Os) (started : os.Started) (H : Type) (enc : TypeId × Value → H) :
    ReturnsInHanded {} Try.checked os 3 .any (Rows.oddsChancesSpec.pre6 enc Try.prog Try.f3 Rows.oddsChancesRow.domain false) (Rows.oddsChancesSpec.post enc Try.prog Try.f3 false true false false) := by
  refine returnsInHanded_of_change (C := Try.checked) oddsChances_own started (by kernel_rfl) Try.func3
    (ChangeSpec.witness6 (enc := enc) (C := Try.checked) false ⟨#[], #[.agg #[.int .i64 0, .int .i64 0], .agg #[.int .i64 0, .int .i64 0]], []⟩ 8 (by kernel_rfl) (by kernel_rfl) (by kernel_rfl) (by kernel_rfl)) ?_
  intro W base args ds gs before hval0 hW hcnd _
  have hval : ∀ (j : Nat) t v, Try.f3.params[j]? = some t → args[j]? = some v → Value.okWide Try.prog W .any base t v := hval0
  have hW' := hW
  obtain ⟨p, q, hA0, hV, rfl, hfz, hnd⟩ := hW
  have hA : DataW.TrodAll enc Try.prog W 0 (fun _ => true) true Try.f3.params.toList args.toList ds p := hA0
  rw [Try.params3] at hA hval
  obtain ⟨v0, v1, d0, d1, p0, p1, rfl, rfl, rfl, h0, h1⟩ := trodAll_two hA
  obtain ⟨rfl, rfl⟩ := trodVars_none hV
  have lt0 : ∀ x ∈ p0, x.block < W.heap.size := by obtain ⟨m, hm⟩ := h0; exact DataW.trod_lt m _ _ _ hm
  have lt1 : ∀ x ∈ p1, x.block < W.heap.size := by obtain ⟨m, hm⟩ := h1; exact DataW.trod_lt m _ _ _ hm
  have k0 := h0
  have k1 := h1
  obtain ⟨an, ad, rfl⟩ := open_chance (hval 0 23 v0 rfl rfl) h0
  obtain ⟨bn, bd, rfl⟩ := open_chance (hval 1 23 v1 rfl rfl) h1
  clear hA0 hval0 h0 h1
  refine (oddsChances_walk an ad bn bd W).mono fun e W' ⟨he, bel⟩ => ?_
  subst he
  exact ⟨_, rfl, _, _, _, [], _, [], hW', trodAll_mk1 (shut_bool Try.underlying4 _), (trodAll_cons_mk (Below.trod oddsChances_laidOut (by kernel_rfl) (of_decide_eq_true (by kernel_rfl)) k0 bel lt0) (trodAll_cons_mk (Below.trod oddsChances_laidOut (by kernel_rfl) (of_decide_eq_true (by kernel_rfl)) k1 bel lt1) trodAll_mk0)), rfl, bel.frame _, fun h => by cases h⟩

theorem oddsChances_holds : Rows.OddsChancesSaid :=
  OpenClaim.holds_of_wide 3 Try.f3 rfl rfl rfl rfl rfl rfl rfl ⟨rfl, rfl, rfl, rfl, rfl⟩ rfl rfl rfl rfl rfl (by kernel_rfl) Try.func3 (by kernel_rfl)
    (of_decide_eq_true (by kernel_rfl)) (by unfold Func.isWrapper; first | (rw [if_pos (by decide +kernel)]; kernel_rfl) | (rw [if_neg (by decide +kernel)]; exact ⟨rfl, rfl⟩))
    (fun os started H enc _ => oddsChances_lifted os started H enc)
end Go.Proofs.Ytnpnnfbmnlgioaa
