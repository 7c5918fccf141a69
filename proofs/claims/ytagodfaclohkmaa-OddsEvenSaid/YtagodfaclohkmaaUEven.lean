/-
  OddsEven: for any three bytes, the function returns true. Nothing is asked of the input.
-/
import Derived.Test.YtagodfaclohkmaaVr
import Derived.WalkKit
import Derived.ProofKit
import Derived.OpenShut
import Derived.ChangeOld
import Derived.Below
namespace Go.Proofs.Ytagodfaclohkmaa
open Go.ChangeShapes Go.WideShapes Go.ChangeAt Go.RowKit
set_option linter.unusedVariables false

theorem pow_bd {s n : Nat} (hs : s ≤ 6) (hn : n ≤ 5) : s ^ n ≤ 7776 :=
  Nat.le_trans (Nat.pow_le_pow_left hs n) (Nat.le_trans (Nat.pow_le_pow_right (by omega) hn) (by decide))

theorem oddsEven_all (x y z : Int) (w : World) (hx : 0 ≤ x) (hx2 : x ≤ 255) (hy : 0 ≤ y) (hy2 : y ≤ 255) (hz : 0 ≤ z) (hz2 : z ≤ 255) :
    Calls Try.prog 12 #[.int .u8 x, .int .u8 y, .int .u8 z] w fun e w' => e = .returned (.bool true) ∧ Below w.heap.size w w' := by
  obtain ⟨s, hs⟩ : ∃ s : Nat, 2 + x % 5 = (s : Int) := ⟨(2 + x % 5).toNat, by omega⟩
  obtain ⟨b, hb⟩ : ∃ s : Nat, 1 + y % 12 = (s : Int) := ⟨(1 + y % 12).toNat, by omega⟩
  obtain ⟨n, hn⟩ : ∃ s : Nat, z % 6 = (s : Int) := ⟨(z % 6).toNat, by omega⟩
  exact oddsEven_walk x y z w hx hx2 hy hy2 hz hz2 s b n (s ^ n) hs hb hn (by omega) (by omega) (by omega) (by omega) (by omega) (Lib.hid rfl) (Lib.hid fun k hk => pow_bd (by omega) (by omega)) (pow_bd (by omega) (by omega))

theorem oddsEven_own : ownKnob Try.prog.godebug = none := by kernel_rfl
theorem oddsEven_laidOut : laidOutB Try.prog = true := by kernel_rfl

set_option maxRecDepth 100000 in
theorem oddsEven_lifted (os : Os) (started : os.Started) (H : Type) (enc : TypeId × Value → H) :
    ReturnsInHanded {} Try.checked os 12 .any (Rows.oddsEvenSpec.pre6 enc Try.prog Try.f12 Rows.oddsEvenRow.domain false) (Rows.oddsEvenSpec.post enc Try.prog Try.f12 false true false false) := by
  refine returnsInHanded_of_change (C := Try.checked) oddsEven_own started (by kernel_rfl) Try.func12
    (ChangeSpec.witness6 (enc := enc) (C := Try.checked) false ⟨#[], #[.int .u8 0, .int .u8 0, .int .u8 0], []⟩ 8 (by kernel_rfl) (by kernel_rfl) (by kernel_rfl) (by kernel_rfl)) ?_
  intro W base args ds gs before hval0 hW hcnd _
  have hval : ∀ (j : Nat) t v, Try.f12.params[j]? = some t → args[j]? = some v → Value.okWide Try.prog W .any base t v := hval0
  have hW' := hW
  obtain ⟨p, q, hA0, hV, rfl, hfz, hnd⟩ := hW
  have hA : DataW.TrodAll enc Try.prog W 0 (fun _ => true) true Try.f12.params.toList args.toList ds p := hA0
  rw [Try.params12] at hA hval
  obtain ⟨v0, v1, v2, d0, d1, d2, p0, p1, p2, rfl, rfl, rfl, h0, h1, h2⟩ := trodAll_three hA
  obtain ⟨rfl, rfl⟩ := trodVars_none hV
  obtain ⟨a0, rfl, rfl, rfl, w0⟩ := open_int Try.underlying5 (hval 0 5 v0 rfl rfl) h0
  obtain ⟨a1, rfl, rfl, rfl, w1⟩ := open_int Try.underlying5 (hval 1 5 v1 rfl rfl) h1
  obtain ⟨a2, rfl, rfl, rfl, w2⟩ := open_int Try.underlying5 (hval 2 5 v2 rfl rfl) h2
  have hbd : ∀ a : Int, (Lit.int .u8 a).wf = true → 0 ≤ a ∧ a ≤ 255 := fun a h => by
    simp [Lit.wf, IntKind.min, IntKind.max, IntKind.signed, IntKind.bits] at h
    omega
  clear hA0 hval0
  refine (oddsEven_all a0 a1 a2 W (hbd _ w0).1 (hbd _ w0).2 (hbd _ w1).1 (hbd _ w1).2 (hbd _ w2).1 (hbd _ w2).2).mono fun e W' ⟨he, bel⟩ => ?_
  subst he
  exact ⟨_, rfl, _, _, _, [], _, [], hW', trodAll_mk1 (shut_bool Try.underlying4 _), (trodAll_cons_mk (shut_int Try.underlying5 w0) (trodAll_cons_mk (shut_int Try.underlying5 w1) (trodAll_cons_mk (shut_int Try.underlying5 w2) trodAll_mk0))), rfl, bel.frame _, fun h => by cases h⟩

theorem oddsEven_holds : Rows.OddsEvenSaid :=
  OpenClaim.holds_of_wide 12 Try.f12 rfl rfl rfl rfl rfl rfl rfl ⟨rfl, rfl, rfl, rfl, rfl⟩ rfl rfl rfl rfl rfl (by kernel_rfl) Try.func12 (by kernel_rfl)
    (of_decide_eq_true (by kernel_rfl)) (by unfold Func.isWrapper; first | (rw [if_pos (by decide +kernel)]; kernel_rfl) | (rw [if_neg (by decide +kernel)]; exact ⟨rfl, rfl⟩))
    (fun os started H enc _ => oddsEven_lifted os started H enc)
end Go.Proofs.Ytagodfaclohkmaa
