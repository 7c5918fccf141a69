/-
  OddsAllCases: for every list of cases, every list of lists, every outcome and map, the function returns true and leaves them as they are. Nothing is asked of the input.
-/
import Derived.Test.YtnpnnfbmnlgioaaGe
import Derived.WalkKit
import Derived.ProofKit
import Derived.OpenShut
import Derived.ChangeOld
import Derived.ChangeSame
import Derived.Below
namespace Go.Proofs.Ytnpnnfbmnlgioaa
open Go.ChangeShapes Go.WideShapes Go.ChangeAt Go.RowKit
set_option linter.unusedVariables false

theorem cells_mapped : Try.prog.cellsOf 37 = 2 := by kernel_rfl
theorem cells_byte : Try.prog.cellsOf 5 = 1 := by kernel_rfl
theorem cells_listI : Try.prog.cellsOf 34 = 1 := by kernel_rfl
set_option maxRecDepth 100000 in
/-- A struct of a byte and a list of ints that came in, opened. -/
theorem open_mapped {H : Type} {enc : TypeId × Value → H} {W : World} {v : Value} {d : DataW H} {ps : List MemPlace} {j : Nat} (hv : Value.okWide Try.prog W .any j 37 v) (h : DataW.Trod enc Try.prog W 0 (fun _ => true) true 37 v d ps) :
    ∃ (x : Int) (p : Option Addr) (xs : List Int) (c : Nat), v = .agg #[.int .u8 x, .slice p xs.length c] ∧ 0 ≤ x ∧ x ≤ 255 ∧ Came W p xs c := by
  obtain ⟨cs, rfl, h2⟩ := Go.WideShapes.okWide_struct Try.underlying37 hv
  rw [cells_mapped] at h2
  obtain ⟨c0, c1, rfl⟩ : ∃ c0 c1, cs = #[c0, c1] := by
    rcases cs with ⟨l⟩
    match l, h2 with
    | [a, b], _ => exact ⟨a, b, rfl⟩
  obtain ⟨fuel, hf⟩ := h
  obtain ⟨xs, n, _, _, _, hlen, hi⟩ := DataW.trod_struct Try.underlying37 hf
  have l2 : xs.length = 2 := hlen
  have e0 : DataW.trod enc Try.prog W 0 (fun _ => true) true n 5 (([c0, c1].drop 0).take (Try.prog.cellsOf 5)) = xs[0]? := hi 0 _ rfl
  have e1 : DataW.trod enc Try.prog W 0 (fun _ => true) true n 34 (([c0, c1].drop 1).take (Try.prog.cellsOf 34)) = xs[1]? := hi 1 _ rfl
  rw [cells_byte, List.getElem?_eq_getElem (by omega)] at e0
  rw [cells_listI, List.getElem?_eq_getElem (by omega)] at e1
  change DataW.trod enc Try.prog W 0 (fun _ => true) true n 5 [c0] = _ at e0
  change DataW.trod enc Try.prog W 0 (fun _ => true) true n 34 [c1] = _ at e1
  obtain ⟨x, g0, -, w0⟩ := DataW.trod_int Try.underlying5 e0
  obtain ⟨p, us, c, g1, hC⟩ := came_raw e1
  simp only [List.cons.injEq, and_true] at g0 g1
  subst g0 g1
  refine ⟨x, p, us, c, rfl, ?_, ?_, hC⟩ <;> (simp [Lit.wf, IntKind.min, IntKind.max, IntKind.signed, IntKind.bits] at w0; omega)

set_option maxRecDepth 100000 in
set_option maxHeartbeats 4000000 in
theorem ac_long0 (pa : Option Addr) (cs : List Int) (ca : Nat) (q : Option Addr) (ls : List (List Int)) (cl : Nat) (At : Int) (pt : Option Addr) (ts : List Int) (ct : Nat) (w : World)
    (h0 : decide (6 < (cs.length : Int)) = true) :
    Calls Try.prog 4 #[.slice pa cs.length ca, .slice q ls.length cl, .agg #[.int .u8 At, .slice pt ts.length ct]] w fun e w' => e = .returned (.bool true) ∧ Below w.heap.size w w' := by
  have D0 : Below w.heap.size w (w.alloc (.cells #[.int .u8 At, .slice pt ts.length ct] 37)) := below1 _ _
  have bx1 : (w.alloc (.cells #[.int .u8 At, .slice pt ts.length ct] 37)).cell? ⟨w.heap.size, 1, none⟩ = some (.slice pt ts.length ct) := by go_simp
  go_enter Try.func4, Try.ntmps4
  go_wp2_with fail
  go_call (known_any _) as e w1 ⟨rfl, hb⟩
  have D1 := tr D0 hb
  go_wp2
  go_ret
  exact ⟨rfl, D1⟩

set_option maxRecDepth 100000 in
set_option maxHeartbeats 4000000 in
theorem ac_long1 (pa : Option Addr) (cs : List Int) (ca : Nat) (q : Option Addr) (ls : List (List Int)) (cl : Nat) (At : Int) (pt : Option Addr) (ts : List Int) (ct : Nat) (w : World)
    (h0 : decide (6 < (cs.length : Int)) = false)
    (h1 : decide (6 < (ls.length : Int)) = true) :
    Calls Try.prog 4 #[.slice pa cs.length ca, .slice q ls.length cl, .agg #[.int .u8 At, .slice pt ts.length ct]] w fun e w' => e = .returned (.bool true) ∧ Below w.heap.size w w' := by
  have D0 : Below w.heap.size w (w.alloc (.cells #[.int .u8 At, .slice pt ts.length ct] 37)) := below1 _ _
  have bx1 : (w.alloc (.cells #[.int .u8 At, .slice pt ts.length ct] 37)).cell? ⟨w.heap.size, 1, none⟩ = some (.slice pt ts.length ct) := by go_simp
  go_enter Try.func4, Try.ntmps4
  go_wp2_with fail
  go_call (known_any _) as e w1 ⟨rfl, hb⟩
  have D1 := tr D0 hb
  go_wp2
  go_ret
  exact ⟨rfl, D1⟩

set_option maxRecDepth 100000 in
set_option maxHeartbeats 4000000 in
theorem ac_long2 (pa : Option Addr) (cs : List Int) (ca : Nat) (q : Option Addr) (ls : List (List Int)) (cl : Nat) (At : Int) (pt : Option Addr) (ts : List Int) (ct : Nat) (w : World)
    (h0 : decide (6 < (cs.length : Int)) = false)
    (h1 : decide (6 < (ls.length : Int)) = false)
    (h2 : decide (12 < (ts.length : Int)) = true) :
    Calls Try.prog 4 #[.slice pa cs.length ca, .slice q ls.length cl, .agg #[.int .u8 At, .slice pt ts.length ct]] w fun e w' => e = .returned (.bool true) ∧ Below w.heap.size w w' := by
  have D0 : Below w.heap.size w (w.alloc (.cells #[.int .u8 At, .slice pt ts.length ct] 37)) := below1 _ _
  have bx1 : (w.alloc (.cells #[.int .u8 At, .slice pt ts.length ct] 37)).cell? ⟨w.heap.size, 1, none⟩ = some (.slice pt ts.length ct) := by go_simp
  go_enter Try.func4, Try.ntmps4
  go_wp2_with fail
  go_call (known_any _) as e w1 ⟨rfl, hb⟩
  have D1 := tr D0 hb
  go_wp2
  go_ret
  exact ⟨rfl, D1⟩

theorem oddsAllCases_walk (pa : Option Addr) (cs : List Int) (ca : Nat) (q : Option Addr) (ls : List (List Int)) (cl : Nat) (At : Int) (pt : Option Addr) (ts : List Int) (ct : Nat) (w : World)
    (hCa : Came w pa cs ca) (hL : CameL w q ls) (hCt : Came w pt ts ct) (a0 : 0 ≤ At) (a1 : At ≤ 255) :
    Calls Try.prog 4 #[.slice pa cs.length ca, .slice q ls.length cl, .agg #[.int .u8 At, .slice pt ts.length ct]] w fun e w' => e = .returned (.bool true) ∧ Below w.heap.size w w' := by
  by_cases h0 : 6 < cs.length
  · exact ac_long0 pa cs ca q ls cl At pt ts ct w (by simp; omega)
  by_cases h1 : 6 < ls.length
  · exact ac_long1 pa cs ca q ls cl At pt ts ct w (by simp; omega) (by simp; omega)
  by_cases h2 : 12 < ts.length
  · exact ac_long2 pa cs ca q ls cl At pt ts ct w (by simp; omega) (by simp; omega) (by simp; omega)
  exact ac_main pa cs ca q ls cl At pt ts ct w hCa hL hCt (by omega) (by omega) (by omega) a0 a1

theorem oddsAllCases_own : ownKnob Try.prog.godebug = none := by kernel_rfl
theorem oddsAllCases_laidOut : laidOutB Try.prog = true := by kernel_rfl

set_option maxRecDepth 100000 in
theorem oddsAllCases_lifted (os : Os) (started : os.Started) (H : Type) (enc : TypeId × Value → H) :
    ReturnsInHanded {} Try.checked os 4 .any (Rows.oddsAllCasesSpec.pre6 enc Try.prog Try.f4 Rows.oddsAllCasesRow.domain false) (Rows.oddsAllCasesSpec.post enc Try.prog Try.f4 false true false false) := by
  refine returnsInHanded_of_change (C := Try.checked) oddsAllCases_own started (by kernel_rfl) Try.func4
    (ChangeSpec.witness6 (enc := enc) (C := Try.checked) false ⟨#[], #[.slice none 0 0, .slice none 0 0, .agg #[.int .u8 0, .slice none 0 0]], []⟩ 8 (by kernel_rfl) (by kernel_rfl) (by kernel_rfl) (by kernel_rfl)) ?_
  intro W base args ds gs before hval0 hW hcnd _
  have hval : ∀ (j : Nat) t v, Try.f4.params[j]? = some t → args[j]? = some v → Value.okWide Try.prog W .any base t v := hval0
  have hW' := hW
  obtain ⟨p, q, hA0, hV, rfl, hfz, hnd⟩ := hW
  have hA : DataW.TrodAll enc Try.prog W 0 (fun _ => true) true Try.f4.params.toList args.toList ds p := hA0
  rw [Try.params4] at hA hval
  obtain ⟨v0, v1, v2, d0, d1, d2, p0, p1, p2, rfl, rfl, rfl, h0, h1, h2⟩ := trodAll_three hA
  obtain ⟨rfl, rfl⟩ := trodVars_none hV
  have lt0 : ∀ x ∈ p0, x.block < W.heap.size := by obtain ⟨m, hm⟩ := h0; exact DataW.trod_lt m _ _ _ hm
  have lt1 : ∀ x ∈ p1, x.block < W.heap.size := by obtain ⟨m, hm⟩ := h1; exact DataW.trod_lt m _ _ _ hm
  have lt2 : ∀ x ∈ p2, x.block < W.heap.size := by obtain ⟨m, hm⟩ := h2; exact DataW.trod_lt m _ _ _ hm
  have k0 := h0
  have k1 := h1
  have k2 := h2
  obtain ⟨a0, xs0, c0, rfl, hC0, _⟩ := came_open (hval 0 34 v0 rfl rfl) h0
  obtain ⟨a1, xs1, c1, rfl, hC1⟩ := cameL_open (hval 1 35 v1 rfl rfl) h1
  obtain ⟨At, a2, xs2, c2, rfl, x0, x1, hC2⟩ := open_mapped (hval 2 37 v2 rfl rfl) h2
  clear hA0 hval0 h0 h1 h2
  refine (oddsAllCases_walk a0 xs0 c0 a1 xs1 c1 At a2 xs2 c2 W hC0 hC1 hC2 x0 x1).mono fun e W' ⟨he, bel⟩ => ?_
  subst he
  exact ⟨_, rfl, _, _, _, [], _, [], hW', trodAll_mk1 (shut_bool Try.underlying4 _), (trodAll_cons_mk (Below.trod oddsAllCases_laidOut (by kernel_rfl) (of_decide_eq_true (by kernel_rfl)) k0 bel lt0) (trodAll_cons_mk (Below.trod oddsAllCases_laidOut (by kernel_rfl) (of_decide_eq_true (by kernel_rfl)) k1 bel lt1) (trodAll_cons_mk (Below.trod oddsAllCases_laidOut (by kernel_rfl) (of_decide_eq_true (by kernel_rfl)) k2 bel lt2) trodAll_mk0))), rfl, bel.frame _, fun h => by cases h⟩

theorem oddsAllCases_holds : Rows.OddsAllCasesSaid :=
  OpenClaim.holds_of_wide 4 Try.f4 rfl rfl rfl rfl rfl rfl rfl ⟨rfl, rfl, rfl, rfl, rfl⟩ rfl rfl rfl rfl rfl (by kernel_rfl) Try.func4 (by kernel_rfl)
    (of_decide_eq_true (by kernel_rfl)) (by unfold Func.isWrapper; first | (rw [if_pos (by decide +kernel)]; kernel_rfl) | (rw [if_neg (by decide +kernel)]; exact ⟨rfl, rfl⟩))
    (fun os started H enc _ => oddsAllCases_lifted os started H enc)
end Go.Proofs.Ytnpnnfbmnlgioaa
