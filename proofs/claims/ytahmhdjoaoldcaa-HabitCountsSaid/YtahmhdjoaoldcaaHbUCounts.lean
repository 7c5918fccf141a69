/-
  HabitCounts: for every register, every number of outcomes and every floor, the function returns true and leaves the register as it is. Nothing is asked of the input.
-/
import Derived.Test.YtahmhdjoaoldcaaHbN
import Derived.WalkKit
import Derived.ProofKit
import Derived.OpenShut
import Derived.ChangeOld
import Derived.Below
namespace Go.Proofs.Ytahmhdjoaoldcaa
open Go.ChangeShapes Go.WideShapes Go.ChangeAt Go.RowKit
set_option linter.unusedVariables false

theorem counts_walk (p : Option Addr) (xs : List Int) (c : Nat) (N a : Int) (w : World) (hC : Came w p xs c) (hnc : xs.length ≤ c) :
    Calls Try.prog 3 #[.slice p xs.length c, .int .i64 N, .int .i64 a] w fun e w' => e = .returned (.bool true) ∧ Below w.heap.size w w' := by
  obtain ⟨n, hx⟩ : ∃ n, xs.length = n := ⟨_, rfl⟩
  rw [hx] at hnc ⊢
  have hx' := Lib.hid hx
  by_cases h1 : 410 < n
  · exact counts_long p n c h1 N a w
  · by_cases hN : outB 1 32 N = true
    · by_cases h2 : n ≤ 400
      · exact counts_sN p xs n c hx' h2 hnc N (Lib.hid hN) a w hC
      · exact counts_lN p xs n c hx' ⟨by omega, by omega⟩ hnc N (Lib.hid hN) a w hC
    · have hN' : 1 ≤ N ∧ N ≤ 32 := by
        have : ¬ (N < 1 ∨ 32 < N) := by simpa [outB] using hN
        omega
      obtain ⟨M, rfl⟩ : ∃ M : Nat, N = (M : Int) := ⟨N.toNat, by omega⟩
      have hM1 : 1 ≤ M := by omega
      have hM2 : M ≤ 32 := by omega
      clear hN hN'
      obtain ⟨E, hE⟩ : ∃ E, regE xs M = E := ⟨_, rfl⟩
      by_cases hA : outB 1 400 a = true
      · by_cases hE0 : E = 0
        · subst hE0
          by_cases h2 : n ≤ 400
          · exact counts_sa0 p xs n c hx' h2 hnc M hM1 hM2 a (Lib.hid hA) (Lib.hid hE) w hC
          · exfalso
            unfold regE at hE
            rw [hx, if_pos (by omega)] at hE
            omega
        · by_cases h2 : n ≤ 400
          · exact counts_sae p xs n c hx' h2 hnc M hM1 hM2 a (Lib.hid hA) E (Lib.hid hE) hE0 w hC
          · exact counts_lae p xs n c hx' ⟨by omega, by omega⟩ hnc M hM1 hM2 a (Lib.hid hA) E (Lib.hid hE) hE0 w hC
      · have hA' : 1 ≤ a ∧ a ≤ 400 := by
          have : ¬ (a < 1 ∨ 400 < a) := by simpa [outB] using hA
          omega
        obtain ⟨b, rfl⟩ : ∃ b : Nat, a = (b : Int) := ⟨a.toNat, by omega⟩
        have hb1 : 1 ≤ b := by omega
        have hb2 : b ≤ 400 := by omega
        clear hA hA'
        by_cases hE0 : E = 0
        · subst hE0
          by_cases h2 : n ≤ 400
          · exact counts_sv0 p xs n c hx' h2 hnc M hM1 hM2 b hb1 hb2 (Lib.hid hE) w hC
          · exfalso
            unfold regE at hE
            rw [hx, if_pos (by omega)] at hE
            omega
        · by_cases h2 : n ≤ 400
          · exact counts_sve p xs n c hx' h2 hnc M hM1 hM2 b hb1 hb2 E (Lib.hid hE) hE0 w hC
          · exact counts_lve p xs n c hx' ⟨by omega, by omega⟩ hnc M hM1 hM2 b hb1 hb2 E (Lib.hid hE) hE0 w hC

theorem habitCounts_own : ownKnob Try.prog.godebug = none := by kernel_rfl
theorem habitCounts_laidOut : laidOutB Try.prog = true := by kernel_rfl

set_option maxRecDepth 100000 in
theorem habitCounts_lifted (os : Os) (started : os.Started) (H : Type) (enc : TypeId × Value → H) :
    ReturnsInHanded {} Try.checked os 3 .any (Rows.habitCountsSpec.pre6 enc Try.prog Try.f3 Rows.habitCountsRow.domain false) (Rows.habitCountsSpec.post enc Try.prog Try.f3 false true false false) := by
  refine returnsInHanded_of_change (C := Try.checked) habitCounts_own started (by kernel_rfl) Try.func3
    (ChangeSpec.witness6 (enc := enc) (C := Try.checked) false ⟨#[], #[.slice none 0 0, .int .i64 0, .int .i64 0], []⟩ 8 (by kernel_rfl) (by kernel_rfl) (by kernel_rfl) (by kernel_rfl)) ?_
  intro W base args ds gs before hval0 hW hcnd _
  have hval : ∀ (j : Nat) t v, Try.f3.params[j]? = some t → args[j]? = some v → Value.okWide Try.prog W .any base t v := hval0
  have hW' := hW
  obtain ⟨p, q, hA0, hV, rfl, hfz, hnd⟩ := hW
  have hA : DataW.TrodAll enc Try.prog W 0 (fun _ => true) true Try.f3.params.toList args.toList ds p := hA0
  rw [Try.params3] at hA hval
  obtain ⟨v0, v1, v2, d0, d1, d2, p0, p1, p2, rfl, rfl, rfl, h0, h1, h2⟩ := trodAll_three hA
  obtain ⟨rfl, rfl⟩ := trodVars_none hV
  have lt0 : ∀ x ∈ p0, x.block < W.heap.size := by obtain ⟨m, hm⟩ := h0; exact DataW.trod_lt m _ _ _ hm
  obtain ⟨a0, xs0, c0, rfl, hC0, hc0⟩ := came_openI (hval 0 22 v0 rfl rfl) h0
  obtain ⟨a1, rfl, rfl, rfl, w1⟩ := open_int Try.underlying3 (hval 1 3 v1 rfl rfl) h1
  obtain ⟨a2, rfl, rfl, rfl, w2⟩ := open_int Try.underlying3 (hval 2 3 v2 rfl rfl) h2
  clear hA0 hval0
  refine (counts_walk a0 xs0 c0 a1 a2 W hC0 hc0).mono fun e W' ⟨he, bel⟩ => ?_
  subst he
  exact ⟨_, rfl, _, _, _, [], _, [], hW', trodAll_mk1 (shut_bool Try.underlying4 _), (trodAll_cons_mk (Below.trod habitCounts_laidOut (by kernel_rfl) (of_decide_eq_true (by kernel_rfl)) h0 bel lt0) (trodAll_cons_mk (shut_int Try.underlying3 w1) (trodAll_cons_mk (shut_int Try.underlying3 w2) trodAll_mk0))), rfl, bel.frame _, fun h => by cases h⟩

theorem habitCounts_holds : Rows.HabitCountsSaid :=
  OpenClaim.holds_of_wide 3 Try.f3 rfl rfl rfl rfl rfl rfl rfl ⟨rfl, rfl, rfl, rfl, rfl⟩ rfl rfl rfl rfl rfl (by kernel_rfl) Try.func3 (by kernel_rfl)
    (of_decide_eq_true (by kernel_rfl)) (by unfold Func.isWrapper; first | (rw [if_pos (by decide +kernel)]; kernel_rfl) | (rw [if_neg (by decide +kernel)]; exact ⟨rfl, rfl⟩))
    (fun os started H enc _ => habitCounts_lifted os started H enc)
end Go.Proofs.Ytahmhdjoaoldcaa
