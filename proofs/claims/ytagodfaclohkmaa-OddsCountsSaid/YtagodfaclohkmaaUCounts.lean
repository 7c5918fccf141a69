/-
  OddsCounts: for any list and any two bytes, the function returns true and leaves the list as it is. Nothing is asked of the input.
-/
import Derived.Test.YtagodfaclohkmaaVx
import Derived.Test.YtagodfaclohkmaaVs
import Derived.WalkKit
import Derived.ProofKit
import Derived.OpenShut
import Derived.ChangeOld
import Derived.Below
namespace Go.Proofs.Ytagodfaclohkmaa
open Go.ChangeShapes Go.WideShapes Go.ChangeAt Go.RowKit
set_option linter.unusedVariables false

theorem both_at {pn pd qn qd A N : Nat} (h1 : 0 < pd) (h2 : 0 < qd) (h3 : pn ≤ pd) (h4 : qn ≤ qd) (h5 : pd ≤ 1000000) (h6 : qd ≤ 1000000) (h7 : Nat.gcd pn pd = 1) (h8 : Nat.gcd qn qd = 1) (h9 : pn / Nat.gcd pn qd * (qn / Nat.gcd qn pd) = A) (h10 : qd / Nat.gcd pn qd * (pd / Nat.gcd qn pd) = N) (w : World) :
    Calls Try.prog 34 #[.agg #[.int .i64 (pn : Int), .int .i64 (pd : Int)], .agg #[.int .i64 (qn : Int), .int .i64 (qd : Int)]] w fun e w' => e = .returned (.tuple #[.agg #[.int .i64 (A : Int), .int .i64 (N : Int)], .int .i64 0]) ∧ Below w.heap.size w w' := by
  obtain ⟨l1, l2⟩ := low_nat pn qd
  obtain ⟨m1, m2⟩ := low_nat qn pd
  have d1 : qd / Nat.gcd pn qd ≤ qd := Nat.div_le_self _ _
  have d2 : pd / Nat.gcd qn pd ≤ pd := Nat.div_le_self _ _
  have g2 : 0 < Nat.gcd qn pd := Nat.gcd_pos_of_pos_right _ h1
  have e2 : Nat.gcd qn pd * (pd / Nat.gcd qn pd) = pd := Nat.mul_div_cancel' (Nat.gcd_dvd_right _ _)
  have p2 : 0 < pd / Nat.gcd qn pd := Nat.pos_of_ne_zero fun h => by rw [h] at e2; omega
  have hle : ((qd / Nat.gcd pn qd : Nat) : Int) ≤ 1000000000000000 / ((pd / Nat.gcd qn pd : Nat) : Int) := (le_div (by omega)).2 (by
    have := Nat.mul_le_mul (Nat.le_trans d1 h6) (Nat.le_trans d2 h5)
    rw [← Int.natCast_mul]
    omega)
  have h := both_ok (pn : Int) (pd : Int) (qn : Int) (qd : Int) w (badC_nat h1 (by omega) h3 h7) (badC_nat h2 (by omega) h4 h8) _ _ _ _ l1.symm l2.symm m1.symm m2.symm hle
  rw [← Int.natCast_mul, ← Int.natCast_mul, h9, h10] at h
  exact h

theorem oddsCounts_all (p : Option Addr) (xs : List Int) (c : Nat) (x y : Int) (w : World) (hx : 0 ≤ x) (hx2 : x ≤ 255) (hy : 0 ≤ y) (hy2 : y ≤ 255) (hC : Came w p xs c) :
    Calls Try.prog 10 #[.slice p xs.length c, .agg #[.int .u8 x, .int .u8 y]] w fun e w' => e = .returned (.bool true) ∧ Below w.heap.size w w' := by
  by_cases hl : 40 < xs.length
  · exact oddsCounts_long p xs c x y w hl
  · by_cases hbig : ∃ k, k < xs.length ∧ 200 < nth xs k
    · exact oddsCounts_big p xs c x y w (by omega) hbig hC
    · have hsm : ∀ k, k < xs.length → nth xs k ≤ 200 := fun k hk => by
        by_cases h : nth xs k ≤ 200
        · exact h
        · exact absurd ⟨k, hk, by omega⟩ hbig
      by_cases h0 : chk1 xs = 0
      · obtain ⟨a1, a2, a3, a4⟩ := chk1_ok h0
        have hl1 := len_pos a3
        have hn8 : lsum xs ≤ 8000 := by
          have H : ∀ k, k ≤ xs.length → psum xs k ≤ 200 * k := fun k => by
            induction k with
            | zero => intro _; rw [psum_zero]; omega
            | succ k ih => intro hk; rw [psum_succ (by omega)]; have := ih (by omega); have := hsm k (by omega); omega
          have := H xs.length (Nat.le_refl _)
          rw [psum_all] at this
          omega
        obtain ⟨a, ha⟩ : ∃ a : Nat, x % (xs.length : Int) = (a : Int) := ⟨(x % (xs.length : Int)).toNat, by have := Int.emod_nonneg x (show (xs.length : Int) ≠ 0 by omega); omega⟩
        obtain ⟨b, hb⟩ : ∃ a : Nat, y % (xs.length : Int) = (a : Int) := ⟨(y % (xs.length : Int)).toNat, by have := Int.emod_nonneg y (show (xs.length : Int) ≠ 0 by omega); omega⟩
        have ha2 : a < xs.length := by have := Int.emod_lt_of_pos x (show 0 < (xs.length : Int) by omega); omega
        have hb2 : b < xs.length := by have := Int.emod_lt_of_pos y (show 0 < (xs.length : Int) by omega); omega
        obtain ⟨n, hn⟩ := Int.eq_ofNat_of_zero_le (show 0 ≤ lsum xs by omega)
        obtain ⟨A, N, c1, c2, c3, c4, c5, c6, c7⟩ := chances_of h0 ha2 (by omega)
        obtain ⟨os, hos⟩ : ∃ os : List Int, os = if a = b then [(a : Int)] else [((min a b : Nat) : Int), ((max a b : Nat) : Int)] := ⟨_, rfl⟩
        obtain ⟨S, f1, f2, f3, f4, f5, f6⟩ := counts_facts h0 ha2 hb2 hos
        refine oddsCounts_main p xs c x y w hx hx2 hy hy2 (by omega) h0 hsm hC n a b hn (by omega) hl1 ha hb ha2 hb2 A N c5 c6 os hos ?_ (fun w => either_one c1 c2 c3 c4 w)
        by_cases hS : S = 0
        · left
          refine ⟨?_, f5 hS⟩
          unfold sGiven
          have hc : chkS xs os = 0 := by unfold chkS; rw [if_neg (by simpa using h0), if_pos f1]
          rw [if_neg (by simpa using hc), if_pos (by rw [f2]; exact hS)]
        · right
          obtain ⟨pn, pd, qn, qd, g1, g2, g3, g4, g5, g6, g7, g8, g9, g10, g11, g12⟩ := c7 os f1 (by omega) f6
          obtain ⟨v1, v2⟩ := only_valid h0 f1 (by omega)
          refine ⟨onlyL xs os, pn, pd, qn, qd, ?_, v2, (chk1_ok v1).2.1, g9, g10, fun w => both_at g1 g2 g3 g4 g5 g6 g7 g8 g11 g12 w⟩
          unfold sGiven
          have hc : chkS xs os = 0 := by unfold chkS; rw [if_neg (by simpa using h0), if_pos f1]
          rw [if_neg (by simpa using hc), if_neg (by rw [f2]; exact hS)]
      · exact oddsCounts_err p xs c x y w (by omega) h0 hsm hC

theorem oddsCounts_own : ownKnob Try.prog.godebug = none := by kernel_rfl
theorem oddsCounts_laidOut : laidOutB Try.prog = true := by kernel_rfl

set_option maxRecDepth 100000 in
theorem oddsCounts_lifted (os : Os) (started : os.Started) (H : Type) (enc : TypeId × Value → H) :
    ReturnsInHanded {} Try.checked os 10 .any (Rows.oddsCountsSpec.pre6 enc Try.prog Try.f10 Rows.oddsCountsRow.domain false) (Rows.oddsCountsSpec.post enc Try.prog Try.f10 false true false false) := by
  refine returnsInHanded_of_change (C := Try.checked) oddsCounts_own started (by kernel_rfl) Try.func10
    (ChangeSpec.witness6 (enc := enc) (C := Try.checked) false ⟨#[], #[.slice none 0 0, .agg #[.int .u8 0, .int .u8 0]], []⟩ 8 (by kernel_rfl) (by kernel_rfl) (by kernel_rfl) (by kernel_rfl)) ?_
  intro W base args ds gs before hval0 hW hcnd _
  have hval : ∀ (j : Nat) t v, Try.f10.params[j]? = some t → args[j]? = some v → Value.okWide Try.prog W .any base t v := hval0
  have hW' := hW
  obtain ⟨p, q, hA0, hV, rfl, hfz, hnd⟩ := hW
  have hA : DataW.TrodAll enc Try.prog W 0 (fun _ => true) true Try.f10.params.toList args.toList ds p := hA0
  rw [Try.params10] at hA hval
  obtain ⟨v0, v1, d0, d1, p0, p1, rfl, rfl, rfl, h0, h1⟩ := trodAll_two hA
  obtain ⟨rfl, rfl⟩ := trodVars_none hV
  have lt0 : ∀ x ∈ p0, x.block < W.heap.size := by obtain ⟨m, hm⟩ := h0; exact DataW.trod_lt m _ _ _ hm
  have lt1 : ∀ x ∈ p1, x.block < W.heap.size := by obtain ⟨m, hm⟩ := h1; exact DataW.trod_lt m _ _ _ hm
  obtain ⟨a0, xs0, c0, rfl, hC0, _⟩ := came_open (hval 0 22 v0 rfl rfl) h0
  have k1 := h1
  obtain ⟨x, y, rfl, hx, hx2, hy, hy2⟩ := open_pair8 (hval 1 60 v1 rfl rfl) h1
  clear hA0 hval0 h1
  refine (oddsCounts_all a0 xs0 c0 x y W hx hx2 hy hy2 hC0).mono fun e W' ⟨he, bel⟩ => ?_
  subst he
  exact ⟨_, rfl, _, _, _, [], _, [], hW', trodAll_mk1 (shut_bool Try.underlying4 _), (trodAll_cons_mk (Below.trod oddsCounts_laidOut (by kernel_rfl) (of_decide_eq_true (by kernel_rfl)) h0 bel lt0) (trodAll_cons_mk (Below.trod oddsCounts_laidOut (by kernel_rfl) (of_decide_eq_true (by kernel_rfl)) k1 bel lt1) trodAll_mk0)), rfl, bel.frame _, fun h => by cases h⟩

theorem oddsCounts_holds : Rows.OddsCountsSaid :=
  OpenClaim.holds_of_wide 10 Try.f10 rfl rfl rfl rfl rfl rfl rfl ⟨rfl, rfl, rfl, rfl, rfl⟩ rfl rfl rfl rfl rfl (by kernel_rfl) Try.func10 (by kernel_rfl)
    (of_decide_eq_true (by kernel_rfl)) (by unfold Func.isWrapper; first | (rw [if_pos (by decide +kernel)]; kernel_rfl) | (rw [if_neg (by decide +kernel)]; exact ⟨rfl, rfl⟩))
    (fun os started H enc _ => oddsCounts_lifted os started H enc)
end Go.Proofs.Ytagodfaclohkmaa
