/-
  ShieldPath: the walk of the law.
-/
import Derived.Test.YtojlopfjhhiilaaDoorShM
import Derived.Test.YtojlopfjhhiilaaDoorShK
namespace Go.Proofs.YtojlopfjhhiilaaDoor
open Go Go.RowKit
set_option linter.unusedVariables false

theorem moth_nibs (n : Int) (h0 : 0 ≤ n) (h1 : n ≤ 65535) (w : World) : Calls Tryd.prog 28 #[.int .i64 n] w fun e w' => e = .returned (.tuple #[.agg (arr (nibs n)), .int .i64 0]) ∧ Below w.heap.size w w' := by
  have := mothers_any n w
  have ho : outB 0 65535 n = false := by simp [outB]; omega
  rwa [show mothV n = nibs n by unfold mothV; rw [ho]; rfl, show mothE n = 0 by unfold mothE; rw [ho]; rfl] at this
theorem derive_good (m : List Int) (hl : m.length = 4) (hm : ∀ k, k < 4 → Fig (nth m k)) (w : World) (hp : Par w) : Calls Tryd.prog 29 #[.agg (arr m)] w fun e w' => e = .returned (.tuple #[.agg (arr (dP m 16)), .int .i64 0]) ∧ Below w.heap.size w w' := by
  obtain ⟨a, b, c, d, rfl⟩ := four hl
  have := derive_any a b c d w hp
  rwa [show deriveV [a, b, c, d] = dP [a, b, c, d] 16 by unfold deriveV; rw [if_pos (chkF_moth rfl hm)], chkF_moth rfl hm] at this

theorem nx_bit {S : List Int} {k : Int} (hF : Figs S) (k0 : 0 ≤ k) (k3 : k ≤ 3) (hX : ∀ p, 4 ≤ p → p < 16 → nth S p = followF S p) {p : Nat} (h8 : 8 ≤ p) (h16 : p < 15) (hb : bitB (nth S p) k = true) :
    bitB (nth S (nx S k p)) k = true ∧ bitB (nth S (parA p + parB p - nx S k p)) k = false := by
  have h1 := hX p (by omega) (by omega)
  have h2 := parAB_lt' h8 (show p < 16 by omega)
  have h3 : followF S p = xorF (nth S (parA p)) (nth S (parB p)) := by unfold followF; rw [if_neg (by omega)]
  rw [h1, h3, xor_bit _ _ k (hF _ (by omega)) (hF _ (by omega)) k0 k3] at hb
  unfold nx
  cases ha : bitB (nth S (parA p)) k <;> cases hbb : bitB (nth S (parB p)) k <;> simp [ha, hbb] at hb ⊢
  all_goals (first | rw [hbb] | rw [Nat.add_sub_cancel_left, hbb])
theorem plc_bit {S : List Int} {k : Int} (hF : Figs S) (k0 : 0 ≤ k) (k3 : k ≤ 3) (hX : ∀ p, 4 ≤ p → p < 16 → nth S p = followF S p) (hb : bitB (nth S 14) k = true) {j : Nat} (hj : j ≤ 3) : bitB (nth S (plc S k j)) k = true := by
  induction j with
  | zero => exact hb
  | succ j ih =>
    have hc := plc_cases S k (show j < 3 by omega)
    exact (nx_bit hF k0 k3 hX (by omega) (by omega) (ih (by omega))).1
theorem plc_other {S : List Int} {k : Int} (hF : Figs S) (k0 : 0 ≤ k) (k3 : k ≤ 3) (hX : ∀ p, 4 ≤ p → p < 16 → nth S p = followF S p) (hb : bitB (nth S 14) k = true) {j : Nat} (hj : j < 3) : bitB (nth S (parA (plc S k j) + parB (plc S k j) - plc S k (j + 1))) k = false := by
  have hc := plc_cases S k hj
  exact (nx_bit hF k0 k3 hX (by omega) (by omega) (plc_bit hF k0 k3 hX hb (by omega))).2

end Go.Proofs.YtojlopfjhhiilaaDoor
