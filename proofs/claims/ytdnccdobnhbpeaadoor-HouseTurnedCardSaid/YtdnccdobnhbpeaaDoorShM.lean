/-
  Package shield: mothers and their numbers.
  Plain facts on charts: a derived chart follows everywhere, and its mothers are those it was derived of.
-/
import Derived.Test.YtdnccdobnhbpeaaDoorShE
import Derived.Test.YtdnccdobnhbpeaaDoorShH
import Derived.Laws.BitsLemmas
import Derived.Lib.EndianBits
namespace Go.Proofs.YtdnccdobnhbpeaaDoor
open Go Go.RowKit
set_option linter.unusedVariables false

theorem wraps_i64_62 (n : Int) (h₀ : 0 ≤ n) (h₁ : n < 2 ^ 62) : IntKind.i64.wrap n = n := by
  rw [IntWalk.i64_left]; exact IntWalk.wrap64_in _ (by omega)
theorem and_15 (x : Int) (h : 0 ≤ x) (h1 : x < 2 ^ 62) : bits .and .i64 x 15 = x % 16 :=
  bits_mask .i64 62 (by decide) wraps_i64_62 4 (by decide) x h h1
/-- The four figures of a number. -/
def nibs (n : Int) : List Int := [n / 4096 % 16, n / 256 % 16, n / 16 % 16, n % 16]
/-- The first k of them, and 0 behind. -/
def nibTo (n : Int) (k : Nat) : List Int := (nibs n).take k ++ List.replicate (4 - k) 0
/-- What Mothers returns. -/
def mothE (n : Int) : Int := if outB 0 65535 n = true then 3 else 0
def mothV (n : Int) : List Int := if outB 0 65535 n = true then [0, 0, 0, 0] else nibs n
theorem mothV_len (n : Int) : (mothV n).length = 4 := by unfold mothV; split <;> rfl
end Go.Proofs.YtdnccdobnhbpeaaDoor

namespace Go.Proofs.YtdnccdobnhbpeaaDoor
open Go Go.RowKit
set_option linter.unusedVariables false

theorem dTo_keep (m : List Int) (h : m.length = 4) (k : Nat) {j : Nat} (hj : j < 4 + k) : ∀ n, nth (dTo m (k + n)) j = nth (dTo m k) j := by
  intro n
  induction n with
  | zero => rfl
  | succ n ih =>
    rw [show k + (n + 1) = (k + n) + 1 by omega, dTo]
    by_cases hl : 4 + (k + n) < 16
    · rw [nth_set (by rw [dTo_length m h]; exact hl), if_neg (by omega), ih]
    · rw [List.set_eq_of_length_le (by rw [dTo_length m h]; omega), ih]
theorem dP_keep (m : List Int) (h : m.length = 4) {p j : Nat} (h4 : 4 ≤ p) (h16 : p ≤ 16) (hj : j < p) : nth (dP m 16) j = nth (dP m p) j := by
  have := dTo_keep m h (p - 4) (j := j) (by omega) (16 - p)
  unfold dP
  rw [← this]
  congr 2
  omega
theorem parAB_lt' {p : Nat} (h8 : 8 ≤ p) (h : p < 16) : parA p < p ∧ parB p < p := by
  have : p = 8 ∨ p = 9 ∨ p = 10 ∨ p = 11 ∨ p = 12 ∨ p = 13 ∨ p = 14 ∨ p = 15 := by omega
  rcases this with rfl | rfl | rfl | rfl | rfl | rfl | rfl | rfl <;> decide
theorem figTo_congr {g g' : Nat → Bool} {k : Nat} (h : ∀ i, i < k → g i = g' i) : figTo g k = figTo g' k := by
  induction k with
  | zero => rfl
  | succ k ih => rw [figTo, figTo, ih (fun i hi => h i (by omega)), h k (by omega)]
theorem followF_congr {s t : List Int} {p : Nat} (h4 : 4 ≤ p) (h16 : p < 16) (h : ∀ j, j < p → nth s j = nth t j) : followF s p = followF t p := by
  unfold followF
  split
  · exact figTo_congr fun i hi => by rw [h i (by omega)]
  · rw [h _ (parAB_lt' (by omega) h16).1, h _ (parAB_lt' (by omega) h16).2]
theorem dP_follow (m : List Int) (h : m.length = 4) {p : Nat} (h4 : 4 ≤ p) (h16 : p < 16) : nth (dP m 16) p = followF (dP m 16) p := by
  rw [dP_keep m h (p := p + 1) (by omega) (by omega) (by omega), dP_succ m h4, nth_set (by unfold dP; rw [dTo_length m h]; exact h16), if_pos rfl]
  exact followF_congr h4 h16 fun j hj => (dP_keep m h h4 (by omega) hj).symm
theorem dP_moth (m : List Int) (h : m.length = 4) {j : Nat} (hj : j < 4) : nth (dP m 16) j = nth m j := by
  rw [dP_keep m h (p := 4) (by omega) (by omega) hj]
  show nth (m ++ List.replicate 12 0) j = nth m j
  simp [nth, List.getElem?_append, h, hj]
theorem four {m : List Int} (h : m.length = 4) : ∃ a b c d, m = [a, b, c, d] := by
  match m, h with
  | [a, b, c, d], _ => exact ⟨a, b, c, d, rfl⟩
theorem moth_dP (m : List Int) (h : m.length = 4) : moth (dP m 16) = m := by
  obtain ⟨a, b, c, d, rfl⟩ := four h
  unfold moth
  rw [dP_moth _ rfl (j := 0) (by omega), dP_moth _ rfl (j := 1) (by omega), dP_moth _ rfl (j := 2) (by omega), dP_moth _ rfl (j := 3) (by omega)]
  rfl
theorem dP_len (m : List Int) (h : m.length = 4) : (dP m 16).length = 16 := dTo_length m h _
theorem dP_figs {m : List Int} (h : m.length = 4) (hm : ∀ k, k < 4 → Fig (nth m k)) : Figs (dP m 16) := dTo_figs h hm (by omega)
theorem chkF_figs {s : List Int} (h : s.length = 16) (hf : Figs s) : chkF s = 0 := chkF_of fun k hk => hf k (by omega)
theorem chkF_moth {m : List Int} (h : m.length = 4) (hm : ∀ k, k < 4 → Fig (nth m k)) : chkF m = 0 := chkF_of fun k hk => hm k (by omega)
theorem wrongTo_all {s : List Int} (h : ∀ p, 4 ≤ p → p < 16 → nth s p = followF s p) {k : Nat} (hk : k ≤ 16) : wrongTo s k = [] := by
  induction k with
  | zero => rfl
  | succ k ih =>
    rw [wrongTo, ih (by omega)]
    by_cases h4 : k < 4
    · rw [if_pos (.inl h4)]
    · rw [if_pos (.inr (h k (by omega) (by omega)))]
theorem wrong_dP {m : List Int} (h : m.length = 4) (hm : ∀ k, k < 4 → Fig (nth m k)) : wrongV (dP m 16) = [] := by
  unfold wrongV
  rw [if_pos (chkF_figs (dP_len m h) (dP_figs h hm))]
  exact wrongTo_all (fun p h4 h16 => dP_follow m h h4 h16) (Nat.le_refl _)
theorem nibs_figs {n : Int} (h0 : 0 ≤ n) (h1 : n ≤ 65535) : ∀ k, k < 4 → Fig (nth (nibs n) k) := fun k hk => by
  have e : k = 0 ∨ k = 1 ∨ k = 2 ∨ k = 3 := by omega
  rcases e with rfl | rfl | rfl | rfl
  · show Fig (n / 4096 % 16); exact ⟨by omega, by omega⟩
  · show Fig (n / 256 % 16); exact ⟨by omega, by omega⟩
  · show Fig (n / 16 % 16); exact ⟨by omega, by omega⟩
  · show Fig (n % 16); exact ⟨by omega, by omega⟩
/-- What decides a claim on small figures: all sixteen. -/
theorem figs1 {P : Int → Prop} (h : ∀ i : Fin 16, P (i.val : Int)) {x : Int} (hx : Fig x) : P x := by
  obtain ⟨a, b⟩ := hx
  obtain ⟨n, rfl⟩ := Int.eq_ofNat_of_zero_le a
  exact h ⟨n, by omega⟩
theorem lines1 {P : Int → Prop} (h : ∀ i : Fin 4, P (i.val : Int)) {x : Int} (h0 : 0 ≤ x) (h3 : x ≤ 3) : P x := by
  obtain ⟨n, rfl⟩ := Int.eq_ofNat_of_zero_le h0
  exact h ⟨n, by omega⟩
theorem bit_or (x y : Int) (hx : Fig x) (h0 : 0 ≤ y) (h3 : y ≤ 3) : bits BinOp.and IntKind.i64 (x / 2 ^ y.toNat) 1 = if bitB x y = true then 1 else 0 := by
  refine figs1 (P := fun x => bits BinOp.and IntKind.i64 (x / 2 ^ y.toNat) 1 = if bitB x y = true then 1 else 0) (fun i => ?_) hx
  refine lines1 (P := fun y => bits BinOp.and IntKind.i64 ((i.val : Int) / 2 ^ y.toNat) 1 = if bitB (i.val : Int) y = true then 1 else 0) (fun j => ?_) h0 h3
  revert i j; decide
set_option maxRecDepth 100000 in
theorem xor_bit (x y l : Int) (hx : Fig x) (hy : Fig y) (h0 : 0 ≤ l) (h3 : l ≤ 3) : bitB (xorF x y) l = (bitB x l != bitB y l) := by
  refine figs1 (P := fun x => bitB (xorF x y) l = (bitB x l != bitB y l)) (fun i => ?_) hx
  refine figs1 (P := fun y => bitB (xorF (i.val : Int) y) l = (bitB (i.val : Int) l != bitB y l)) (fun j => ?_) hy
  refine lines1 (P := fun l => bitB (xorF (i.val : Int) (j.val : Int)) l = (bitB (i.val : Int) l != bitB (j.val : Int) l)) (fun k => ?_) h0 h3
  revert i j k; decide +kernel
end Go.Proofs.YtdnccdobnhbpeaaDoor

