/-
  Plain facts on charts: sums of figures in any order, transposed lines, the judge.
-/
import Derived.Test.YtdnccdobnhbpeaaDoorShS
namespace Go.Proofs.YtdnccdobnhbpeaaDoor
open Go Go.RowKit
set_option linter.unusedVariables false

theorem xor_comm (x y : Int) (hx : Fig x) (hy : Fig y) : xorF x y = xorF y x := by
  refine figs1 (P := fun x => xorF x y = xorF y x) (fun i => ?_) hx
  refine figs1 (P := fun y => xorF (i.val : Int) y = xorF y (i.val : Int)) (fun j => ?_) hy
  revert i j; decide +kernel
theorem xor_assoc (x y z : Int) (hx : Fig x) (hy : Fig y) (hz : Fig z) : xorF (xorF x y) z = xorF x (xorF y z) := by
  refine figs1 (P := fun x => xorF (xorF x y) z = xorF x (xorF y z)) (fun i => ?_) hx
  refine figs1 (P := fun y => xorF (xorF (i.val : Int) y) z = xorF (i.val : Int) (xorF y z)) (fun j => ?_) hy
  refine figs1 (P := fun z => xorF (xorF (i.val : Int) (j.val : Int)) z = xorF (i.val : Int) (xorF (j.val : Int) z)) (fun k => ?_) hz
  revert i j k; decide +kernel
theorem zero_xor (x : Int) (hx : Fig x) : xorF 0 x = x := by
  refine figs1 (P := fun x => xorF 0 x = x) (fun i => ?_) hx
  revert i; decide +kernel
theorem ones_xor (x y : Int) (hx : Fig x) (hy : Fig y) : onesF (xorF x y) % 2 = (onesF x + onesF y) % 2 := by
  refine figs1 (P := fun x => onesF (xorF x y) % 2 = (onesF x + onesF y) % 2) (fun i => ?_) hx
  refine figs1 (P := fun y => onesF (xorF (i.val : Int) y) % 2 = (onesF (i.val : Int) + onesF y) % 2) (fun j => ?_) hy
  revert i j; decide +kernel
theorem fig_of_bits (x : Int) (hx : Fig x) : figTo (fun i => bitB x (i : Nat)) 4 = x := by
  refine figs1 (P := fun x => figTo (fun i => bitB x (i : Nat)) 4 = x) (fun i => ?_) hx
  revert i; decide +kernel
/-- The figure of four conditions. -/
def fig4 (a b c d : Bool) : Int := figTo (fun i => if i = 0 then a else if i = 1 then b else if i = 2 then c else d) 4
theorem figTo4 (g : Nat → Bool) : figTo g 4 = fig4 (g 0) (g 1) (g 2) (g 3) := figTo_congr fun i hi => by
  have : i = 0 ∨ i = 1 ∨ i = 2 ∨ i = 3 := by omega
  rcases this with rfl | rfl | rfl | rfl <;> rfl
theorem bit_fig4 : ∀ a b c d : Bool, bitB (fig4 a b c d) 0 = a ∧ bitB (fig4 a b c d) 1 = b ∧ bitB (fig4 a b c d) 2 = c ∧ bitB (fig4 a b c d) 3 = d := by decide +kernel
theorem fig4_fig (a b c d : Bool) : Fig (fig4 a b c d) := figTo_bd _ (Nat.le_refl _)
theorem fig4_bits (x : Int) (hx : Fig x) : fig4 (bitB x 0) (bitB x 1) (bitB x 2) (bitB x 3) = x := by
  have := fig_of_bits x hx
  rw [figTo4] at this
  exact this

section
variable {m : List Int} (h : m.length = 4) (hm : ∀ k, k < 4 → Fig (nth m k))
include h
theorem place_sum {p : Nat} (h8 : 8 ≤ p) (h16 : p < 16) : nth (dP m 16) p = xorF (nth (dP m 16) (parA p)) (nth (dP m 16) (parB p)) := by
  rw [dP_follow m h (by omega) h16]; unfold followF; rw [if_neg (by omega)]
theorem place_low {j : Nat} (hj : j < 4) : nth (dP m 16) (4 + j) = fig4 (bitB (nth (dP m 16) 0) j) (bitB (nth (dP m 16) 1) j) (bitB (nth (dP m 16) 2) j) (bitB (nth (dP m 16) 3) j) := by
  rw [dP_follow m h (by omega) (by omega)]; unfold followF; rw [if_pos (by omega), figTo4]
  have e : (((4 + j : Nat) : Int) - 4) = (j : Int) := by omega
  rw [e]
end
/-- What is known of a chart: its figures, and how the places follow. -/
structure IsChart (S : List Int) : Prop where
  len : S.length = 16
  figs : Figs S
  low : ∀ j, j < 4 → nth S (4 + j) = fig4 (bitB (nth S 0) j) (bitB (nth S 1) j) (bitB (nth S 2) j) (bitB (nth S 3) j)
  s8 : nth S 8 = xorF (nth S 0) (nth S 1)
  s9 : nth S 9 = xorF (nth S 2) (nth S 3)
  s10 : nth S 10 = xorF (nth S 4) (nth S 5)
  s11 : nth S 11 = xorF (nth S 6) (nth S 7)
  s12 : nth S 12 = xorF (nth S 8) (nth S 9)
  s13 : nth S 13 = xorF (nth S 10) (nth S 11)
  s14 : nth S 14 = xorF (nth S 12) (nth S 13)
  s15 : nth S 15 = xorF (nth S 14) (nth S 0)
theorem isChart {m : List Int} (h : m.length = 4) (hm : ∀ k, k < 4 → Fig (nth m k)) : IsChart (dP m 16) :=
  ⟨dP_len m h, dP_figs h hm, fun j hj => place_low h hj, place_sum h (p := 8) (by omega) (by omega), place_sum h (p := 9) (by omega) (by omega), place_sum h (p := 10) (by omega) (by omega), place_sum h (p := 11) (by omega) (by omega),
   place_sum h (p := 12) (by omega) (by omega), place_sum h (p := 13) (by omega) (by omega), place_sum h (p := 14) (by omega) (by omega), place_sum h (p := 15) (by omega) (by omega)⟩
theorem ones4 : ∀ a b c d : Bool, onesF (fig4 a b c d) = (if a = true then 1 else 0) + (if b = true then 1 else 0) + (if c = true then 1 else 0) + (if d = true then 1 else 0) := by decide +kernel
theorem judge_all {S : List Int} (c : IsChart S) : sumL 0 [nth S 0, nth S 1, nth S 2, nth S 3, nth S 4, nth S 5, nth S 6, nth S 7] = nth S 14 := by
  have f := fun k (hk : k < 16) => c.figs k hk
  have f0 := f 0 (by omega); have f1 := f 1 (by omega); have f2 := f 2 (by omega); have f3 := f 3 (by omega)
  have f4 := f 4 (by omega); have f5 := f 5 (by omega); have f6 := f 6 (by omega); have f7 := f 7 (by omega)
  have f8 := f 8 (by omega); have f9 := f 9 (by omega); have f10 := f 10 (by omega); have f11 := f 11 (by omega)
  have f12 := f 12 (by omega); have f13 := f 13 (by omega)
  simp only [sumL]
  rw [zero_xor _ f0, ← c.s8, xor_assoc _ _ _ f8 f2 f3, ← c.s9, ← c.s12, xor_assoc _ _ _ f12 f4 f5, ← c.s10, xor_assoc (xorF (nth S 12) (nth S 10)) _ _ (xorF_fig f12 f10) f6 f7, ← c.s11, xor_assoc _ _ _ f12 f10 f11, ← c.s13, ← c.s14]
theorem judge_even {S : List Int} (c : IsChart S) : onesF (nth S 14) % 2 = 0 := by
  have f := fun k (hk : k < 16) => c.figs k hk
  have f0 := f 0 (by omega); have f1 := f 1 (by omega); have f2 := f 2 (by omega); have f3 := f 3 (by omega)
  have f4 := f 4 (by omega); have f5 := f 5 (by omega); have f6 := f 6 (by omega); have f7 := f 7 (by omega)
  have f8 := f 8 (by omega); have f9 := f 9 (by omega); have f10 := f 10 (by omega); have f11 := f 11 (by omega)
  have f12 := f 12 (by omega); have f13 := f 13 (by omega)
  have e14 := ones_xor _ _ f12 f13
  have e12 := ones_xor _ _ f8 f9
  have e13 := ones_xor _ _ f10 f11
  have e8 := ones_xor _ _ f0 f1
  have e9 := ones_xor _ _ f2 f3
  have e10 := ones_xor _ _ f4 f5
  have e11 := ones_xor _ _ f6 f7
  rw [← c.s14] at e14
  rw [← c.s12] at e12
  rw [← c.s13] at e13
  rw [← c.s8] at e8
  rw [← c.s9] at e9
  rw [← c.s10] at e10
  rw [← c.s11] at e11
  have o4 : onesF (nth S 4) = _ := (congrArg onesF (c.low 0 (by omega))).trans (ones4 _ _ _ _)
  have o5 : onesF (nth S 5) = _ := (congrArg onesF (c.low 1 (by omega))).trans (ones4 _ _ _ _)
  have o6 : onesF (nth S 6) = _ := (congrArg onesF (c.low 2 (by omega))).trans (ones4 _ _ _ _)
  have o7 : onesF (nth S 7) = _ := (congrArg onesF (c.low 3 (by omega))).trans (ones4 _ _ _ _)
  have d0 : onesF (nth S 0) = (if bitB (nth S 0) ((0 : Nat) : Int) = true then 1 else 0) + (if bitB (nth S 0) ((1 : Nat) : Int) = true then 1 else 0) + (if bitB (nth S 0) ((2 : Nat) : Int) = true then 1 else 0) + (if bitB (nth S 0) ((3 : Nat) : Int) = true then 1 else 0) := rfl
  have d1 : onesF (nth S 1) = (if bitB (nth S 1) ((0 : Nat) : Int) = true then 1 else 0) + (if bitB (nth S 1) ((1 : Nat) : Int) = true then 1 else 0) + (if bitB (nth S 1) ((2 : Nat) : Int) = true then 1 else 0) + (if bitB (nth S 1) ((3 : Nat) : Int) = true then 1 else 0) := rfl
  have d2 : onesF (nth S 2) = (if bitB (nth S 2) ((0 : Nat) : Int) = true then 1 else 0) + (if bitB (nth S 2) ((1 : Nat) : Int) = true then 1 else 0) + (if bitB (nth S 2) ((2 : Nat) : Int) = true then 1 else 0) + (if bitB (nth S 2) ((3 : Nat) : Int) = true then 1 else 0) := rfl
  have d3 : onesF (nth S 3) = (if bitB (nth S 3) ((0 : Nat) : Int) = true then 1 else 0) + (if bitB (nth S 3) ((1 : Nat) : Int) = true then 1 else 0) + (if bitB (nth S 3) ((2 : Nat) : Int) = true then 1 else 0) + (if bitB (nth S 3) ((3 : Nat) : Int) = true then 1 else 0) := rfl
  generalize (if bitB (nth S 0) ((0 : Nat) : Int) = true then (1 : Int) else 0) = b00 at *
  generalize (if bitB (nth S 0) ((1 : Nat) : Int) = true then (1 : Int) else 0) = b01 at *
  generalize (if bitB (nth S 0) ((2 : Nat) : Int) = true then (1 : Int) else 0) = b02 at *
  generalize (if bitB (nth S 0) ((3 : Nat) : Int) = true then (1 : Int) else 0) = b03 at *
  generalize (if bitB (nth S 1) ((0 : Nat) : Int) = true then (1 : Int) else 0) = b10 at *
  generalize (if bitB (nth S 1) ((1 : Nat) : Int) = true then (1 : Int) else 0) = b11 at *
  generalize (if bitB (nth S 1) ((2 : Nat) : Int) = true then (1 : Int) else 0) = b12 at *
  generalize (if bitB (nth S 1) ((3 : Nat) : Int) = true then (1 : Int) else 0) = b13 at *
  generalize (if bitB (nth S 2) ((0 : Nat) : Int) = true then (1 : Int) else 0) = b20 at *
  generalize (if bitB (nth S 2) ((1 : Nat) : Int) = true then (1 : Int) else 0) = b21 at *
  generalize (if bitB (nth S 2) ((2 : Nat) : Int) = true then (1 : Int) else 0) = b22 at *
  generalize (if bitB (nth S 2) ((3 : Nat) : Int) = true then (1 : Int) else 0) = b23 at *
  generalize (if bitB (nth S 3) ((0 : Nat) : Int) = true then (1 : Int) else 0) = b30 at *
  generalize (if bitB (nth S 3) ((1 : Nat) : Int) = true then (1 : Int) else 0) = b31 at *
  generalize (if bitB (nth S 3) ((2 : Nat) : Int) = true then (1 : Int) else 0) = b32 at *
  generalize (if bitB (nth S 3) ((3 : Nat) : Int) = true then (1 : Int) else 0) = b33 at *
  clear f f0 f1 f2 f3 f4 f5 f6 f7 f8 f9 f10 f11 f12 f13
  generalize onesF (nth S 14) = q14 at *
  generalize onesF (nth S 13) = q13 at *
  generalize onesF (nth S 12) = q12 at *
  generalize onesF (nth S 11) = q11 at *
  generalize onesF (nth S 10) = q10 at *
  generalize onesF (nth S 9) = q9 at *
  generalize onesF (nth S 8) = q8 at *
  omega
/-- The mothers and daughters exchanged. -/
theorem swapped {S : List Int} (c : IsChart S) : ∃ T, T = dP [nth S 4, nth S 5, nth S 6, nth S 7] 16 ∧ IsChart T ∧ nth T 12 = nth S 13 ∧ nth T 13 = nth S 12 ∧ nth T 14 = nth S 14 ∧ ∀ i, i < 4 → nth T (4 + i) = nth S i := by
  have hm : ∀ k, k < 4 → Fig (nth [nth S 4, nth S 5, nth S 6, nth S 7] k) := fun k hk => by
    have e : k = 0 ∨ k = 1 ∨ k = 2 ∨ k = 3 := by omega
    rcases e with rfl | rfl | rfl | rfl
    · exact c.figs 4 (by omega)
    · exact c.figs 5 (by omega)
    · exact c.figs 6 (by omega)
    · exact c.figs 7 (by omega)
  have t := isChart (m := [nth S 4, nth S 5, nth S 6, nth S 7]) rfl hm
  have t0 : nth (dP [nth S 4, nth S 5, nth S 6, nth S 7] 16) 0 = nth S 4 := dP_moth _ rfl (by omega)
  have t1 : nth (dP [nth S 4, nth S 5, nth S 6, nth S 7] 16) 1 = nth S 5 := dP_moth _ rfl (by omega)
  have t2 : nth (dP [nth S 4, nth S 5, nth S 6, nth S 7] 16) 2 = nth S 6 := dP_moth _ rfl (by omega)
  have t3 : nth (dP [nth S 4, nth S 5, nth S 6, nth S 7] 16) 3 = nth S 7 := dP_moth _ rfl (by omega)
  generalize dP [nth S 4, nth S 5, nth S 6, nth S 7] 16 = T at *
  have back : ∀ i, i < 4 → nth T (4 + i) = nth S i := fun i hi => by
    have l0 : nth S 4 = _ := c.low 0 (by omega)
    have l1 : nth S 5 = _ := c.low 1 (by omega)
    have l2 : nth S 6 = _ := c.low 2 (by omega)
    have l3 : nth S 7 = _ := c.low 3 (by omega)
    rw [t.low i hi, t0, t1, t2, t3, l0, l1, l2, l3]
    have e : i = 0 ∨ i = 1 ∨ i = 2 ∨ i = 3 := by omega
    rcases e with rfl | rfl | rfl | rfl
    · rw [show (((0 : Nat)) : Int) = 0 from rfl, (bit_fig4 _ _ _ _).1, (bit_fig4 _ _ _ _).1, (bit_fig4 _ _ _ _).1, (bit_fig4 _ _ _ _).1]; exact fig4_bits _ (c.figs 0 (by omega))
    · rw [show (((1 : Nat)) : Int) = 1 from rfl, (bit_fig4 _ _ _ _).2.1, (bit_fig4 _ _ _ _).2.1, (bit_fig4 _ _ _ _).2.1, (bit_fig4 _ _ _ _).2.1]; exact fig4_bits _ (c.figs 1 (by omega))
    · rw [show (((2 : Nat)) : Int) = 2 from rfl, (bit_fig4 _ _ _ _).2.2.1, (bit_fig4 _ _ _ _).2.2.1, (bit_fig4 _ _ _ _).2.2.1, (bit_fig4 _ _ _ _).2.2.1]; exact fig4_bits _ (c.figs 2 (by omega))
    · rw [show (((3 : Nat)) : Int) = 3 from rfl, (bit_fig4 _ _ _ _).2.2.2, (bit_fig4 _ _ _ _).2.2.2, (bit_fig4 _ _ _ _).2.2.2, (bit_fig4 _ _ _ _).2.2.2]; exact fig4_bits _ (c.figs 3 (by omega))
  have b0 : nth T 4 = nth S 0 := back 0 (by omega)
  have b1 : nth T 5 = nth S 1 := back 1 (by omega)
  have b2 : nth T 6 = nth S 2 := back 2 (by omega)
  have b3 : nth T 7 = nth S 3 := back 3 (by omega)
  have u12 : nth T 12 = nth S 13 := by rw [t.s12, t.s8, t.s9, t0, t1, t2, t3, ← c.s10, ← c.s11, ← c.s13]
  have u13 : nth T 13 = nth S 12 := by rw [t.s13, t.s10, t.s11, b0, b1, b2, b3, ← c.s8, ← c.s9, ← c.s12]
  refine ⟨T, rfl, t, u12, u13, ?_, back⟩
  rw [t.s14, u12, u13, xor_comm _ _ (c.figs 13 (by omega)) (c.figs 12 (by omega)), ← c.s14]
theorem last_sum {S : List Int} (c : IsChart S) : sumL 0 [nth S 14, nth S 0] = nth S 15 := by
  simp only [sumL]
  rw [zero_xor _ (c.figs 14 (by omega)), c.s15]
end Go.Proofs.YtdnccdobnhbpeaaDoor
