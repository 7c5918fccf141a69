/-
  Casts and their lines, there and back; operations that undo and exchange each other.
-/
import Derived.Test.YtaibkkcedipdgaaDoorHxW
namespace Go.Proofs.YtaibkkcedipdgaaDoor
open Go Go.RowKit
set_option linter.unusedVariables false

def lineK (v : Int) : Prop := 6 ≤ v ∧ v ≤ 9
theorem lineK_four {v : Int} (h : lineK v) : v = 6 ∨ v = 7 ∨ v = 8 ∨ v = 9 := by unfold lineK at h; omega
theorem anyK {m : List Int} (hl : m.length = 6) (h : ∀ j, j < 6 → lineK (nth m j)) : anyB (outB 6 9) m = false := by
  rw [Bool.eq_false_iff]
  intro h1
  simp only [anyB, List.any_eq_true] at h1
  obtain ⟨x, hx, h2⟩ := h1
  obtain ⟨i, hi, rfl⟩ := List.getElem_of_mem hx
  have := h i (by omega)
  rw [nth_eq hi] at this
  simp only [outB, decide_eq_true_eq] at h2
  unfold lineK at this
  omega
theorem bit_six : ∀ b0 b1 b2 b3 b4 b5 : Bool, ∀ i : Fin 6, bitB (hexTo (fun i => [b0, b1, b2, b3, b4, b5].getD i false) 6) (i.val : Int) = [b0, b1, b2, b3, b4, b5].getD i.val false := by decide +kernel
theorem bit_hexTo (f : Nat → Bool) {i : Nat} (hi : i < 6) : bitB (hexTo f 6) (i : Int) = f i := by
  rw [hexTo_congr (g' := fun i => [f 0, f 1, f 2, f 3, f 4, f 5].getD i false) (fun i hi => by
    have : i = 0 ∨ i = 1 ∨ i = 2 ∨ i = 3 ∨ i = 4 ∨ i = 5 := by omega
    rcases this with rfl | rfl | rfl | rfl | rfl | rfl <;> rfl)]
  rw [bit_six _ _ _ _ _ _ ⟨i, hi⟩]
  have : i = 0 ∨ i = 1 ∨ i = 2 ∨ i = 3 ∨ i = 4 ∨ i = 5 := by omega
  rcases this with rfl | rfl | rfl | rfl | rfl | rfl <;> rfl
theorem hexTo_bits {x : Int} (hx : Hex x) : hexTo (fun i => bitB x i) 6 = x := hex_all (P := fun x => hexTo (fun i => bitB x i) 6 = x) (by decide +kernel) hx
theorem chkH_hex2 {x y : Int} (hx : Hex x) (hy : Hex y) : chkH [x, y] = 0 := by
  refine chkH_of fun k hk => ?_
  have : k = 0 ∨ k = 1 := by simp at hk; omega
  rcases this with rfl | rfl
  · exact hx
  · exact hy
/-- The lines of a cast's hexagrams are its lines. -/
theorem back_lines {m : List Int} (hl : m.length = 6) (h : ∀ j, j < 6 → lineK (nth m j)) : castE m = 0 ∧ chkH [castF m, castS m] = 0 ∧ linesV (castF m) (castS m) = m := by
  have hg := anyK hl h
  have hF : castF m = hexTo (fun i => firstB (nth m i)) 6 := by unfold castF; rw [hg]; rfl
  have hS : castS m = hexTo (fun i => secondB (nth m i)) 6 := by unfold castS; rw [hg]; rfl
  have hc : chkH [castF m, castS m] = 0 := chkH_hex2 (by rw [hF]; exact hexTo_bd _ (Nat.le_refl _)) (by rw [hS]; exact hexTo_bd _ (Nat.le_refl _))
  refine ⟨by unfold castE; rw [hg]; rfl, hc, ?_⟩
  unfold linesV
  rw [if_pos hc]
  apply List.ext_getElem
  · simp [hl]
  · intro i h1 h2
    have hi : i < 6 := by omega
    rw [List.getElem_map, List.getElem_range, ← nth_eq h2]
    unfold castV
    rw [hF, hS, bit_hexTo _ hi, bit_hexTo _ hi]
    rcases lineK_four (h i hi) with hv | hv | hv | hv <;> rw [hv] <;> rfl
theorem castV_line (x y i : Int) : lineK (castV x y i) := by unfold castV lineK; split <;> split <;> omega
theorem castV_first (x y i : Int) : firstB (castV x y i) = bitB x i := by unfold castV; cases bitB x i <;> cases bitB y i <;> rfl
theorem castV_second (x y i : Int) : secondB (castV x y i) = bitB y i := by unfold castV; cases bitB x i <;> cases bitB y i <;> rfl
/-- The hexagrams of two hexagrams' lines are these. -/
theorem back_cast {x y : Int} (hx : Hex x) (hy : Hex y) : castF (linesV x y) = x ∧ castS (linesV x y) = y ∧ castE (linesV x y) = 0 := by
  have hL : linesV x y = (List.range 6).map (fun i : Nat => castV x y i) := by unfold linesV; rw [if_pos (chkH_hex2 hx hy)]
  have hn : ∀ j, j < 6 → nth (linesV x y) j = castV x y j := fun j hj => by
    rw [hL, nth_eq (by simpa using hj)]; simp
  have hg : anyB (outB 6 9) (linesV x y) = false := anyK (linesV_length x y) fun j hj => by rw [hn j hj]; exact castV_line _ _ _
  refine ⟨?_, ?_, by unfold castE; rw [hg]; rfl⟩
  · unfold castF
    rw [hg]
    refine Eq.trans (hexTo_congr fun i hi => ?_) (hexTo_bits hx)
    rw [hn i hi, castV_first]
  · unfold castS
    rw [hg]
    refine Eq.trans (hexTo_congr fun i hi => ?_) (hexTo_bits hy)
    rw [hn i hi, castV_second]

def OpsOk (h : Int) : Prop := ∀ x : Nat, x < 4 → ∀ y : Nat, y < x + 1 → applyE h [(x : Int), (y : Int)] = 0 ∧ applyE h [(y : Int), (x : Int)] = 0 ∧ (¬ (x = 3 ∧ y = 2) → applyR h [(x : Int), (y : Int)] = applyR h [(y : Int), (x : Int)]) ∧ (x = y → x ≠ 3 → applyR h [(x : Int), (y : Int)] = h)
instance (h : Int) : Decidable (OpsOk h) := by unfold OpsOk; infer_instance
theorem ops_ok {h : Int} (hh : Hex h) : OpsOk h := hex_all (P := OpsOk) (by decide +kernel) hh
end Go.Proofs.YtaibkkcedipdgaaDoor
