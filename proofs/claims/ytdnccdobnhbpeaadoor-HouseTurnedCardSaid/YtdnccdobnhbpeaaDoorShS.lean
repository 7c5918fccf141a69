/-
  What the statements of chapter 3 call besides: figure, sum, ones; and Number.
-/
import Derived.Test.YtdnccdobnhbpeaaDoorShM
namespace Go.Proofs.YtdnccdobnhbpeaaDoor
open Go Go.RowKit
set_option linter.unusedVariables false

/-- The sum of figures, from one on. -/
def sumL (a : Int) : List Int → Int
  | [] => a
  | x :: r => sumL (xorF a x) r
theorem sumL_snoc (a : Int) (l : List Int) (x : Int) : sumL a (l ++ [x]) = xorF (sumL a l) x := by
  induction l generalizing a with
  | nil => rfl
  | cons y l ih => exact ih _
theorem sumL_fig {a : Int} (ha : Fig a) {l : List Int} (hl : ∀ k, k < l.length → Fig (nth l k)) : Fig (sumL a l) := by
  induction l generalizing a with
  | nil => exact ha
  | cons y l ih =>
    exact ih (xorF_fig ha (hl 0 (by simp))) (fun k hk => by have := hl (k + 1) (by simp; omega); simpa [nth] using this)
/-- How many lines of a figure have one mark. -/
def onesF (f : Int) : Int := (if bitB f 0 = true then 1 else 0) + (if bitB f 1 = true then 1 else 0) + (if bitB f 2 = true then 1 else 0) + (if bitB f 3 = true then 1 else 0)
def onesTo (f : Int) : Nat → Int
  | 0 => 0
  | k + 1 => onesTo f k + (if bitB f k = true then 1 else 0)
theorem onesTo_bd (f : Int) (k : Nat) : 0 ≤ onesTo f k ∧ onesTo f k ≤ k := by
  induction k with
  | zero => simp [onesTo]
  | succ k ih => unfold onesTo; split <;> omega
end Go.Proofs.YtdnccdobnhbpeaaDoor
