/-
  Package shield: the way of a line.
-/
import Derived.Test.YtahmhdjoaoldcaaDoorShG
import Derived.Test.YtahmhdjoaoldcaaDoorShQ
import Derived.Deep.MidRow
namespace Go.Proofs.YtahmhdjoaoldcaaDoor
open Go Go.RowKit
set_option linter.unusedVariables false

theorem Blk.range {w : World} {g : Nat} {t : TypeId} {xs : List Int} (h : Blk w g t (arr xs)) : w.rangeAt g 0 (xs.map (Value.int .i64)) := fun j v hj => by
  rw [Nat.zero_add, h.cell]
  simpa [arr] using hj
theorem range_tr {w w' : World} (hb : Below w.heap.size w w') {g o : Nat} {cs : List Value} (h : w.rangeAt g o cs) : w'.rangeAt g o cs := fun j v hj => cell_tr hb (h j v hj)
/-- The mothers of a chart. -/
def moth (s : List Int) : List Int := [nth s 0, nth s 1, nth s 2, nth s 3]
/-- Where the way goes on from a place. -/
def nx (s : List Int) (line : Int) (p : Nat) : Nat := if bitB (nth s (parA p)) line = true then parA p else parB p
def plc (s : List Int) (line : Int) : Nat → Nat
  | 0 => 14
  | k + 1 => nx s line (plc s line k)
/-- The first k + 1 places of the way. -/
def wayTo (s : List Int) (line : Int) : Nat → List Int
  | 0 => [14]
  | k + 1 => wayTo s line k ++ [(plc s line (k + 1) : Int)]
theorem wayTo_len (s : List Int) (line : Int) (k : Nat) : (wayTo s line k).length = k + 1 := by
  induction k with
  | zero => rfl
  | succ k ih => simp [wayTo, ih]
theorem nx_or (s : List Int) (line : Int) (p : Nat) : nx s line p = parA p ∨ nx s line p = parB p := by unfold nx; split <;> simp
theorem plc_one (s : List Int) (line : Int) : plc s line 1 = 12 ∨ plc s line 1 = 13 := nx_or s line 14
theorem plc_two (s : List Int) (line : Int) : plc s line 2 = 8 ∨ plc s line 2 = 9 ∨ plc s line 2 = 10 ∨ plc s line 2 = 11 := by
  show nx s line (plc s line 1) = 8 ∨ nx s line (plc s line 1) = 9 ∨ nx s line (plc s line 1) = 10 ∨ nx s line (plc s line 1) = 11
  rcases plc_one s line with h | h <;> rw [h]
  · rcases nx_or s line 12 with h | h <;> rw [h] <;> decide
  · rcases nx_or s line 13 with h | h <;> rw [h] <;> decide
theorem plc_three (s : List Int) (line : Int) : plc s line 3 < 8 := by
  show nx s line (plc s line 2) < 8
  rcases plc_two s line with h | h | h | h <;> rw [h]
  · rcases nx_or s line 8 with h | h <;> rw [h] <;> decide
  · rcases nx_or s line 9 with h | h <;> rw [h] <;> decide
  · rcases nx_or s line 10 with h | h <;> rw [h] <;> decide
  · rcases nx_or s line 11 with h | h <;> rw [h] <;> decide
theorem plc_cases (s : List Int) (line : Int) {k : Nat} (hk : k < 3) : plc s line k = 8 ∨ plc s line k = 9 ∨ plc s line k = 10 ∨ plc s line k = 11 ∨ plc s line k = 12 ∨ plc s line k = 13 ∨ plc s line k = 14 := by
  have : k = 0 ∨ k = 1 ∨ k = 2 := by omega
  rcases this with rfl | rfl | rfl
  · simp [plc]
  · have := plc_one s line; omega
  · have := plc_two s line; omega
theorem plc_ge (s : List Int) (line : Int) {k : Nat} (hk : k ≤ 3) (h8 : 8 ≤ plc s line k) : k < 3 := by
  by_cases e : k = 3
  · subst e; have := plc_three s line; omega
  · omega
theorem plc_lt (s : List Int) (line : Int) {k : Nat} (hk : k ≤ 3) (h8 : plc s line k < 8) : k = 3 := by
  by_cases e : k = 3
  · exact e
  · have := plc_cases s line (show k < 3 by omega); omega
theorem one_owns (W : World) (x : Int) {B : Nat} (hB : B ≤ W.heap.size) : (W.alloc (.cells #[.int .i64 x] 3)).ownsRow B 3 1 (.slice (some ⟨W.heap.size, 0, none⟩) 1 1) 1 ([x].map (Value.int .i64)) :=
  ⟨rfl, Or.inr ⟨W.heap.size, 1, #[.int .i64 x], rfl, hB, heap_alloc_new W _, Nat.le_refl _, by simp [maxLen], rfl, rfl⟩⟩
/-- What Way returns. -/
def wayE (s : List Int) (line : Int) : Int := if chkF s ≠ 0 then 2 else if outB 0 3 line = true then 3 else if dP (moth s) 16 ≠ s then 30 else if bitB (nth s 14) line = false then 7 else 0
def wayV (s : List Int) (line : Int) : List Int := if wayE s line = 0 then wayTo s line 3 else []

end Go.Proofs.YtahmhdjoaoldcaaDoor
