/-
  Package shield: the figure that follows at a place, and the chart of mothers.
-/
import Derived.Test.YtdnccdobnhbpeaaDoorShB
import Derived.Test.YtdnccdobnhbpeaaDoorShW
namespace Go.Proofs.YtdnccdobnhbpeaaDoor
open Go.RowKit
set_option linter.unusedVariables false

/-- The table of places of which those from 8 on are the sums. -/
def parL : List Int := [0, 1, 2, 3, 4, 5, 6, 7, 8, 9, 10, 11, 12, 13, 14, 0]
/-- All 16 cells of block b are the figures of s. -/
def Chart (w : World) (b : Nat) (s : List Int) : Prop := ∀ k, k < 16 → w.cell? ⟨b, k, none⟩ = some (.int .i64 (nth s k))
def Figs (s : List Int) : Prop := ∀ k, k < 16 → Fig (nth s k)
theorem Chart.below {w w' : World} {b : Nat} {s : List Int} (h : Chart w b s) {B : Nat} (hb : Below B w w') (hB : b < B) : Chart w' b s := fun j hj =>
  (hb.cell (p := ⟨b, j, none⟩) hB).trans (h j hj)
theorem Chart.lt {w : World} {b : Nat} {s : List Int} (h : Chart w b s) : b < w.heap.size := World.block_lt_of_cell? w _ (h 0 (by omega))
/-- The place of which the place p, from 8 on, is derived: the first, the second. -/
def parA (p : Nat) : Nat := (nth parL (2 * (p - 8))).toNat
def parB (p : Nat) : Nat := (nth parL (2 * (p - 8) + 1)).toNat
/-- The figure that follows at place p. -/
def followF (s : List Int) (p : Nat) : Int :=
  if p < 8 then figTo (fun i => bitB (nth s i) (p - 4)) 4 else xorF (nth s (parA p)) (nth s (parB p))

end Go.Proofs.YtdnccdobnhbpeaaDoor
