/-
  Package house: the document's examples (known) come out true, from any world in which the table of rulers lies.
-/
import Derived.Test.YtdnccdobnhbpeaaDoorRows
import Derived.Test.YtdnccdobnhbpeaaDoorEvE
import Derived.Test.YtdnccdobnhbpeaaDoorShC
import Derived.KernelRfl
namespace Go.Proofs.YtdnccdobnhbpeaaDoor
open Go Go.RowKit
set_option linter.unusedVariables false

/-- Who rules the figures, in the order of their numbers. -/
def rulL : List Int := [6, 1, 2, 3, 5, 4, 5, 8, 0, 0, 1, 2, 3, 4, 7, 6]
/-- The table of rulers lies in the world. -/
def Rul (w : World) : Prop := ∀ j, j < 16 → w.cell? ⟨0, j, none⟩ = some (.int .i64 (nth rulL j))
theorem Rul.below {w w' : World} (h : Rul w) {B : Nat} (hb : Below B w w') (hB : w.heap.size ≤ B) : Rul w' := fun j hj => by
  have := World.block_lt_of_cell? w _ (h j hj)
  exact (hb.cell (p := ⟨0, j, none⟩) (by simp at this ⊢; omega)).trans (h j hj)
theorem follows_mixed : Tryd.prog.follows .mixedOrders = true := by kernel_rfl
def rulT : Ev.Tab := ⟨0, [.int .i64 6, .int .i64 1, .int .i64 2, .int .i64 3, .int .i64 5, .int .i64 4, .int .i64 5, .int .i64 8, .int .i64 0, .int .i64 0, .int .i64 1, .int .i64 2, .int .i64 3, .int .i64 4, .int .i64 7, .int .i64 6]⟩
theorem rulT_met {w : World} (h : Rul w) : Ev.TabMet w rulT := by
  have e : rulT.cs = rulL.map (Value.int .i64) := rfl
  intro i v hv
  rw [e, List.getElem?_map] at hv
  obtain ⟨n, h1, h2⟩ := Option.map_eq_some_iff.1 hv
  obtain ⟨h3, h4⟩ := List.getElem?_eq_some_iff.1 h1
  have := h i h3
  rw [nth_eq h3, h4] at this
  rw [← h2]
  exact this
theorem known_run : Ev.isTrue (Ev.lstartT Tryd.prog 6 [rulT] 30000 12 []) = true := by kernel_rfl
theorem known_any (w : World) (hw : 6 ≤ w.heap.size) (hr : Rul w) : Calls Tryd.prog 12 #[] w (fun e w' => e = .returned (.bool true) ∧ Below w.heap.size w w') :=
  (Ev.call_runsT follows_mixed known_run (by decide) hw (fun t ht => by simp at ht; subst ht; exact rulT_met hr)).mono fun e w' h => ⟨h.1, ⟨h.2.1.1, h.2.1.2.1, h.2.1.2.2, h.2.2.1, h.2.2.2⟩⟩
end Go.Proofs.YtdnccdobnhbpeaaDoor
