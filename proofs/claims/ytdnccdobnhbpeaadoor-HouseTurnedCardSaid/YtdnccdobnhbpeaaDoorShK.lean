/-
  The document's examples, as the statements of chapter 3 ask for them: known returns true.
-/
import Derived.Test.YtdnccdobnhbpeaaDoorShE
import Derived.Test.YtdnccdobnhbpeaaDoorShH
namespace Go.Proofs.YtdnccdobnhbpeaaDoor
open Go Go.RowKit
set_option linter.unusedVariables false

/-- The lone chart with Puer for the judge. -/
def badL : List Int := [15, 0, 0, 0, 1, 1, 1, 1, 15, 0, 0, 0, 15, 0, 11, 0]
theorem keepS {gw ow b : Nat} {w5 W W' : World} (h : W.cell? ⟨gw, ow, none⟩ = some (.int .i64 14) ∧ W.cell? ⟨gw, ow + 1, none⟩ = some (.int .i64 12) ∧ W.cell? ⟨gw, ow + 2, none⟩ = some (.int .i64 8) ∧ W.cell? ⟨gw, ow + 3, none⟩ = some (.int .i64 0) ∧ W.rangeAt b 0 (loneL.map (Value.int .i64)) ∧ Below w5.heap.size w5 W) (hb : Below W.heap.size W W') : W'.cell? ⟨gw, ow, none⟩ = some (.int .i64 14) ∧ W'.cell? ⟨gw, ow + 1, none⟩ = some (.int .i64 12) ∧ W'.cell? ⟨gw, ow + 2, none⟩ = some (.int .i64 8) ∧ W'.cell? ⟨gw, ow + 3, none⟩ = some (.int .i64 0) ∧ W'.rangeAt b 0 (loneL.map (Value.int .i64)) ∧ Below w5.heap.size w5 W' :=
  ⟨cell_tr hb h.1, cell_tr hb h.2.1, cell_tr hb h.2.2.1, cell_tr hb h.2.2.2.1, range_tr hb h.2.2.2.2.1, h.2.2.2.2.2.trans (hb.mono h.2.2.2.2.2.size)⟩
theorem readsS {gw ow b : Nat} {w5 W W' : World} (h : W.cell? ⟨gw, ow, none⟩ = some (.int .i64 14) ∧ W.cell? ⟨gw, ow + 1, none⟩ = some (.int .i64 12) ∧ W.cell? ⟨gw, ow + 2, none⟩ = some (.int .i64 8) ∧ W.cell? ⟨gw, ow + 3, none⟩ = some (.int .i64 0) ∧ W.rangeAt b 0 (loneL.map (Value.int .i64)) ∧ Below w5.heap.size w5 W) (hb : Below W.heap.size W W') : Reads W' (some ⟨gw, ow, none⟩) [14, 12, 8, 0] := fun k hk => by
  obtain ⟨a, b, c, d, _⟩ := keepS h hb
  have : k = 0 ∨ k = 1 ∨ k = 2 ∨ k = 3 := by simp at hk; omega
  rcases this with rfl | rfl | rfl | rfl
  · exact ⟨gw, ow, rfl, a⟩
  · exact ⟨gw, ow, rfl, b⟩
  · exact ⟨gw, ow, rfl, c⟩
  · exact ⟨gw, ow, rfl, d⟩
theorem below1 (W : World) (o : Obj) : Below W.heap.size W (W.alloc o) := (Below.refl _ _).alloc (Nat.le_refl _) _
end Go.Proofs.YtdnccdobnhbpeaaDoor
