/-
  The document's examples, as the statements of chapter 3 ask for them: known returns true.
-/
import Derived.Test.YtojlopfjhhiilaaDoorShE
import Derived.Test.YtojlopfjhhiilaaDoorShH
namespace Go.Proofs.YtojlopfjhhiilaaDoor
open Go Go.RowKit
set_option linter.unusedVariables false

theorem k_derive (w : World) (hp : Par w) : Calls Tryd.prog 29 #[.agg #[.int .i64 15, .int .i64 0, .int .i64 0, .int .i64 0]] w fun e w' => e = .returned (.tuple #[.agg (arr loneL), .int .i64 0]) ∧ Below w.heap.size w w' := by
  have := derive_any 15 0 0 0 w hp
  rwa [show deriveV [15, 0, 0, 0] = loneL by decide, show chkF [15, 0, 0, 0] = 0 by decide] at this
/-- The lone chart with Puer for the judge. -/
def badL : List Int := [15, 0, 0, 0, 1, 1, 1, 1, 15, 0, 0, 0, 15, 0, 11, 0]
theorem k_wrong (w : World) (hp : Par w) : Calls Tryd.prog 30 #[.agg (arr badL)] w fun e w' => (∃ q c, e = .returned (.tuple #[.slice q 2 c, .int .i64 0]) ∧ Reads w' q [14, 15]) ∧ Below w.heap.size w w' := by
  have := wrong_any badL rfl w hp
  rwa [show wrongV badL = [14, 15] by decide, show chkF badL = 0 by decide] at this
theorem eq_lone (wx : World) : (Op.equalIn 10000 24 (.agg (arr loneL)) (.agg (arr loneL))).run Tryd.prog wx = .ok true wx := by
  have := neq_shield (a := loneL) (b := loneL) rfl rfl wx
  rwa [show decide (loneL = loneL) = true by decide] at this

theorem keepS {gw ow b : Nat} {w5 W W' : World} (h : W.cell? ⟨gw, ow, none⟩ = some (.int .i64 14) ∧ W.cell? ⟨gw, ow + 1, none⟩ = some (.int .i64 12) ∧ W.cell? ⟨gw, ow + 2, none⟩ = some (.int .i64 8) ∧ W.cell? ⟨gw, ow + 3, none⟩ = some (.int .i64 0) ∧ W.rangeAt b 0 (loneL.map (Value.int .i64)) ∧ Below w5.heap.size w5 W) (hb : Below W.heap.size W W') : W'.cell? ⟨gw, ow, none⟩ = some (.int .i64 14) ∧ W'.cell? ⟨gw, ow + 1, none⟩ = some (.int .i64 12) ∧ W'.cell? ⟨gw, ow + 2, none⟩ = some (.int .i64 8) ∧ W'.cell? ⟨gw, ow + 3, none⟩ = some (.int .i64 0) ∧ W'.rangeAt b 0 (loneL.map (Value.int .i64)) ∧ Below w5.heap.size w5 W' :=
  ⟨cell_tr hb h.1, cell_tr hb h.2.1, cell_tr hb h.2.2.1, cell_tr hb h.2.2.2.1, range_tr hb h.2.2.2.2.1, h.2.2.2.2.2.trans (hb.mono h.2.2.2.2.2.size)⟩
theorem readsS {gw ow b : Nat} {w5 W W' : World} (h : W.cell? ⟨gw, ow, none⟩ = some (.int .i64 14) ∧ W.cell? ⟨gw, ow + 1, none⟩ = some (.int .i64 12) ∧ W.cell? ⟨gw, ow + 2, none⟩ = some (.int .i64 8) ∧ W.cell? ⟨gw, ow + 3, none⟩ = some (.int .i64 0) ∧ W.rangeAt b 0 (loneL.map (Value.int .i64)) ∧ Below w5.heap.size w5 W) (hb : Below W.heap.size W W') : Reads W' (some ⟨gw, ow, none⟩) [14, 12, 8, 0] := fun k hk => by
  obtain ⟨a, b, c, d, _⟩ := keepS h hb
  have : k = 0 ∨ k = 1 ∨ k = 2 ∨ k = 3 := by simp at hk; omega
  rcases this with rfl | rfl | rfl | rfl
  · exact ⟨gw, ow, rfl, a⟩
  · exact ⟨gw, ow, rfl, b⟩
  · exact ⟨gw, ow, rfl, c⟩
  · exact ⟨gw, ow, rfl, d⟩
theorem below1 (W : World) (o : Obj) : Below W.heap.size W (W.alloc o) := (Below.refl _ _).alloc (Nat.le_refl _) _
theorem lone_below {w w' : World} (h : w.alloc (.cells (arr loneL) 24) = w') : Below w.heap.size w w' := h ▸ (Below.refl _ _).alloc (Nat.le_refl _) _

end Go.Proofs.YtojlopfjhhiilaaDoor
