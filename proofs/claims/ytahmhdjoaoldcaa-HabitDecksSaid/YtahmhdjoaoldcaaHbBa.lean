/-
  HabitDecks: lists of bytes that came in, opened.
-/
import Derived.Test.YtahmhdjoaoldcaaHbM
import Derived.OpenShut
namespace Go.Proofs.Ytahmhdjoaoldcaa
open Go Go.ChangeShapes Go.WideShapes Go.ChangeAt Go.RowKit
set_option linter.unusedVariables false

/-- A list of bytes. -/
def ReadsB (w : World) (p : Option Addr) (xs : List Int) : Prop :=
  ∀ k, k < xs.length → ∃ q o, p = some ⟨q, o, none⟩ ∧ w.cell? ⟨q, o + k, none⟩ = some (.int .u8 (nth xs k))
theorem ReadsB.below {w w' : World} {p : Option Addr} {xs : List Int} (h : ReadsB w p xs) {B : Nat} (hb : Below B w w') (hB : w.heap.size ≤ B) : ReadsB w' p xs := fun k hk => by
  obtain ⟨q, o, rfl, hc⟩ := h k hk
  have := World.block_lt_of_cell? w _ hc
  exact ⟨q, o, rfl, (hb.cell (p := ⟨q, o + k, none⟩) (by simp at this ⊢; omega)).trans hc⟩
/-- The numbers are bytes. -/
def Byte (xs : List Int) : Prop := ∀ k, 0 ≤ nth xs k ∧ nth xs k ≤ 255

theorem cells_u8 : Try.prog.cellsOf 5 = 1 := by kernel_rfl
set_option maxRecDepth 100000 in
/-- A list of bytes that came in, opened. -/
theorem came_open8 {H : Type} {enc : TypeId × Value → H} {W : World} {v : Value} {d : DataW H} {ps : List MemPlace} {j : Nat} (hv : Value.okWide Try.prog W .any j 40 v) (h : DataW.Trod enc Try.prog W 0 (fun _ => true) true 40 v d ps) :
    ∃ p xs c, v = .slice p xs.length c ∧ ReadsB W p xs ∧ Byte xs ∧ xs.length ≤ 9223372036854775807 := by
  obtain ⟨a0, len0, cap0, rfl⟩ := Go.WideShapes.okWide_slice Try.underlying40 hv
  obtain ⟨fuel, hf⟩ := h
  rcases Go.ChangeShapes.open_ints Try.underlying40 Try.underlying5 cells_u8 hf with ⟨hcs, _⟩ | ⟨x, l, c, zs, hcs, _, hl, hm, hz, _, hcell, hwz⟩
  · simp [Value.cells] at hcs
    obtain ⟨rfl, rfl, rfl⟩ := hcs
    exact ⟨none, [], 0, rfl, fun k hk => by simp at hk, fun k => by simp [nth], by simp⟩
  · simp [Value.cells] at hcs
    obtain ⟨rfl, rfl, rfl⟩ := hcs
    have hz' : zs.length = cap0 := by simpa using hz
    have hlen : (zs.take len0).length = len0 := by rw [List.length_take]; omega
    have hnth : ∀ k, k < len0 → nth (zs.take len0) k = zs.getD k 0 := fun k hk => by
      have hk2 : k < zs.length := by omega
      rw [nth_eq (by omega)]
      simp [List.getD, hk2]
    refine ⟨some x, zs.take len0, cap0, by rw [hlen], fun k hk => ?_, fun k => ?_, by rw [hlen]; unfold maxLen at hm; omega⟩
    · rw [hlen] at hk
      obtain ⟨q, o, rfl, hc⟩ := ints_at hcell (by omega)
      refine ⟨q, o, rfl, ?_⟩
      rw [hnth k hk]
      exact hc k (by omega)
    · by_cases hk : k < len0
      · rw [hnth k hk]
        have hmem : zs.getD k 0 ∈ zs := by
          have hk2 : k < zs.length := by omega
          simp [List.getD, hk2]
        have := hwz _ hmem
        generalize zs.getD k 0 = g at this ⊢
        simp [Lit.wf, IntKind.min, IntKind.max, IntKind.signed, IntKind.bits] at this
        omega
      · have : nth (zs.take len0) k = 0 := by
          unfold nth
          rw [List.getD_eq_getElem?_getD, List.getElem?_eq_none (by omega)]
          rfl
        omega
end Go.Proofs.Ytahmhdjoaoldcaa
