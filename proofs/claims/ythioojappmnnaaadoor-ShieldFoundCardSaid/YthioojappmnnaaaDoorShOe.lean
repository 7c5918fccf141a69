/-
  A list of pairs of bytes that came in, opened.
-/
import Derived.Test.YthioojappmnnaaaDoorShO
import Derived.Deep.Slices
namespace Go.Proofs.YthioojappmnnaaaDoor
open Go Go.ChangeShapes Go.WideShapes Go.ChangeAt Go.RowKit
set_option linter.unusedVariables false

theorem cells_pair8 : Tryd.prog.cellsOf 36 = 2 := by kernel_rfl
theorem cells_one8 : Tryd.prog.cellsOf 5 = 1 := by kernel_rfl
/-- The pairs of a list: the two numbers of each, by their places. -/
def Slips (w : World) (p : Option Addr) (X Y : Nat → Int) (n : Nat) : Prop :=
  ∀ i, i < n → ∃ g o, p = some ⟨g, o, none⟩ ∧ w.cell? ⟨g, o + i * 2, none⟩ = some (.int .u8 (X i)) ∧ w.cell? ⟨g, o + i * 2 + 1, none⟩ = some (.int .u8 (Y i)) ∧ 0 ≤ X i ∧ X i ≤ 255 ∧ 0 ≤ Y i ∧ Y i ≤ 255
theorem Slips.below {w w' : World} {p : Option Addr} {X Y : Nat → Int} {n : Nat} (h : Slips w p X Y n) {B : Nat} (hb : Below B w w') (hB : w.heap.size ≤ B) : Slips w' p X Y n := fun i hi => by
  obtain ⟨g, o, rfl, h1, h2, r⟩ := h i hi
  exact ⟨g, o, rfl, (hb.cell (Nat.lt_of_lt_of_le (World.block_lt_of_cell? w _ h1) hB)).trans h1, (hb.cell (Nat.lt_of_lt_of_le (World.block_lt_of_cell? w _ h2) hB)).trans h2, r⟩

set_option maxRecDepth 100000 in
theorem came_slips {H : Type} {enc : TypeId × Value → H} {W : World} {v : Value} {d : DataW H} {ps : List MemPlace} {j : Nat} (hv : Value.okWide Tryd.prog W .any j 24 v) (h : DataW.Trod enc Tryd.prog W 0 (fun _ => true) true 24 v d ps) :
    ∃ p n c X Y, v = .slice p n c ∧ Slips W p X Y n ∧ n ≤ maxLen := by
  obtain ⟨a0, len0, cap0, rfl⟩ := Go.WideShapes.okWide_slice Tryd.underlying24 hv
  obtain ⟨fuel, hf⟩ := h
  rcases Go.Deep.open_slice Tryd.underlying24 hf with ⟨hcs, _⟩ | ⟨a, len, cap, m, n, D, Pl, hcs, hb, hl, hm, hmm, -, hel⟩
  · simp [Value.cells] at hcs
    obtain ⟨rfl, rfl, rfl⟩ := hcs
    exact ⟨none, 0, 0, fun _ => 0, fun _ => 0, rfl, fun i hi => by omega, by simp⟩
  · simp [Value.cells] at hcs
    obtain ⟨rfl, rfl, rfl⟩ := hcs
    have hm' : m = cap0 := by simpa using hmm
    obtain ⟨b, off, spot⟩ := a
    have key : ∀ i, ∃ q : Int × Int, i < len0 → W.cell? ((⟨b, off, spot⟩ : Addr).add (i * 2)) = some (.int .u8 q.1) ∧ W.cell? (((⟨b, off, spot⟩ : Addr).add (i * 2)).add 1) = some (.int .u8 q.2) ∧ 0 ≤ q.1 ∧ q.1 ≤ 255 ∧ 0 ≤ q.2 ∧ q.2 ≤ 255 := fun i => by
      by_cases hi : i < len0
      · obtain ⟨cs, h1, h2⟩ := hel i (by omega)
        rw [cells_pair8] at h1
        obtain ⟨_, hlen, hcell⟩ := World.cells?_some h1
        obtain ⟨xs, m1, _, _, _, hxl, hx⟩ := DataW.trod_array Tryd.underlying36 h2
        match cs, hlen with
        | [c0, c1], _ =>
        have e0 := hx 0 (by omega)
        have e1 := hx 1 (by omega)
        rw [cells_one8] at e0 e1
        obtain ⟨y0, hy0⟩ : ∃ y, xs[0]? = some y := ⟨xs[0], List.getElem?_eq_getElem (by omega)⟩
        obtain ⟨y1, hy1⟩ : ∃ y, xs[1]? = some y := ⟨xs[1], List.getElem?_eq_getElem (by omega)⟩
        rw [hy0] at e0
        rw [hy1] at e1
        have e0 : DataW.trod enc Tryd.prog W 0 (fun _ => true) true m1 5 [c0] = some y0 := by simpa using e0
        have e1 : DataW.trod enc Tryd.prog W 0 (fun _ => true) true m1 5 [c1] = some y1 := by simpa using e1
        obtain ⟨x, g0, -, w0⟩ := DataW.trod_int Tryd.underlying5 e0
        obtain ⟨y, g1, -, w1⟩ := DataW.trod_int Tryd.underlying5 e1
        simp only [List.cons.injEq, and_true] at g0 g1
        subst g0 g1
        refine ⟨(x, y), fun _ => ?_⟩
        have k0 := hcell 0 (by omega)
        have k1 := hcell 1 (by omega)
        simp [Lit.wf, IntKind.min, IntKind.max, IntKind.signed, IntKind.bits] at w0 w1
        refine ⟨by simpa [Addr.add] using k0, by simpa using k1, ?_⟩
        simp only
        omega
      · exact ⟨(0, 0), fun h => absurd h hi⟩
    rcases Nat.eq_zero_or_pos len0 with hz | hz
    · subst hz
      exact ⟨some ⟨b, off, spot⟩, 0, cap0, fun _ => 0, fun _ => 0, rfl, fun i hi => by omega, by omega⟩
    have hsp : spot = none := by
      obtain ⟨k0, _⟩ := (key 0).choose_spec hz
      simpa [Addr.add] using World.cell?_spot k0
    subst hsp
    obtain ⟨Q, hQ⟩ : ∃ Q : Nat → Int × Int, ∀ i, i < len0 → W.cell? ((⟨b, off, none⟩ : Addr).add (i * 2)) = some (.int .u8 (Q i).1) ∧ W.cell? (((⟨b, off, none⟩ : Addr).add (i * 2)).add 1) = some (.int .u8 (Q i).2) ∧ 0 ≤ (Q i).1 ∧ (Q i).1 ≤ 255 ∧ 0 ≤ (Q i).2 ∧ (Q i).2 ≤ 255 :=
      ⟨fun i => (key i).choose, fun i hi => (key i).choose_spec hi⟩
    refine ⟨some ⟨b, off, none⟩, len0, cap0, fun i => (Q i).1, fun i => (Q i).2, rfl, fun i hi => ?_, by omega⟩
    obtain ⟨k0, k1, r⟩ := hQ i hi
    rw [Go.WideShapes.add_plain, Go.WideShapes.add_plain] at k1
    rw [Go.WideShapes.add_plain] at k0
    exact ⟨b, off, rfl, k0, k1, r⟩
end Go.Proofs.YthioojappmnnaaaDoor
