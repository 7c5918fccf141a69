/-
  How a list of lists that came in is opened.
-/
import Derived.Test.YtnpnnfbmnlgioaaT
import Derived.OpenShut
namespace Go.Proofs.Ytnpnnfbmnlgioaa
open Go.RowKit

/-- What is known of a list of lists that came in. -/
def CameL (w : World) (p : Option Addr) (ls : List (List Int)) : Prop :=
  ∀ k, k < ls.length → ∃ q o r c, p = some ⟨q, o, none⟩ ∧ w.cell? ⟨q, o + k, none⟩ = some (.slice r (nthL ls k).length c) ∧ Came w r (nthL ls k) c
theorem CameL.reads {w : World} {p : Option Addr} {ls : List (List Int)} (h : CameL w p ls) : ReadsL w p ls := fun k hk => by
  obtain ⟨q, o, r, c, h1, h2, h3⟩ := h k hk
  exact ⟨q, o, h1, r, c, h2, h3.2.1⟩
theorem CameL.below {w w' : World} {p : Option Addr} {ls : List (List Int)} (h : CameL w p ls) {B : Nat} (hb : Below B w w') (hB : w.heap.size ≤ B) : CameL w' p ls := fun k hk => by
  obtain ⟨q, o, r, c, h1, h2, h3⟩ := h k hk
  have := World.block_lt_of_cell? w _ h2
  exact ⟨q, o, r, c, h1, (hb.cell (p := ⟨q, o + k, none⟩) (by simp at this ⊢; omega)).trans h2, h3.below hb hB⟩

theorem cells_list : Try.prog.cellsOf 34 = 1 := by kernel_rfl

set_option maxRecDepth 100000 in
/-- A list of ints, by its cell. -/
theorem came_raw {H : Type} {enc : TypeId × Value → H} {W : World} {fuel : Nat} {cs : List Value} {x : DataW H × List MemPlace} (hf : DataW.trod enc Try.prog W 0 (fun _ => true) true fuel 34 cs = some x) :
    ∃ p xs c, cs = [.slice p xs.length c] ∧ Came W p xs c := by
  rcases Go.ChangeShapes.open_ints Try.underlying34 Try.underlying3 cells_int hf with ⟨hcs, _⟩ | ⟨x, l, c, zs, hcs, _, hl, hm, hz, _, hcell, hwz⟩
  · exact ⟨none, [], 0, hcs, fun _ => ⟨rfl, rfl⟩, Reads.nil _ _, fun k hk => by simp at hk⟩
  · have hz' : zs.length = c := by simpa using hz
    have hlen : (zs.take l).length = l := by rw [List.length_take]; omega
    have hnth : ∀ k, k < l → nth (zs.take l) k = zs.getD k 0 := fun k hk => by
      have hk2 : k < zs.length := by omega
      rw [nth_eq (by omega)]
      simp [List.getD, hk2]
    refine ⟨some x, zs.take l, c, by rw [hlen]; exact hcs, (fun h => by cases h), fun k hk => ?_, fun k hk => ?_⟩
    · rw [hlen] at hk
      obtain ⟨q, o, rfl, hc⟩ := ints_at hcell (by omega)
      refine ⟨q, o, rfl, ?_⟩
      rw [hnth k hk]
      exact hc k (by omega)
    · rw [hlen] at hk
      rw [hnth k hk]
      have hmem : zs.getD k 0 ∈ zs := by
        have hk2 : k < zs.length := by omega
        simp [List.getD, hk2]
      have := hwz _ hmem
      generalize zs.getD k 0 = g at this ⊢
      simp [Lit.wf, IntKind.min, IntKind.max, IntKind.signed, IntKind.bits] at this
      omega

set_option maxRecDepth 100000 in
/-- A list of lists that came in, opened. -/
theorem cameL_open {H : Type} {enc : TypeId × Value → H} {W : World} {v : Value} {d : DataW H} {ps : List MemPlace} {j : Nat} (hv : Value.okWide Try.prog W .any j 35 v) (h : DataW.Trod enc Try.prog W 0 (fun _ => true) true 35 v d ps) :
    ∃ p ls c, v = .slice p ls.length c ∧ CameL W p ls := by
  obtain ⟨a0, len0, cap0, rfl⟩ := Go.WideShapes.okWide_slice Try.underlying35 hv
  obtain ⟨fuel, hf⟩ := h
  rcases DataW.trod_slice Try.underlying35 hf with ⟨hcs, _⟩ | ⟨a, len, cap, elems, rest, n, _, hcs, _, hb, hl, hm, hlen, hel, _, _⟩
  · simp [Value.cells] at hcs
    obtain ⟨rfl, rfl, rfl⟩ := hcs
    exact ⟨none, [], 0, rfl, fun k hk => by simp at hk⟩
  · simp [Value.cells] at hcs
    obtain ⟨rfl, rfl, rfl⟩ := hcs
    have each : ∀ i, i < len0 → ∃ xs : List Int, ∃ r c, W.cell? (a.add i) = some (.slice r xs.length c) ∧ Came W r xs c := fun i hi => by
      have h1 := hel i hi
      rw [cells_list, Nat.mul_one, List.getElem?_eq_getElem (by omega), Option.bind_eq_some_iff] at h1
      obtain ⟨cs', h2, h3⟩ := h1
      obtain ⟨p, xs, c, rfl, hC⟩ := came_raw h3
      exact ⟨xs, p, c, Go.ChangeShapes.cell_of_cells?_one h2, hC⟩
    obtain ⟨f, hf'⟩ : ∃ f : Nat → List Int, ∀ i, i < len0 → ∃ r c, W.cell? (a.add i) = some (.slice r (f i).length c) ∧ Came W r (f i) c :=
      ⟨fun i => if h : i < len0 then Classical.choose (each i h) else [], fun i hi => by
        simp only [dif_pos hi]
        exact Classical.choose_spec (each i hi)⟩
    have hll : ((List.range len0).map f).length = len0 := by simp
    refine ⟨some a, (List.range len0).map f, cap0, by rw [hll], fun k hk => ?_⟩
    rw [hll] at hk
    obtain ⟨r, c, h1, h2⟩ := hf' k hk
    have hn : nthL ((List.range len0).map f) k = f k := by unfold nthL; simp [hk]
    obtain ⟨b, off, spot⟩ := a
    obtain ⟨r0, c0, h00, _⟩ := hf' 0 (by omega)
    have hspot : spot = none := by simpa [Addr.add] using World.cell?_spot h00
    subst hspot
    rw [Go.WideShapes.add_plain] at h1
    exact ⟨b, off, r, c, rfl, by rw [hn]; exact h1, by rw [hn]; exact h2⟩
end Go.Proofs.Ytnpnnfbmnlgioaa
