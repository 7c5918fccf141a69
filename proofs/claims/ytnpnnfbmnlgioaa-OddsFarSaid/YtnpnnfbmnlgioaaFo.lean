/-
  How a struct of two lists of ints and a number that came in is opened.
-/
import Derived.Test.YtnpnnfbmnlgioaaCo
namespace Go.Proofs.Ytnpnnfbmnlgioaa
open Go.RowKit

set_option maxRecDepth 100000 in
/-- A list of ints in a field of a struct that came in, opened. -/
theorem came_field {H : Type} {enc : TypeId × Value → H} {W : World} {v : Value} {m : Nat} {y : DataW H × List MemPlace} (hf : DataW.trod enc Try.prog W 0 (fun _ => true) true m 34 [v] = some y) :
    ∃ p xs c, v = .slice p xs.length c ∧ Came W p xs c := by
  rcases Go.ChangeShapes.open_ints Try.underlying34 Try.underlying3 cells_int hf with ⟨hcs, _⟩ | ⟨x, l, c, zs, hcs, _, hl, hm, hz, _, hcell, hwz⟩
  · simp only [List.cons.injEq, and_true] at hcs
    exact ⟨none, [], 0, hcs, ⟨fun _ => ⟨rfl, rfl⟩, Reads.nil _ _, fun k hk => by simp at hk⟩⟩
  · simp only [List.cons.injEq, and_true] at hcs
    have hz' : zs.length = c := by simpa using hz
    have hlen : (zs.take l).length = l := by rw [List.length_take]; omega
    have hnth : ∀ k, k < l → nth (zs.take l) k = zs.getD k 0 := fun k hk => by
      have hk2 : k < zs.length := by omega
      rw [nth_eq (by omega)]
      simp [List.getD, hk2]
    refine ⟨some x, zs.take l, c, by rw [hlen]; exact hcs, ⟨(fun h => by cases h), fun k hk => ?_, fun k hk => ?_⟩⟩
    · rw [hlen] at hk
      obtain ⟨q, o, rfl, hc⟩ := ints_at hcell (by omega)
      refine ⟨q, o, rfl, ?_⟩
      rw [hnth k hk]
      exact hc k (by omega)
    · rw [hlen] at hk
      rw [hnth k hk]
      have hmem : zs.getD k 0 ∈ zs := by
        have hk2 : k < zs.length := by omega
        simp [List.getD, hk2]
      have := hwz _ hmem
      generalize zs.getD k 0 = g at this ⊢
      simp [Lit.wf, IntKind.min, IntKind.max, IntKind.signed, IntKind.bits] at this
      omega
theorem cells_third : Try.prog.cellsOf 47 = 3 := by kernel_rfl
theorem cells_u32 : Try.prog.cellsOf 45 = 1 := by kernel_rfl
theorem cells_ints : Try.prog.cellsOf 34 = 1 := by kernel_rfl
set_option maxRecDepth 100000 in
theorem open_third {H : Type} {enc : TypeId × Value → H} {W : World} {v : Value} {d : DataW H} {ps : List MemPlace} {j : Nat} (hv : Value.okWide Try.prog W .any j 47 v) (h : DataW.Trod enc Try.prog W 0 (fun _ => true) true 47 v d ps) :
    ∃ (p : Option Addr) (xs : List Int) (c : Nat) (S : Int) (q : Option Addr) (ys : List Int) (e : Nat), v = .agg #[.slice p xs.length c, .int .u32 S, .slice q ys.length e] ∧ Came W p xs c ∧ Came W q ys e := by
  obtain ⟨cs, rfl, h2⟩ := Go.WideShapes.okWide_struct Try.underlying47 hv
  rw [cells_third] at h2
  obtain ⟨c0, c1, c2, rfl⟩ : ∃ c0 c1 c2, cs = #[c0, c1, c2] := by
    rcases cs with ⟨l⟩
    match l, h2 with
    | [a, b, c], _ => exact ⟨a, b, c, rfl⟩
  obtain ⟨fuel, hf⟩ := h
  obtain ⟨xs, n, _, _, _, hlen, hi⟩ := DataW.trod_struct Try.underlying47 hf
  have l3 : xs.length = 3 := hlen
  have e0 : DataW.trod enc Try.prog W 0 (fun _ => true) true n 34 (([c0, c1, c2].drop 0).take (Try.prog.cellsOf 34)) = xs[0]? := hi 0 _ rfl
  have e1 : DataW.trod enc Try.prog W 0 (fun _ => true) true n 45 (([c0, c1, c2].drop 1).take (Try.prog.cellsOf 45)) = xs[1]? := hi 1 _ rfl
  have e2 : DataW.trod enc Try.prog W 0 (fun _ => true) true n 34 (([c0, c1, c2].drop 2).take (Try.prog.cellsOf 34)) = xs[2]? := hi 2 _ rfl
  rw [cells_ints, List.getElem?_eq_getElem (by omega)] at e0 e2
  rw [cells_u32, List.getElem?_eq_getElem (by omega)] at e1
  change DataW.trod enc Try.prog W 0 (fun _ => true) true n 34 [c0] = _ at e0
  change DataW.trod enc Try.prog W 0 (fun _ => true) true n 45 [c1] = _ at e1
  change DataW.trod enc Try.prog W 0 (fun _ => true) true n 34 [c2] = _ at e2
  obtain ⟨x, g1, -, -⟩ := DataW.trod_int Try.underlying45 e1
  obtain ⟨p, us, c, rfl, hA⟩ := came_field e0
  obtain ⟨q, vs, e, rfl, hB⟩ := came_field e2
  simp only [List.cons.injEq, and_true] at g1
  subst g1
  exact ⟨p, us, c, x, q, vs, e, rfl, hA, hB⟩
end Go.Proofs.Ytnpnnfbmnlgioaa
