/-
  How a pair of bytes that came in is opened.
-/
import Derived.Test.YtagodfaclohkmaaT
import Derived.OpenShut
namespace Go.Proofs.Ytagodfaclohkmaa
open Go.RowKit

theorem cells_u8 : Try.prog.cellsOf 5 = 1 := by kernel_rfl
theorem cells_pair8 : Try.prog.cellsOf 60 = 2 := by kernel_rfl
set_option maxRecDepth 100000 in
theorem open_pair8 {H : Type} {enc : TypeId × Value → H} {W : World} {v : Value} {d : DataW H} {ps : List MemPlace} {j : Nat} (hv : Value.okWide Try.prog W .any j 60 v) (h : DataW.Trod enc Try.prog W 0 (fun _ => true) true 60 v d ps) :
    ∃ x y : Int, v = .agg #[.int .u8 x, .int .u8 y] ∧ 0 ≤ x ∧ x ≤ 255 ∧ 0 ≤ y ∧ y ≤ 255 := by
  simp only [Value.okWide, Try.underlying60] at hv
  obtain ⟨cs, rfl, h2, _⟩ := hv
  rw [cells_pair8] at h2
  obtain ⟨c0, c1, rfl⟩ : ∃ c0 c1, cs = #[c0, c1] := by
    rcases cs with ⟨l⟩
    match l, h2 with
    | [a, b], _ => exact ⟨a, b, rfl⟩
  obtain ⟨fuel, hf⟩ := h
  obtain ⟨xs, m, _, _, _, hlen, hi⟩ := DataW.trod_array Try.underlying60 hf
  have e0 := hi 0 (by omega)
  have e1 := hi 1 (by omega)
  rw [cells_u8] at e0 e1
  obtain ⟨y0, hy0⟩ : ∃ y, xs[0]? = some y := ⟨xs[0], List.getElem?_eq_getElem (by omega)⟩
  obtain ⟨y1, hy1⟩ : ∃ y, xs[1]? = some y := ⟨xs[1], List.getElem?_eq_getElem (by omega)⟩
  rw [hy0] at e0
  rw [hy1] at e1
  have e0 : DataW.trod enc Try.prog W 0 (fun _ => true) true m 5 [c0] = some y0 := by simpa [Value.cells] using e0
  have e1 : DataW.trod enc Try.prog W 0 (fun _ => true) true m 5 [c1] = some y1 := by simpa [Value.cells] using e1
  obtain ⟨x, g0, -, w0⟩ := DataW.trod_int Try.underlying5 e0
  obtain ⟨y, g1, -, w1⟩ := DataW.trod_int Try.underlying5 e1
  simp only [List.cons.injEq, and_true] at g0 g1
  subst g0 g1
  refine ⟨x, y, rfl, ?_⟩
  simp [Lit.wf, IntKind.min, IntKind.max, IntKind.signed, IntKind.bits] at w0 w1
  omega
end Go.Proofs.Ytagodfaclohkmaa
