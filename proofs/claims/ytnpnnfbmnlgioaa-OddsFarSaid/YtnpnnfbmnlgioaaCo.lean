/-
  How a chance that came in is opened: a struct of two ints.
-/
import Derived.Test.YtnpnnfbmnlgioaaT
import Derived.Test.YtnpnnfbmnlgioaaCa
import Derived.OpenShut
import Derived.ChangeSame
namespace Go.Proofs.Ytnpnnfbmnlgioaa
open Go.RowKit

theorem cells_chance : Try.prog.cellsOf 23 = 2 := by kernel_rfl
set_option maxRecDepth 100000 in
theorem open_chance {H : Type} {enc : TypeId × Value → H} {W : World} {v : Value} {d : DataW H} {ps : List MemPlace} {j : Nat} (hv : Value.okWide Try.prog W .any j 23 v) (h : DataW.Trod enc Try.prog W 0 (fun _ => true) true 23 v d ps) :
    ∃ x y : Int, v = .agg #[.int .i64 x, .int .i64 y] := by
  obtain ⟨cs, rfl, h2⟩ := Go.WideShapes.okWide_struct Try.underlying23 hv
  rw [cells_chance] at h2
  obtain ⟨c0, c1, rfl⟩ : ∃ c0 c1, cs = #[c0, c1] := by
    rcases cs with ⟨l⟩
    match l, h2 with
    | [a, b], _ => exact ⟨a, b, rfl⟩
  obtain ⟨fuel, hf⟩ := h
  obtain ⟨y0, y1, n, _, _, e0, e1⟩ := Go.ChangeShapes.trod_struct2 Try.underlying23 hf
  simp only [cells_int] at e0 e1
  have e0 : DataW.trod enc Try.prog W 0 (fun _ => true) true n 3 [c0] = some y0 := by simpa [Value.cells] using e0
  have e1 : DataW.trod enc Try.prog W 0 (fun _ => true) true n 3 [c1] = some y1 := by simpa [Value.cells] using e1
  obtain ⟨x, g0, -, -⟩ := DataW.trod_int Try.underlying3 e0
  obtain ⟨y, g1, -, -⟩ := DataW.trod_int Try.underlying3 e1
  simp only [List.cons.injEq, and_true] at g0 g1
  subst g0 g1
  exact ⟨x, y, rfl⟩
end Go.Proofs.Ytnpnnfbmnlgioaa
