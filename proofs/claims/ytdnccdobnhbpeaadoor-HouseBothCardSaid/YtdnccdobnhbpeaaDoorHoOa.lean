/-
  An array of ints that came in, opened.
-/
import Derived.Test.YtdnccdobnhbpeaaDoorHoO
import Derived.Test.YtdnccdobnhbpeaaDoorShD
namespace Go.Proofs.YtdnccdobnhbpeaaDoor
open Go Go.ChangeShapes Go.WideShapes Go.ChangeAt Go.RowKit
set_option linter.unusedVariables false

set_option maxRecDepth 100000 in
theorem came_arr {H : Type} {enc : TypeId × Value → H} {W : World} {v : Value} {d : DataW H} {ps : List MemPlace} {j t e n : Nat} (ht : Tryd.prog.underlying t = some (.array n e)) (he : Tryd.prog.underlying e = some (.int .i64)) (hce : Tryd.prog.cellsOf e = 1) (hct : Tryd.prog.cellsOf t = n)
    (hv : Value.okWide Tryd.prog W .any j t v) (h : DataW.Trod enc Tryd.prog W 0 (fun _ => true) true t v d ps) :
    ∃ zs : List Int, v = .agg (arr zs) ∧ zs.length = n ∧ ∀ k, k < n → -9223372036854775808 ≤ nth zs k ∧ nth zs k ≤ 9223372036854775807 := by
  simp only [Value.okWide, ht] at hv
  obtain ⟨cs, rfl, hsz, _⟩ := hv
  obtain ⟨fuel, hf⟩ := h
  obtain ⟨xs, m, rfl, hx, hlen, hn, hel⟩ := DataW.trod_array ht hf
  have hcs : (Value.agg cs).cells.toList = cs.toList := rfl
  rw [hcs] at hel
  have key : ∀ i, i < n → ∃ z : Int, cs.toList[i]? = some (.int .i64 z) ∧ (Lit.int .i64 z).wf = true := fun i hi => by
    have h0 := hel i hi
    rw [hce, Nat.mul_one, List.getElem?_eq_getElem (by omega)] at h0
    obtain ⟨z, e1, _, e3⟩ := DataW.trod_int he h0
    have h1 : ((cs.toList.drop i).take 1)[0]? = some (.int .i64 z) := by rw [e1]; rfl
    rw [List.getElem?_take, if_pos (by omega), List.getElem?_drop, Nat.add_zero] at h1
    exact ⟨z, h1, e3⟩
  have hcn : cs.toList.length = n := by
    have h1 : cs.toList.length = Tryd.prog.cellsOf t := by simpa using hsz
    rw [hct] at h1
    exact h1
  refine ⟨cs.toList.map (fun v => match v with | .int _ z => z | _ => 0), ?_, by simpa using hcn, fun k hk => ?_⟩
  · congr 1
    apply Array.ext'
    simp only [arr, List.map_map]
    apply List.ext_getElem
    · simp
    · intro i h1 h2
      obtain ⟨z, hz, _⟩ := key i (by omega)
      rw [List.getElem?_eq_getElem h1] at hz
      simp only [Option.some.injEq] at hz
      simp [hz]
  · obtain ⟨z, hz, hw⟩ := key k hk
    have : nth (cs.toList.map (fun v => match v with | .int _ z => z | _ => 0)) k = z := by
      unfold nth
      rw [List.getD_eq_getElem?_getD, List.getElem?_map, hz]
      rfl
    rw [this]
    simp [Lit.wf, IntKind.min, IntKind.max, IntKind.signed, IntKind.bits] at hw
    omega
end Go.Proofs.YtdnccdobnhbpeaaDoor
