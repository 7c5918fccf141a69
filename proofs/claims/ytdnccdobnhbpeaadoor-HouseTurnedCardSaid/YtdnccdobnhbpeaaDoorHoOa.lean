/-
  What the listed variables hold, said of their cells; and the heap that the door's own run leaves.
  An array of ints that came in, opened.
-/
import Derived.Test.YtdnccdobnhbpeaaDoorHoK
import Derived.Test.YtdnccdobnhbpeaaDoorTie
import Derived.ProofKit
import Derived.LaidMore
import Derived.OpenShut
import Derived.Lib.LaidTab
import Derived.Stop.Joined
import Derived.Test.YtdnccdobnhbpeaaDoorShD
namespace Go.Proofs.YtdnccdobnhbpeaaDoor
open Go Go.ChangeShapes Go.WideShapes Go.ChangeAt Go.RowKit
set_option linter.unusedVariables false

theorem gRul : Tryd.prog.globalNamed "astragal/house.rulers" = some 0 := by kernel_rfl
theorem tRul : (Tryd.prog.globals[0]?).map (·.type) = some 106 := by kernel_rfl
theorem cells_i : Tryd.prog.cellsOf 76 = 1 := by kernel_rfl
theorem cells_16 : Tryd.prog.cellsOf 106 = 16 := by kernel_rfl
theorem rul_of {W : World} {g0 : Nat} {t0 : TypeId} {cs0 : Array Value} {f0 : Nat} {p0 : List MemPlace} (hg0 : Tryd.prog.globalNamed "astragal/house.rulers" = some g0) (ht0 : (Tryd.prog.globals[g0]?).map (·.type) = some t0) (hv0 : W.var? Tryd.prog "astragal/house.rulers" = some cs0)
    (hd0 : DataW.trod (fun _ => ()) Tryd.prog W 0 (fun _ => true) false f0 t0 cs0.toList = some (Rows.laid_astragal_house_rulers, p0)) : Rul W := by
  obtain rfl := Option.some.inj (gRul.symm.trans hg0)
  obtain rfl := Option.some.inj (tRul.symm.trans ht0)
  have he2 : DataW.trod (fun _ => ()) Tryd.prog W 0 (fun _ => true) false f0 106 cs0.toList = some (Lib.tabData .i64 rulL, p0) := hd0
  have h := Lib.cells_of_tab Tryd.underlying106 Tryd.underlying76 cells_i cells_16 he2
  intro j hj
  rw [World.var?_cell hg0 hv0 j]
  have e : cs0.toList[j]? = some (.int .i64 (nth rulL j)) := by
    rw [h, List.getElem?_map, List.getElem?_eq_getElem (by rw [show rulL.length = 16 from rfl]; omega)]
    unfold nth
    rw [List.getD_eq_getElem?_getD, List.getElem?_eq_getElem (by rw [show rulL.length = 16 from rfl]; omega)]
    rfl
  simpa using e
def laid1 : List (String × DataW Unit) := [("astragal/house.rulers", Rows.laid_astragal_house_rulers)]
theorem of_laid1 {W : World} (h : laidMetH Tryd.prog laid1 W) : Rul W := by
  rw [MakeChecks.laidMetH_plain _ _ _ (by kernel_rfl)] at h
  obtain ⟨ps, ⟨g0, t0, cs0, f0, p0, q0, hg0, ht0, hv0, hd0, _, _⟩, _, _⟩ := h
  exact rul_of hg0 ht0 hv0 hd0
theorem door_met1 (os : Os) (args : Array Value) : laidMetH Tryd.prog laid1 ((World.doorLaid Tryd.prog 400 os).forCall (fun _ _ => 0) ⟨#[], args, []⟩).memory :=
  laidMetH_of_parts3 (fuel := 8) (laidMet_of_run' 8 (by kernel_rfl) (by kernel_rfl)) (by kernel_rfl) (by kernel_rfl)
theorem ho_own : ownKnob Tryd.prog.godebug = none := by kernel_rfl
theorem ho_laidOut : laidOutB Tryd.prog = true := by kernel_rfl
theorem ho_small : Tryd.prog.globals.size ≤ 5 := of_decide_eq_true (by kernel_rfl)
theorem ho_begun : 5 < (begin Tryd.prog (fun _ _ => 0) default).world.heap.size := of_decide_eq_true (by kernel_rfl)
end Go.Proofs.YtdnccdobnhbpeaaDoor

namespace Go.Proofs.YtdnccdobnhbpeaaDoor
open Go Go.ChangeShapes Go.WideShapes Go.ChangeAt Go.RowKit
set_option linter.unusedVariables false

set_option maxRecDepth 100000 in
theorem came_arr {H : Type} {enc : TypeId × Value → H} {W : World} {v : Value} {d : DataW H} {ps : List MemPlace} {j t e n : Nat} (ht : Tryd.prog.underlying t = some (.array n e)) (he : Tryd.prog.underlying e = some (.int .i64)) (hce : Tryd.prog.cellsOf e = 1) (hct : Tryd.prog.cellsOf t = n)
    (hv : Value.okWide Tryd.prog W .any j t v) (h : DataW.Trod enc Tryd.prog W 0 (fun _ => true) true t v d ps) :
    ∃ zs : List Int, v = .agg (arr zs) ∧ zs.length = n ∧ ∀ k, k < n → -9223372036854775808 ≤ nth zs k ∧ nth zs k ≤ 9223372036854775807 := by
  simp only [Value.okWide, ht] at hv
  obtain ⟨cs, rfl, hsz, _⟩ := hv
  obtain ⟨fuel, hf⟩ := h
  obtain ⟨xs, m, rfl, hx, hlen, hn, hel⟩ := DataW.trod_array ht hf
  have hcs : (Value.agg cs).cells.toList = cs.toList := rfl
  rw [hcs] at hel
  have key : ∀ i, i < n → ∃ z : Int, cs.toList[i]? = some (.int .i64 z) ∧ (Lit.int .i64 z).wf = true := fun i hi => by
    have h0 := hel i hi
    rw [hce, Nat.mul_one, List.getElem?_eq_getElem (by omega)] at h0
    obtain ⟨z, e1, _, e3⟩ := DataW.trod_int he h0
    have h1 : ((cs.toList.drop i).take 1)[0]? = some (.int .i64 z) := by rw [e1]; rfl
    rw [List.getElem?_take, if_pos (by omega), List.getElem?_drop, Nat.add_zero] at h1
    exact ⟨z, h1, e3⟩
  have hcn : cs.toList.length = n := by
    have h1 : cs.toList.length = Tryd.prog.cellsOf t := by simpa using hsz
    rw [hct] at h1
    exact h1
  refine ⟨cs.toList.map (fun v => match v with | .int _ z => z | _ => 0), ?_, by simpa using hcn, fun k hk => ?_⟩
  · congr 1
    apply Array.ext'
    simp only [arr, List.map_map]
    apply List.ext_getElem
    · simp
    · intro i h1 h2
      obtain ⟨z, hz, _⟩ := key i (by omega)
      rw [List.getElem?_eq_getElem h1] at hz
      simp only [Option.some.injEq] at hz
      simp [hz]
  · obtain ⟨z, hz, hw⟩ := key k hk
    have : nth (cs.toList.map (fun v => match v with | .int _ z => z | _ => 0)) k = z := by
      unfold nth
      rw [List.getD_eq_getElem?_getD, List.getElem?_map, hz]
      rfl
    rw [this]
    simp [Lit.wf, IntKind.min, IntKind.max, IntKind.signed, IntKind.bits] at hw
    omega
end Go.Proofs.YtdnccdobnhbpeaaDoor

