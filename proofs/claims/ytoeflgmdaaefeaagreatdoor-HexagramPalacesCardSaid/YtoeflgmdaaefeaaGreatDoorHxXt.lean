/-
  What the listed variables hold, with the table of turned lines.
-/
import Derived.Test.YtoeflgmdaaefeaaGreatDoorHxX
import Derived.Test.YtoeflgmdaaefeaaGreatDoorHxPa
namespace Go.Proofs.YtoeflgmdaaefeaaGreatDoor
open Go Go.ChangeShapes Go.WideShapes Go.ChangeAt Go.RowKit
set_option linter.unusedVariables false

theorem gTrn : Tryz.prog.globalNamed "astragal/hexagram.turned" = some 0 := by kernel_rfl
theorem tTrn : (Tryz.prog.globals[0]?).map (·.type) = some 74 := by kernel_rfl
theorem cells_8 : Tryz.prog.cellsOf 74 = 8 := by kernel_rfl
theorem trn_of {W : World} {g0 : Nat} {t0 : TypeId} {cs0 : Array Value} {f0 : Nat} {p0 : List MemPlace} (hg0 : Tryz.prog.globalNamed "astragal/hexagram.turned" = some g0) (ht0 : (Tryz.prog.globals[g0]?).map (·.type) = some t0) (hv0 : W.var? Tryz.prog "astragal/hexagram.turned" = some cs0)
    (hd0 : DataW.trod (fun _ => ()) Tryz.prog W 0 (fun _ => true) false f0 t0 cs0.toList = some (Rows.laid_astragal_hexagram_turned, p0)) : Trn W := by
  obtain rfl := Option.some.inj (gTrn.symm.trans hg0)
  obtain rfl := Option.some.inj (tTrn.symm.trans ht0)
  have he2 : DataW.trod (fun _ => ()) Tryz.prog W 0 (fun _ => true) false f0 74 cs0.toList = some (Lib.tabData .i64 trnL, p0) := hd0
  have h := Lib.cells_of_tab Tryz.underlying74 Tryz.underlying3 cells_i cells_8 he2
  intro j hj
  rw [World.var?_cell hg0 hv0 j]
  have e : cs0.toList[j]? = some (.int .i64 (nth trnL j)) := by
    rw [h, List.getElem?_map, List.getElem?_eq_getElem (by rw [show trnL.length = 8 from rfl]; omega)]
    unfold nth
    rw [List.getD_eq_getElem?_getD, List.getElem?_eq_getElem (by rw [show trnL.length = 8 from rfl]; omega)]
    rfl
  simpa using e
theorem of_laid5t {W : World} (h : laidMetH Tryz.prog laid5 W) : Src W ∧ Fst W ∧ Trn W := by
  rw [MakeChecks.laidMetH_plain _ _ _ (by kernel_rfl)] at h
  obtain ⟨ps, ⟨g0, t0, cs0, f0, p0, q0, hg0, ht0, hv0, hd0, ⟨g1, t1, cs1, f1, p1, q1, hg1, ht1, hv1, hd1, ⟨g2, t2, cs2, f2, p2, q2, hg2, ht2, hv2, hd2, ⟨g3, t3, cs3, f3, p3, q3, hg3, ht3, hv3, hd3, _, _⟩, _⟩, _⟩, _⟩, _, _⟩ := h
  exact ⟨src_of (H := Unit) (q0 := q1) hg1 ht1 hv1 hd1, fst_of hg3 ht3 hv3 hd3, trn_of hg2 ht2 hv2 hd2⟩
end Go.Proofs.YtoeflgmdaaefeaaGreatDoor
