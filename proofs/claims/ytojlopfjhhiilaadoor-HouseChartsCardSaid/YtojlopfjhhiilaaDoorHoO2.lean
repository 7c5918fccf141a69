/-
  What the listed variables hold: the parents of the places, with the rulers.
-/
import Derived.Test.YtojlopfjhhiilaaDoorHoO
namespace Go.Proofs.YtojlopfjhhiilaaDoor
open Go Go.ChangeShapes Go.WideShapes Go.ChangeAt Go.RowKit
set_option linter.unusedVariables false

theorem gPar : Tryd.prog.globalNamed "astragal/shield.parents" = some 1 := by kernel_rfl
theorem tPar : (Tryd.prog.globals[1]?).map (·.type) = some 126 := by kernel_rfl
theorem cells_n : Tryd.prog.cellsOf 3 = 1 := by kernel_rfl
theorem cells_p : Tryd.prog.cellsOf 41 = 2 := by kernel_rfl
theorem pair_cells {cs : List Value} {i : Nat} {a b : Int} (h : (cs.drop (i * 2)).take 2 = [.int .i64 a, .int .i64 b]) : cs[2 * i]? = some (.int .i64 a) ∧ cs[2 * i + 1]? = some (.int .i64 b) := by
  have h0 : ((cs.drop (i * 2)).take 2)[0]? = some (.int .i64 a) := by rw [h]; rfl
  have h1 : ((cs.drop (i * 2)).take 2)[1]? = some (.int .i64 b) := by rw [h]; rfl
  rw [List.getElem?_take, if_pos (by omega), List.getElem?_drop] at h0 h1
  rw [Nat.mul_comm] at h0 h1
  exact ⟨by simpa using h0, h1⟩

theorem par_of {W : World} {g0 : Nat} {t0 : TypeId} {cs0 : Array Value} {f0 : Nat} {p0 : List MemPlace} (hg0 : Tryd.prog.globalNamed "astragal/shield.parents" = some g0) (ht0 : (Tryd.prog.globals[g0]?).map (·.type) = some t0) (hv0 : W.var? Tryd.prog "astragal/shield.parents" = some cs0)
    (hd0 : DataW.trod (fun _ => ()) Tryd.prog W 0 (fun _ => true) false f0 t0 cs0.toList = some (Rows.laid_astragal_shield_parents, p0)) : Par W := by
  obtain rfl := Option.some.inj (gPar.symm.trans hg0)
  obtain rfl := Option.some.inj (tPar.symm.trans ht0)
  obtain ⟨xs, m1, rfl, hx1, hlen, hn, hel⟩ := DataW.trod_array Tryd.underlying126 hd0
  rw [cells_p] at hel
  have hx : Rows.laid_astragal_shield_parents = DataW.agg (xs.map (·.1)) := (Prod.mk.inj hx1).1
  unfold Rows.laid_astragal_shield_parents at hx
  simp only [DataW.agg.injEq] at hx
  have key : ∀ i (a b : Int), i < 8 → (xs.map (·.1))[i]? = some (Lib.tabData .i64 [a, b]) → cs0[2 * i]? = some (.int .i64 a) ∧ cs0[2 * i + 1]? = some (.int .i64 b) := by
    intro i a b hi hk
    rw [List.getElem?_map] at hk
    obtain ⟨x, hx1, hx2⟩ := Option.map_eq_some_iff.1 hk
    have he := hel i hi
    rw [hx1] at he
    have he2 : DataW.trod (fun _ => ()) Tryd.prog W 0 (fun _ => true) false m1 41 ((cs0.toList.drop (i * 2)).take 2) = some (Lib.tabData .i64 [a, b], x.2) := by rw [he, ← hx2]
    have := Lib.cells_of_tab Tryd.underlying41 Tryd.underlying3 cells_n cells_p he2
    have := pair_cells this
    simpa using this
  rw [← hx] at key
  intro j hj
  have hv := World.var?_cell hg0 hv0 j
  rw [hv]
  have k0 := key 0 0 1 (by omega) rfl
  have k1 := key 1 2 3 (by omega) rfl
  have k2 := key 2 4 5 (by omega) rfl
  have k3 := key 3 6 7 (by omega) rfl
  have k4 := key 4 8 9 (by omega) rfl
  have k5 := key 5 10 11 (by omega) rfl
  have k6 := key 6 12 13 (by omega) rfl
  have k7 := key 7 14 0 (by omega) rfl
  have hc : j = 0 ∨ j = 1 ∨ j = 2 ∨ j = 3 ∨ j = 4 ∨ j = 5 ∨ j = 6 ∨ j = 7 ∨ j = 8 ∨ j = 9 ∨ j = 10 ∨ j = 11 ∨ j = 12 ∨ j = 13 ∨ j = 14 ∨ j = 15 := by omega
  rcases hc with rfl | rfl | rfl | rfl | rfl | rfl | rfl | rfl | rfl | rfl | rfl | rfl | rfl | rfl | rfl | rfl
  · exact k0.1
  · exact k0.2
  · exact k1.1
  · exact k1.2
  · exact k2.1
  · exact k2.2
  · exact k3.1
  · exact k3.2
  · exact k4.1
  · exact k4.2
  · exact k5.1
  · exact k5.2
  · exact k6.1
  · exact k6.2
  · exact k7.1
  · exact k7.2
def laid2 : List (String × DataW Unit) := [("astragal/shield.parents", Rows.laid_astragal_shield_parents), ("astragal/house.rulers", Rows.laid_astragal_house_rulers)]
theorem of_laid2 {W : World} (h : laidMetH Tryd.prog laid2 W) : Par W ∧ Rul W := by
  rw [MakeChecks.laidMetH_plain _ _ _ (by kernel_rfl)] at h
  obtain ⟨ps, ⟨g0, t0, cs0, f0, p0, q0, hg0, ht0, hv0, hd0, ⟨g1, t1, cs1, f1, p1, q1, hg1, ht1, hv1, hd1, _, _⟩, _⟩, _, _⟩ := h
  exact ⟨par_of hg0 ht0 hv0 hd0, rul_of hg1 ht1 hv1 hd1⟩
theorem door_met2 (os : Os) (args : Array Value) : laidMetH Tryd.prog laid2 ((World.doorLaid Tryd.prog 400 os).forCall (fun _ _ => 0) ⟨#[], args, []⟩).memory :=
  laidMetH_of_parts3 (fuel := 8) (laidMet_of_run' 8 (by kernel_rfl) (by kernel_rfl)) (by kernel_rfl) (by kernel_rfl)
end Go.Proofs.YtojlopfjhhiilaaDoor
