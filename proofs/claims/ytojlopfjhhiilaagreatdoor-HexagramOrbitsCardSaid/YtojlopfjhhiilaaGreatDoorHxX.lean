/-
  What the listed variables hold, said of their cells; and a heap in which they are laid.
-/
import Derived.Test.YtojlopfjhhiilaaGreatDoorHxW
import Derived.Test.YtojlopfjhhiilaaGreatDoorTie
import Derived.ProofKit
import Derived.LaidMore
import Derived.Lay
import Derived.OpenShut
import Derived.Lib.LaidTab
import Derived.Stop.Joined
namespace Go.Proofs.YtojlopfjhhiilaaGreatDoor
open Go Go.ChangeShapes Go.WideShapes Go.ChangeAt Go.RowKit
set_option linter.unusedVariables false

theorem gSrc : Tryz.prog.globalNamed "astragal/hexagram.sources" = some 0 := by kernel_rfl
theorem gFst : Tryz.prog.globalNamed "astragal/hexagram.firmSets" = some 1 := by kernel_rfl
theorem tSrc : (Tryz.prog.globals[0]?).map (·.type) = some 104 := by kernel_rfl
theorem tFst : (Tryz.prog.globals[1]?).map (·.type) = some 110 := by kernel_rfl
theorem cells_i : Tryz.prog.cellsOf 3 = 1 := by kernel_rfl
theorem cells_u : Tryz.prog.cellsOf 60 = 1 := by kernel_rfl
theorem cells_6 : Tryz.prog.cellsOf 56 = 6 := by kernel_rfl
def laid4 : List (String × DataW Unit) := [("unicode/utf8.acceptRanges", Rows.laid_unicode_utf8_acceptRanges), ("astragal/hexagram.sources", Rows.laid_astragal_hexagram_sources), ("astragal/hexagram.firmSets", Rows.laid_astragal_hexagram_firmSets), ("unicode/utf8.first", Rows.laid_unicode_utf8_first)]

theorem six_cells {cs : List Value} {i : Nat} {l : List Int} (hl : l.length = 6) (h : (cs.drop (i * 6)).take 6 = l.map (Value.int .i64)) (k : Nat) (hk : k < 6) : cs[6 * i + k]? = some (.int .i64 (nth l k)) := by
  have h0 : ((cs.drop (i * 6)).take 6)[k]? = some (.int .i64 (nth l k)) := by
    rw [h, List.getElem?_map, List.getElem?_eq_getElem (by omega)]
    unfold nth
    rw [List.getD_eq_getElem?_getD, List.getElem?_eq_getElem (by omega)]
    rfl
  rw [List.getElem?_take, if_pos hk, List.getElem?_drop, Nat.mul_comm] at h0
  exact h0

theorem src_of {W : World} {g0 : Nat} {t0 : TypeId} {cs0 : Array Value} {f0 : Nat} {p0 q0 : List MemPlace} {H : Type} (hg0 : Tryz.prog.globalNamed "astragal/hexagram.sources" = some g0) (ht0 : (Tryz.prog.globals[g0]?).map (·.type) = some t0) (hv0 : W.var? Tryz.prog "astragal/hexagram.sources" = some cs0)
    (hd0 : DataW.trod (fun _ => ()) Tryz.prog W 0 (fun _ => true) false f0 t0 cs0.toList = some (Rows.laid_astragal_hexagram_sources, p0)) : Src W := by
  obtain rfl := Option.some.inj (gSrc.symm.trans hg0)
  obtain rfl := Option.some.inj (tSrc.symm.trans ht0)
  obtain ⟨xs, m1, rfl, hx1, hlen, hn, hel⟩ := DataW.trod_array Tryz.underlying104 hd0
  rw [cells_6] at hel
  have hx : Rows.laid_astragal_hexagram_sources = DataW.agg (xs.map (·.1)) := (Prod.mk.inj hx1).1
  unfold Rows.laid_astragal_hexagram_sources at hx
  simp only [DataW.agg.injEq] at hx
  have key : ∀ i (l : List Int), l.length = 6 → i < 4 → (xs.map (·.1))[i]? = some (Lib.tabData .i64 l) → ∀ k, k < 6 → W.cell? ⟨0, 6 * i + k, none⟩ = some (.int .i64 (nth l k)) := by
    intro i l hl hi hk k hk6
    rw [List.getElem?_map] at hk
    obtain ⟨x, hx1, hx2⟩ := Option.map_eq_some_iff.1 hk
    have he := hel i hi
    rw [hx1] at he
    have he2 : DataW.trod (fun _ => ()) Tryz.prog W 0 (fun _ => true) false m1 56 ((cs0.toList.drop (i * 6)).take 6) = some (Lib.tabData .i64 l, x.2) := by rw [he, ← hx2]
    have h := Lib.cells_of_tab Tryz.underlying56 Tryz.underlying3 cells_i cells_6 he2
    have h3 := six_cells hl h k hk6
    rw [World.var?_cell hg0 hv0]
    simpa using h3
  rw [← hx] at key
  intro j hj
  have k0 := key 0 [5, 4, 3, 2, 1, 0] rfl (by omega) rfl
  have k1 := key 1 [0, 1, 2, 3, 4, 5] rfl (by omega) rfl
  have k2 := key 2 [3, 4, 5, 0, 1, 2] rfl (by omega) rfl
  have k3 := key 3 [1, 2, 3, 2, 3, 4] rfl (by omega) rfl
  rcases (by omega : j < 6 ∨ (6 ≤ j ∧ j < 12) ∨ (12 ≤ j ∧ j < 18) ∨ (18 ≤ j ∧ j < 24)) with h | ⟨h, h'⟩ | ⟨h, h'⟩ | ⟨h, h'⟩
  · have := k0 j h
    rw [Nat.mul_zero, Nat.zero_add] at this
    rw [this]
    have : j = 0 ∨ j = 1 ∨ j = 2 ∨ j = 3 ∨ j = 4 ∨ j = 5 := by omega
    rcases this with rfl | rfl | rfl | rfl | rfl | rfl <;> rfl
  · obtain ⟨j, rfl⟩ : ∃ r, j = 6 + r := ⟨j - 6, by omega⟩
    rw [k1 j (by omega)]
    have : j = 0 ∨ j = 1 ∨ j = 2 ∨ j = 3 ∨ j = 4 ∨ j = 5 := by omega
    rcases this with rfl | rfl | rfl | rfl | rfl | rfl <;> rfl
  · obtain ⟨j, rfl⟩ : ∃ r, j = 12 + r := ⟨j - 12, by omega⟩
    rw [k2 j (by omega)]
    have : j = 0 ∨ j = 1 ∨ j = 2 ∨ j = 3 ∨ j = 4 ∨ j = 5 := by omega
    rcases this with rfl | rfl | rfl | rfl | rfl | rfl <;> rfl
  · obtain ⟨j, rfl⟩ : ∃ r, j = 18 + r := ⟨j - 18, by omega⟩
    rw [k3 j (by omega)]
    have : j = 0 ∨ j = 1 ∨ j = 2 ∨ j = 3 ∨ j = 4 ∨ j = 5 := by omega
    rcases this with rfl | rfl | rfl | rfl | rfl | rfl <;> rfl

theorem fst_of {W : World} {g0 : Nat} {t0 : TypeId} {cs0 : Array Value} {f0 : Nat} {p0 : List MemPlace} (hg0 : Tryz.prog.globalNamed "astragal/hexagram.firmSets" = some g0) (ht0 : (Tryz.prog.globals[g0]?).map (·.type) = some t0) (hv0 : W.var? Tryz.prog "astragal/hexagram.firmSets" = some cs0)
    (hd0 : DataW.trod (fun _ => ()) Tryz.prog W 0 (fun _ => true) false f0 t0 cs0.toList = some (Rows.laid_astragal_hexagram_firmSets, p0)) : Fst W := by
  obtain rfl := Option.some.inj (gFst.symm.trans hg0)
  obtain rfl := Option.some.inj (tFst.symm.trans ht0)
  obtain ⟨xs, m, _, ex, _, hl, hel⟩ := DataW.trod_array Tryz.underlying110 hd0
  have e3 : (xs.map (·.1)) = firmL.map fun n => .lit (.int .u64 n) := (DataW.agg.inj (Prod.mk.inj ex).1).symm
  intro r hr
  have hE := hel r hr
  rw [cells_u, Nat.mul_one, List.getElem?_eq_getElem (by omega)] at hE
  obtain ⟨z, e1, e2, _⟩ := DataW.trod_int Tryz.underlying60 hE
  have hlen : firmL.length = 6 := by kernel_rfl
  have e4 : (xs.map (·.1))[r]? = (firmL.map fun n => (DataW.lit (.int .u64 n) : DataW Unit))[r]? := by rw [e3]
  rw [List.getElem?_map, List.getElem?_map, List.getElem?_eq_getElem (by omega : r < xs.length), List.getElem?_eq_getElem (by omega : r < firmL.length), e2] at e4
  have hz : z = nth firmL r := by
    simp only [Option.map_some, Option.some.injEq, DataW.lit.injEq, Lit.int.injEq, true_and] at e4
    rw [e4]
    unfold nth
    rw [List.getD_eq_getElem?_getD, List.getElem?_eq_getElem (by omega : r < firmL.length)]
    rfl
  rw [World.var?_cell hg0 hv0 r, ← hz]
  have : cs0.toList[r]? = some (.int .u64 z) := by
    have h0 : ((cs0.toList.drop r).take 1)[0]? = some (.int .u64 z) := by rw [e1]; rfl
    simpa using h0
  simpa using this

theorem of_laid4 {W : World} (h : laidMetH Tryz.prog laid4 W) : Src W ∧ Fst W := by
  rw [MakeChecks.laidMetH_plain _ _ _ (by kernel_rfl)] at h
  obtain ⟨ps, ⟨g0, t0, cs0, f0, p0, q0, hg0, ht0, hv0, hd0, ⟨g1, t1, cs1, f1, p1, q1, hg1, ht1, hv1, hd1, ⟨g2, t2, cs2, f2, p2, q2, hg2, ht2, hv2, hd2, _, _⟩, _⟩, _⟩, _, _⟩ := h
  exact ⟨src_of (H := Unit) (q0 := q1) hg1 ht1 hv1 hd1, fst_of hg2 ht2 hv2 hd2⟩
theorem door_met4 (os : Os) (args : Array Value) : laidMetH Tryz.prog laid4 ((World.laidAll Tryz.prog os laid4).forCall (fun _ _ => 0) ⟨#[], args, []⟩).memory := by
  rw [MakeChecks.laidMetH_plain _ _ _ (by kernel_rfl)]
  exact laidMet_laidAll _ (by kernel_rfl) (by kernel_rfl)
theorem hx_own : ownKnob Tryz.prog.godebug = none := by kernel_rfl
theorem hx_laidOut : laidOutB Tryz.prog = true := by kernel_rfl
end Go.Proofs.YtojlopfjhhiilaaGreatDoor
