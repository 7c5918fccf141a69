/-
  Lists of strings that came in: opened, and copied by append.
-/
import Derived.Test.YtdfdgeaohneeaaaGreatDoorHxV
import Derived.Test.YtdfdgeaohneeaaaGreatDoorHxOa
import Derived.SliceStrings
import Derived.Laws.AppendOwn
import Derived.Laws.AppendOwnNone
import Derived.OwnWalk
namespace Go.Proofs.YtdfdgeaohneeaaaGreatDoor
open Go Go.ChangeShapes Go.WideShapes Go.ChangeAt Go.RowKit
set_option linter.unusedVariables false

/-- What is known of a list of strings that came in. -/
def CameS (w : World) (p : Option Addr) (ss : List ByteArray) (c : Nat) : Prop :=
  (p = none → ss = [] ∧ c = 0) ∧ ReadsS w p ss ∧ SizeS ss
theorem CameS.below {w w' : World} {p : Option Addr} {ss : List ByteArray} {c : Nat} (h : CameS w p ss c) {B : Nat} (hb : Below B w w') (hB : w.heap.size ≤ B) : CameS w' p ss c := ⟨h.1, h.2.1.below hb hB, h.2.2⟩
theorem none_ownsT (w : World) : (w.alloc (.cells #[] 9)).ownsRow w.heap.size 9 1 (.slice (some ⟨w.heap.size, 0, none⟩) 0 0) 0 [] :=
  ⟨rfl, Or.inr ⟨w.heap.size, 0, #[], rfl, Nat.le_refl _, heap_alloc_new w _, Nat.le_refl _, by simp [maxLen], rfl, rfl⟩⟩

theorem wpList_append_cameS {w : World} {ops : Array Oper} {rest : List Oper} {o : Oper} {a : Act} {Q : Exit → Act → World → Prop} (hgd : o.guard = none) (s x : Operand)
    (ho : o.op = .call { callee := .builtin .append, args := #[s, x], argTypes := #[34, 34] }) (B : Nat) (v : Value) (hs : a.eval s = v) (hown : w.ownsRow B 9 1 v 0 [])
    (p : Option Addr) (rows : List ByteArray) (n c : Nat) (hn : Hid (rows.length = n)) (hx : a.eval x = .slice p n c) (hC : CameS w p rows c) (hm : n ≤ 1000000) (hB : B ≤ w.heap.size)
    (h : ∀ v' w', w'.ownsRow B 9 1 v' rows.length (rows.map Value.string) → w.grownBy w' v.ownBlock → wpList Tryz.prog ops Q rest (a.put o.dst v') w') : wpList Tryz.prog ops Q (o :: rest) a w := by
  obtain ⟨i0, hi, hz0, hz1, hz2⟩ := info_parts info_str
  have hn := hn.out
  subst hn
  cases p with
  | none =>
    obtain ⟨rfl, rfl⟩ := hC.1 rfl
    refine wpList_append_own_none hgd s x 34 ho B 9 i0 1 Tryz.underlying34 hi v 0 [] hs hown hx ?_
    exact h v w hown (World.grownBy.refl w _)
  | some ad =>
    have hcells : ∀ j u, (rows.map Value.string)[j]? = some u → w.cell? (ad.add j) = some u := fun j u hj => by
      rw [List.getElem?_map] at hj
      by_cases hlt : j < rows.length
      · obtain ⟨q, o, hq, hc⟩ := hC.2.1 j hlt
        cases hq
        rw [List.getElem?_eq_getElem hlt] at hj
        cases hj
        rw [Go.WideShapes.add_plain, hc, nthS_eq hlt]
      · rw [List.getElem?_eq_none (by omega)] at hj
        cases hj
    have hone : ∀ u ∈ rows.map Value.string, u.oneCell' = true := fun u hu => by
      obtain ⟨x, _, rfl⟩ := List.mem_map.1 hu
      rfl
    refine wpList_append_own w hgd s x 34 ho B 9 i0 (.string ⟨#[]⟩) 1 16 Tryz.underlying34 hi hz0 hz1 hz2 rfl (by decide) v 0 [] hs hown ad rows.length c (rows.map Value.string) hx (by simp) hcells hone (by unfold maxLen; omega) (by omega) hB ?_
    intro v' w' h1 h2 _
    exact h v' w' (by simpa using h1) h2

theorem cells_str : Tryz.prog.cellsOf 9 = 1 := by kernel_rfl
set_option maxRecDepth 100000 in
/-- A list of strings that came in, opened. -/
theorem came_openS {H : Type} {enc : TypeId × Value → H} {W : World} {v : Value} {d : DataW H} {ps : List MemPlace} {j : Nat} (hv : Value.okWide Tryz.prog W .any j 34 v) (h : DataW.Trod enc Tryz.prog W 0 (fun _ => true) true 34 v d ps) :
    ∃ p xs c, v = .slice p xs.length c ∧ CameS W p xs c ∧ c ≤ maxLen := by
  obtain ⟨a0, len0, cap0, rfl⟩ := Go.WideShapes.okWide_slice Tryz.underlying34 hv
  obtain ⟨fuel, hf⟩ := h
  rcases Go.ChangeShapes.open_strings Tryz.underlying34 Tryz.underlying9 cells_str hf with ⟨hcs, _⟩ | ⟨x, l, c, zs, hcs, _, hl, hm, hz, _, hcell, hwz⟩
  · simp [Value.cells] at hcs
    obtain ⟨rfl, rfl, rfl⟩ := hcs
    exact ⟨none, [], 0, rfl, ⟨fun _ => ⟨rfl, rfl⟩, fun k hk => by simp at hk, fun k hk => by simp at hk⟩, by simp⟩
  · simp [Value.cells] at hcs
    obtain ⟨rfl, rfl, rfl⟩ := hcs
    have hz' : zs.length = cap0 := by simpa using hz
    have hlen : (zs.take len0).length = len0 := by rw [List.length_take]; omega
    have hnth : ∀ k, k < len0 → nthS (zs.take len0) k = zs.getD k ByteArray.empty := fun k hk => by
      have hk2 : k < zs.length := by omega
      rw [nthS_eq (by omega)]
      simp [List.getD, hk2]
    refine ⟨some x, zs.take len0, cap0, by rw [hlen], ⟨(fun h => by cases h), fun k hk => ?_, fun k hk => ?_⟩, hm⟩
    · rw [hlen] at hk
      have hc := hcell k (by omega)
      rw [hnth k hk]
      obtain ⟨q, o, spot⟩ := x
      have hspot : spot = none := by simpa [Addr.add] using World.cell?_spot (hcell 0 (by omega))
      subst hspot
      refine ⟨q, o, rfl, ?_⟩
      rw [Go.WideShapes.add_plain] at hc
      exact hc
    · rw [hlen] at hk
      rw [hnth k hk]
      have hmem : zs.getD k ByteArray.empty ∈ zs := by
        have hk2 : k < zs.length := by omega
        simp [List.getD, hk2]
      have := hwz _ hmem
      unfold maxLen at this
      omega
end Go.Proofs.YtdfdgeaohneeaaaGreatDoor
