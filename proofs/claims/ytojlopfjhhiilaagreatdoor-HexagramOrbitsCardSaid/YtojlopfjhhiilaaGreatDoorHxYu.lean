/-
  Package hexagram: the state of the loop that collects the maps that operations reach.
-/
import Derived.Test.YtojlopfjhhiilaaGreatDoorHxYs
namespace Go.Proofs.YtojlopfjhhiilaaGreatDoor
open Go Go.RowKit Go.Shelf Go.Maps
set_option linter.unusedVariables false

/-- The cells of maps, one behind the other. -/
def flatM (fs : List (List Int)) : List Value := fs.flatMap fun m => m.map (Value.int .i64)
theorem flatM_snoc (fs : List (List Int)) (m : List Int) : flatM (fs ++ [m]) = flatM fs ++ m.map (Value.int .i64) := by simp [flatM]
/-- The state: the function's box, the list's, the map's, boxes of ints, marks. -/
structure StM (w : World) (P5 : Value) (B5 B7 B8 Bm : Nat) (ib : List (Nat × Int)) (ds : List Nat) (fs ms : List (List Int)) (W : World) : Prop where
  b5 : Boxed W B5 51 P5
  b7 : ∃ v, Boxed W B7 49 v ∧ W.ownsRow w.heap.size 47 64 v fs.length (flatM fs) ∧ ∀ p ∈ ib, v.ownBlock ≠ some p.1
  b8 : Boxed W B8 75 (.map (some Bm))
  mp : W.ownsMap Tryz.prog 47 (plainElem (H := Value) Tryz.prog 4) Bm ms.length (seenM ms)
  bi : ∀ p ∈ ib, Boxed W p.1 3 (.int .i64 p.2)
  mks : ∀ D ∈ ds, W.heap[D]? = some (.deferred (some [])) ∧ w.heap.size ≤ D
  bl : Below w.heap.size w W

section
variable {w W : World} {P5 : Value} {B5 B7 B8 Bm : Nat} {ib : List (Nat × Int)} {ds : List Nat} {fs ms : List (List Int)}
/-- A turn of another block than those that the state speaks of. -/
theorem StM.kept (h : StM w P5 B5 B7 B8 Bm ib ds fs ms W) {W' : World} {row : Option Nat} (hg : W.grownBy W' row) (hm : some Bm ≠ row) (hd : ∀ D ∈ ds, some D ≠ row) (hr : ∀ r, row = some r → ∃ o : Obj, W.heap[r]? = some o ∧ o.isCells = false) (hb : Below w.heap.size w W') : StM w P5 B5 B7 B8 Bm ib ds fs ms W' := by
  have box : ∀ {B : Nat} {t : TypeId} {u : Value}, Boxed W B t u → Boxed W' B t u := fun {B t u} hv => hv.kept hg (fun e => by
    obtain ⟨o, ho, hc⟩ := hr B e.symm
    rw [show W.heap[B]? = _ from hv] at ho
    cases ho
    cases hc)
  obtain ⟨v, hv, hrow, hne⟩ := h.b7
  refine ⟨box h.b5, ⟨v, box hv, hrow.kept hg ?_, hne⟩, box h.b8, h.mp.kept hg hm, fun p hp => box (h.bi p hp), fun D hD => ⟨(hg.block D (Array.getElem?_eq_some_iff.1 (h.mks D hD).1).1 (hd D hD)).trans (h.mks D hD).1, (h.mks D hD).2⟩, hb⟩
  rcases hrow.2 with ⟨rfl, _⟩ | ⟨g, cap, cur, rfl, _, hgb, _⟩
  · exact .inl rfl
  · refine .inr fun e' => ?_
    obtain ⟨o, ho, hc⟩ := hr g (by simpa [Value.ownBlock] using e'.symm)
    rw [hgb] at ho
    cases ho
    cases hc
theorem StM.own {B : Nat} (hm : Bm < B) (hd : ∀ D ∈ ds, D < B) (hw : w.heap.size ≤ B) : OwnFrom B (fun (s : List (List Int) × List (List Int)) W => StM w P5 B5 B7 B8 Bm ib ds s.1 s.2 W) := fun s A A' row h hg hr =>
  h.kept hg (fun e => by have := (hr _ e.symm).1; omega) (fun D hD e => by have := (hr _ e.symm).1; have := hd D hD; omega) (fun r e => (hr r e).2) (h.bl.grown hg h.bl.size (fun k e => Nat.le_trans hw (hr k e).1))
theorem StM.alloc (h : StM w P5 B5 B7 B8 Bm ib ds fs ms W) (o : Obj) : StM w P5 B5 B7 B8 Bm ib ds fs ms (W.alloc o) :=
  h.kept (World.grownBy_alloc W o none) (by simp) (fun _ _ => by simp) (fun r e => by cases e) (h.bl.alloc h.bl.size _)
theorem StM.below (h : StM w P5 B5 B7 B8 Bm ib ds fs ms W) {W' : World} (hb : Below W.heap.size W W') : StM w P5 B5 B7 B8 Bm ib ds fs ms W' :=
  h.kept (grown_of_below hb) (by simp) (fun _ _ => by simp) (fun r e => by cases e) (h.bl.trans (hb.mono h.bl.size))
/-- One int's box more. -/
theorem StM.box (h : StM w P5 B5 B7 B8 Bm ib ds fs ms W) (x : Int) : StM w P5 B5 B7 B8 Bm ((W.heap.size, x) :: ib) ds fs ms (W.alloc (.cells #[.int .i64 x] 3)) := by
  have h1 := h.alloc (.cells #[.int .i64 x] 3)
  obtain ⟨v, hv, hrow, hne⟩ := h.b7
  obtain ⟨v1, hv1, hrow1, hne1⟩ := h1.b7
  refine ⟨h1.b5, ⟨v, hv.alloc _, hrow.alloc _, fun p hp => ?_⟩, h1.b8, h1.mp, fun p hp => ?_, h1.mks, h1.bl⟩
  · rcases List.mem_cons.1 hp with rfl | hp
    · rcases hrow.2 with ⟨rfl, _⟩ | ⟨g, cap, cur, rfl, _, hgb, _⟩
      · simp [Value.ownBlock]
      · have := (Array.getElem?_eq_some_iff.1 hgb).1
        simp [Value.ownBlock]
        omega
    · exact hne p hp
  · rcases List.mem_cons.1 hp with rfl | hp
    · exact Boxed.new W _ _
    · exact h1.bi p hp
/-- A mark more. -/
theorem StM.mark (h : StM w P5 B5 B7 B8 Bm ib ds fs ms W) {D : Nat} (hD : W.heap[D]? = some (.deferred (some []))) (hw : w.heap.size ≤ D) : StM w P5 B5 B7 B8 Bm ib (D :: ds) fs ms W :=
  ⟨h.b5, h.b7, h.b8, h.mp, h.bi, fun E hE => by
    rcases List.mem_cons.1 hE with rfl | hE
    · exact ⟨hD, hw⟩
    · exact h.mks E hE, h.bl⟩
theorem StM.fewer (h : StM w P5 B5 B7 B8 Bm ib ds fs ms W) {ib' : List (Nat × Int)} (hs : ∀ p ∈ ib', p ∈ ib) : StM w P5 B5 B7 B8 Bm ib' ds fs ms W := by
  obtain ⟨v, hv, hrow, hne⟩ := h.b7
  exact ⟨h.b5, ⟨v, hv, hrow, fun p hp => hne p (hs p hp)⟩, h.b8, h.mp, fun p hp => h.bi p (hs p hp), h.mks, h.bl⟩
/-- An entry is put into the map. -/
theorem StM.put (h : StM w P5 B5 B7 B8 Bm ib ds fs ms W) {W' : World} {y : List Int} (hown : W'.ownsMap Tryz.prog 47 (plainElem (H := Value) Tryz.prog 4) Bm (ms.length + 1) ((seenM ms).put (klM y) (.lit (.bool true)))) (hg : W.grownBy W' (some Bm)) (hBm : w.heap.size ≤ Bm) : StM w P5 B5 B7 B8 Bm ib ds fs (ms ++ [y]) W' := by
  obtain ⟨es, clock, hb⟩ := ownsMap_heap h.mp
  have box : ∀ {B : Nat} {t : TypeId} {u : Value}, Boxed W B t u → Boxed W' B t u := fun {B t u} hv => hv.kept hg (fun e => by
    cases e
    rw [show W.heap[_]? = _ from hv] at hb
    cases hb)
  obtain ⟨v, hv, hrow, hne⟩ := h.b7
  refine ⟨box h.b5, ⟨v, box hv, hrow.kept hg ?_, hne⟩, box h.b8, by rw [seenM_snoc]; simpa using hown, fun p hp => box (h.bi p hp), fun D hD => ⟨(hg.block D (Array.getElem?_eq_some_iff.1 (h.mks D hD).1).1 (fun e => ?_)).trans (h.mks D hD).1, (h.mks D hD).2⟩, h.bl.grown hg h.bl.size (fun k e => by cases e; exact hBm)⟩
  · rcases hrow.2 with ⟨rfl, _⟩ | ⟨g, cap, cur, rfl, _, hgb, _⟩
    · exact .inl rfl
    · refine .inr fun e' => ?_
      obtain rfl : g = Bm := by simpa [Value.ownBlock] using e'
      rw [hgb] at hb
      cases hb
  · cases e
    rw [(h.mks _ hD).1] at hb
    cases hb
/-- An element is appended. -/
theorem StM.app (h : StM w P5 B5 B7 B8 Bm ib ds fs ms W) {v v' : Value} {w1 : World} {y : List Int} (hv : Boxed W B7 49 v) (hrow : W.ownsRow w.heap.size 47 64 v fs.length (flatM fs)) (hne : ∀ p ∈ ib, v.ownBlock ≠ some p.1)
    (hB7 : w.heap.size ≤ B7) {tmp : Obj} (hown' : w1.ownsRow w.heap.size 47 64 v' (fs.length + 1) (flatM fs ++ y.map (Value.int .i64))) (hgrow : (W.alloc tmp).grownBy w1 v.ownBlock) (hat : v'.ownBlock = v.ownBlock ∨ v'.ownBlock = some (W.alloc tmp).heap.size) :
    StM w P5 B5 B7 B8 Bm ib ds (fs ++ [y]) ms (w1.setCell ⟨B7, 0, none⟩ v') ∧ KeepsOthers W (w1.setCell ⟨B7, 0, none⟩ v') ∧ (∀ p ∈ ib, ∀ u, Boxed W p.1 3 u → Boxed (w1.setCell ⟨B7, 0, none⟩ v') p.1 3 u) ∧ Boxed w1 B7 49 v ∧ Below w.heap.size W (w1.setCell ⟨B7, 0, none⟩ v') := by
  obtain ⟨k1, k2, k3, k4, k5⟩ := hv.appended (by decide) hrow h.bl.size hB7 hown' hgrow
  have rowne : ∀ {B : Nat} {o : Obj}, W.heap[B]? = some o → (∀ cur, o ≠ .cells cur 47 (0, 0)) → some B ≠ v.ownBlock := fun {B o} hB hno => by
    rcases hrow.2 with ⟨rfl, _⟩ | ⟨g, cap, cur, rfl, _, hgb, _⟩
    · simp [Value.ownBlock]
    · intro e'
      obtain rfl : B = g := by simpa [Value.ownBlock] using e'
      rw [hB] at hgb
      exact hno cur (Option.some.inj hgb)
  have far : ∀ {B : Nat} {o : Obj}, W.heap[B]? = some o → some B ≠ v.ownBlock → B ≠ B7 → (w1.setCell ⟨B7, 0, none⟩ v').heap[B]? = some o := fun {B o} hB hr h7 => by
    have hlt := (Array.getElem?_eq_some_iff.1 hB).1
    refine (Below.heap_setCell _ _ _ _ h7).trans ?_
    exact (hgrow.block B (by simp; omega) hr).trans ((Below.heap_alloc W tmp B hlt).trans hB)
  have ib_ne : ∀ p ∈ ib, p.1 ≠ B7 := fun p hp => ne_of_heap (h.bi p hp) hv (by intro e; injection e with _ e; cases e)
  have ib_keep : ∀ p ∈ ib, ∀ u, Boxed W p.1 3 u → Boxed (w1.setCell ⟨B7, 0, none⟩ v') p.1 3 u := fun p hp u hu => far hu (fun e => hne p hp e.symm) (ib_ne p hp)
  refine ⟨⟨?_, ⟨v', k2, ?_, ?_⟩, ?_, ?_, fun p hp => ib_keep p hp _ (h.bi p hp), fun D hD => ⟨?_, (h.mks D hD).2⟩, h.bl.trans k5⟩, k4, ib_keep, k1, k5⟩
  · exact far h.b5 (rowne h.b5 (fun cur e => by injection e with _ e; cases e)) (ne_of_heap h.b5 hv (by intro e; injection e with _ e; cases e))
  · rw [flatM_snoc]; simpa using k3
  · intro p hp e
    rcases hat with hat | hat
    · exact hne p hp (hat ▸ e)
    · rw [hat] at e
      have := (Array.getElem?_eq_some_iff.1 (h.bi p hp)).1
      simp at e
      omega
  · exact far h.b8 (rowne h.b8 (fun cur e => by injection e with _ e; cases e)) (ne_of_heap h.b8 hv (by intro e; injection e with _ e; cases e))
  · obtain ⟨es, clock, hb⟩ := ownsMap_heap h.mp
    exact World.ownsMap.setCell (a := ⟨B7, 0, none⟩) ((h.mp.alloc tmp).kept hgrow (rowne hb (fun cur e => by cases e))) (show Bm ≠ B7 from ne_of_heap hb hv (by intro e; cases e)) _
  · exact far (h.mks D hD).1 (rowne (h.mks D hD).1 (fun cur e => by cases e)) (ne_of_heap (h.mks D hD).1 hv (by intro e; cases e))
/-- The one box of an int is stored into. -/
theorem StM.setBox {b : Nat} {x : Int} (h : StM w P5 B5 B7 B8 Bm [(b, x)] ds fs ms W) (hb : w.heap.size ≤ b) (y : Int) : StM w P5 B5 B7 B8 Bm [(b, y)] ds fs ms (W.setCell ⟨b, 0, none⟩ (.int .i64 y)) := by
  have hx := h.bi (b, x) (by simp)
  obtain ⟨v, hv, hrow, hne⟩ := h.b7
  have far : ∀ {B : Nat} {o : Obj}, W.heap[B]? = some o → B ≠ b → (W.setCell ⟨b, 0, none⟩ (.int .i64 y)).heap[B]? = some o := fun {B o} hB hn => (Below.heap_setCell _ _ _ _ hn).trans hB
  refine ⟨far h.b5 (ne_of_heap h.b5 hx (by intro e; injection e with _ e; cases e)), ⟨v, far hv (ne_of_heap hv hx (by intro e; injection e with _ e; cases e)), hrow.kept (grownBy_setCell' W b _) (.inr (hne (b, x) (by simp))), fun p hp => ?_⟩, far h.b8 (ne_of_heap h.b8 hx (by intro e; injection e with _ e; cases e)), ?_, fun p hp => ?_, fun D hD => ⟨far (h.mks D hD).1 (ne_of_heap (h.mks D hD).1 hx (by intro e; cases e)), (h.mks D hD).2⟩, h.bl.setCell (p := ⟨b, 0, none⟩) hb _⟩
  · simp at hp
    subst hp
    exact hne (b, x) (by simp)
  · obtain ⟨es, clock, hb⟩ := ownsMap_heap h.mp
    exact World.ownsMap.setCell (a := ⟨b, 0, none⟩) h.mp (show Bm ≠ b from ne_of_heap hb hx (by intro e; cases e)) _
  · simp at hp
    subst hp
    exact Boxed.set _ hx
end


end Go.Proofs.YtojlopfjhhiilaaGreatDoor
