/-
  Package hexagram: the state in which what operations reach is begun, for maps; in whatever order it is laid.
-/
import Derived.Test.YtojlopfjhhiilaaGreatDoorHxYo
import Derived.Test.YtojlopfjhhiilaaGreatDoorHxYr
import Derived.Test.YtojlopfjhhiilaaGreatDoorReg
namespace Go.Proofs.YtojlopfjhhiilaaGreatDoor
open Go Go.RowKit Go.Shelf Go.Maps
set_option linter.unusedVariables false

theorem tb {b i j : Nat} (h : i ≠ j) : (b ||| 2 ^ i).testBit j = b.testBit j := by
  rw [Nat.testBit_or, Nat.testBit_two_pow]
  simp [h]
theorem tb_self (b i : Nat) : (b ||| 2 ^ i).testBit i = true := by
  rw [Nat.testBit_or, Nat.testBit_two_pow]
  simp
theorem tb_all (b i x : Nat) : (b ||| 2 ^ i).testBit x = (b.testBit x || decide (i = x)) := by rw [Nat.testBit_or, Nat.testBit_two_pow]
def depsB (i : Nat) : List Nat := [[], [0], [], [], [2, 3], [2, 4], [], [], [6, 1], [7, 5, 8, 0, 1, 2, 3, 4, 6]].getD i []
/-- What is done comes behind what it needs. -/
def Dp (b : Nat) : Prop := (b.testBit 4 = true → b.testBit 2 = true) ∧ (b.testBit 5 = true → b.testBit 2 = true) ∧ (b.testBit 8 = true → b.testBit 1 = true) ∧ (b.testBit 8 = true → b.testBit 6 = true) ∧ (b.testBit 9 = true → b.testBit 7 = true) ∧ (b.testBit 9 = true → b.testBit 2 = true)
theorem dp_zero : Dp 0 := by simp [Dp]
theorem dp_set {b i : Nat} (h : Dp b) (hi : i < 10) (hd : ∀ d ∈ depsB i, b.testBit d = true) : Dp (b ||| 2 ^ i) := by
  obtain ⟨a1, a2, a3, a4, a5, a6⟩ := h
  unfold Dp
  simp only [tb_all]
  have e : i = 0 ∨ i = 1 ∨ i = 2 ∨ i = 3 ∨ i = 4 ∨ i = 5 ∨ i = 6 ∨ i = 7 ∨ i = 8 ∨ i = 9 := by omega
  rcases e with rfl | rfl | rfl | rfl | rfl | rfl | rfl | rfl | rfl | rfl <;> simp [depsB] at hd ⊢ <;> simp_all
theorem dp_no {b x y : Nat} (h : b.testBit x = true → b.testBit y = true) (hy : b.testBit y = false) : b.testBit x = false := by
  cases hx : b.testBit x
  · rfl
  · rw [h hx] at hy; cases hy
/-- The walk's slots, by what is done. -/
def actB (M : List Int) (set : Int) (fnv : Value) (B0 : Nat) (c0 c1 c2 c3 c5 c6 c7 : Bool) (g1 gm g7 g8 : Nat) : Act :=
  { tmps := #[.agg (arr M), .int .i64 set, fnv, .pointer (some ⟨B0, 0, none⟩), undef, .pointer (some ⟨B0 + 1, 0, none⟩), .slice none 0 0, if c6 = true then .pointer (some ⟨g7, 0, none⟩) else undef, if c7 = true then .pointer (some ⟨g8, 0, none⟩) else undef, undef, undef, undef, if c0 = true then .agg (arr M) else undef, if c1 = true then .slice (some ⟨g1, 0, none⟩) 1 1 else undef, if c2 = true then .map (some gm) else undef, if c3 = true then .agg (arr M) else undef, if c5 = true then .map (some gm) else undef, undef, undef, undef, undef, undef, undef, undef, undef, undef, undef, undef, undef, undef, undef, undef, undef, undef, undef, undef, undef, undef, undef, undef, undef, undef, undef], defers := [] }
def actN (M : List Int) (set : Int) (fnv : Value) (B0 b g1 gm g7 g8 : Nat) : Act := actB M set fnv B0 (b.testBit 0) (b.testBit 1) (b.testBit 2) (b.testBit 3) (b.testBit 5) (b.testBit 6) (b.testBit 7) g1 gm g7 g8
section
variable (M : List Int) (set : Int) (fnv : Value) (B0 b g1 gm g7 g8 : Nat)
theorem actN_none {i : Nat} (hi : i = 4 ∨ i = 8 ∨ i = 9) : actN M set fnv B0 (b ||| 2 ^ i) g1 gm g7 g8 = actN M set fnv B0 b g1 gm g7 g8 := by
  unfold actN
  rw [tb (by omega), tb (by omega), tb (by omega), tb (by omega), tb (by omega), tb (by omega), tb (by omega)]
theorem actN_0 : (actN M set fnv B0 b g1 gm g7 g8).put (some 12) (.agg (arr M)) = actN M set fnv B0 (b ||| 2 ^ 0) g1 gm g7 g8 := by
  unfold actN
  rw [tb_self, tb (by omega), tb (by omega), tb (by omega), tb (by omega), tb (by omega), tb (by omega)]
  rfl
theorem actN_3 : (actN M set fnv B0 b g1 gm g7 g8).put (some 15) (.agg (arr M)) = actN M set fnv B0 (b ||| 2 ^ 3) g1 gm g7 g8 := by
  unfold actN
  rw [tb_self, tb (by omega), tb (by omega), tb (by omega), tb (by omega), tb (by omega), tb (by omega)]
  rfl
theorem actN_1 (g : Nat) : (actN M set fnv B0 b g1 gm g7 g8).put (some 13) (.slice (some ⟨g, 0, none⟩) 1 1) = actN M set fnv B0 (b ||| 2 ^ 1) g gm g7 g8 := by
  unfold actN
  rw [tb_self, tb (by omega), tb (by omega), tb (by omega), tb (by omega), tb (by omega), tb (by omega)]
  rfl
theorem actN_2 (g : Nat) (h5 : b.testBit 5 = false) : (actN M set fnv B0 b g1 gm g7 g8).put (some 14) (.map (some g)) = actN M set fnv B0 (b ||| 2 ^ 2) g1 g g7 g8 := by
  unfold actN
  rw [tb_self, tb (by omega), tb (by omega), tb (by omega), tb (by omega), tb (by omega), tb (by omega), h5]
  rfl
theorem actN_5 : (actN M set fnv B0 b g1 gm g7 g8).put (some 16) (.map (some gm)) = actN M set fnv B0 (b ||| 2 ^ 5) g1 gm g7 g8 := by
  unfold actN
  rw [tb_self, tb (by omega), tb (by omega), tb (by omega), tb (by omega), tb (by omega), tb (by omega)]
  rfl
theorem actN_6 (g : Nat) : (actN M set fnv B0 b g1 gm g7 g8).put (some 7) (.pointer (some ⟨g, 0, none⟩)) = actN M set fnv B0 (b ||| 2 ^ 6) g1 gm g g8 := by
  unfold actN
  rw [tb_self, tb (by omega), tb (by omega), tb (by omega), tb (by omega), tb (by omega), tb (by omega)]
  rfl
theorem actN_7 (g : Nat) : (actN M set fnv B0 b g1 gm g7 g8).put (some 8) (.pointer (some ⟨g, 0, none⟩)) = actN M set fnv B0 (b ||| 2 ^ 7) g1 gm g7 g := by
  unfold actN
  rw [tb_self, tb (by omega), tb (by omega), tb (by omega), tb (by omega), tb (by omega), tb (by omega)]
  rfl
end
/-- What is laid, by which operations are done. -/
structure Begun (w : World) (M : List Int) (P5 : Value) (b : Nat) (g1 gm g7 g8 : Nat) (V : World) : Prop where
  fst : Blk V w.heap.size 47 (arr M)
  fn : Boxed V (w.heap.size + 1) 51 P5
  bl : Below w.heap.size w V
  row : b.testBit 1 = true → w.heap.size ≤ g1 ∧ Blk V g1 47 (arr M)
  mp : b.testBit 2 = true → w.heap.size ≤ gm ∧ V.ownsMap Tryz.prog 47 (plainElem (H := Value) Tryz.prog 4) gm (if b.testBit 4 = true then 1 else 0) (if b.testBit 4 = true then seenM [M] else .map [])
  b7 : b.testBit 6 = true → w.heap.size ≤ g7 ∧ Boxed V g7 49 (if b.testBit 8 = true then .slice (some ⟨g1, 0, none⟩) 1 1 else .slice none 0 0)
  b8 : b.testBit 7 = true → w.heap.size ≤ g8 ∧ Boxed V g8 75 (if b.testBit 9 = true then .map (some gm) else .map none)
section
variable {w V : World} {M : List Int} {P5 : Value} {b g1 gm g7 g8 : Nat}
/-- An operation that lays nothing. -/
theorem Begun.same (h : Begun w M P5 b g1 gm g7 g8 V) {i : Nat} (hi : i = 0 ∨ i = 3 ∨ i = 5) : Begun w M P5 (b ||| 2 ^ i) g1 gm g7 g8 V := by
  have e : ∀ j, i ≠ j → (b ||| 2 ^ i).testBit j = b.testBit j := fun j => tb
  refine ⟨h.fst, h.fn, h.bl, ?_, ?_, ?_, ?_⟩
  · rw [e 1 (by omega)]; exact h.row
  · rw [e 2 (by omega), e 4 (by omega)]; exact h.mp
  · rw [e 6 (by omega), e 8 (by omega)]; exact h.b7
  · rw [e 7 (by omega), e 9 (by omega)]; exact h.b8
theorem Begun.alloc (h : Begun w M P5 b g1 gm g7 g8 V) (o : Obj) : Begun w M P5 b g1 gm g7 g8 (V.alloc o) :=
  ⟨h.fst.alloc o, h.fn.alloc o, h.bl.alloc h.bl.size o, fun e => ⟨(h.row e).1, (h.row e).2.alloc o⟩, fun e => ⟨(h.mp e).1, (h.mp e).2.alloc o⟩, fun e => ⟨(h.b7 e).1, (h.b7 e).2.alloc o⟩, fun e => ⟨(h.b8 e).1, (h.b8 e).2.alloc o⟩⟩
theorem Begun.s1 (h : Begun w M P5 b g1 gm g7 g8 V) (h8 : b.testBit 8 = false) : Begun w M P5 (b ||| 2 ^ 1) V.heap.size gm g7 g8 (V.alloc (.cells (arr M) 47)) := by
  have k := h.alloc (.cells (arr M) 47)
  refine ⟨k.fst, k.fn, k.bl, fun _ => ⟨h.bl.size, Blk.new _ _ _⟩, ?_, ?_, ?_⟩
  · rw [tb (by omega), tb (by omega)]; exact k.mp
  · rw [tb (by omega), tb (by omega), h8]
    have := k.b7
    rw [h8] at this
    exact this
  · rw [tb (by omega), tb (by omega)]; exact k.b8
theorem Begun.s2 (h : Begun w M P5 b g1 gm g7 g8 V) (h4 : b.testBit 4 = false) (h9 : b.testBit 9 = false) : Begun w M P5 (b ||| 2 ^ 2) g1 V.heap.size g7 g8 (V.alloc (.map #[] 0)) := by
  have k := h.alloc (.map #[] 0)
  refine ⟨k.fst, k.fn, k.bl, ?_, fun _ => ⟨h.bl.size, ?_⟩, ?_, ?_⟩
  · rw [tb (by omega)]; exact k.row
  · rw [tb (by omega), h4]; exact World.ownsMap_made V _ _ _
  · rw [tb (by omega), tb (by omega)]; exact k.b7
  · rw [tb (by omega), tb (by omega), h9]
    have := k.b8
    rw [h9] at this
    exact this
theorem Begun.s6 (h : Begun w M P5 b g1 gm g7 g8 V) (h8 : b.testBit 8 = false) : Begun w M P5 (b ||| 2 ^ 6) g1 gm V.heap.size g8 (V.alloc (.cells #[.slice none 0 0] 49)) := by
  have k := h.alloc (.cells #[.slice none 0 0] 49)
  refine ⟨k.fst, k.fn, k.bl, ?_, ?_, fun _ => ⟨h.bl.size, ?_⟩, ?_⟩
  · rw [tb (by omega)]; exact k.row
  · rw [tb (by omega), tb (by omega)]; exact k.mp
  · rw [tb (by omega), h8]; exact Boxed.new _ _ _
  · rw [tb (by omega), tb (by omega)]; exact k.b8
theorem Begun.s7 (h : Begun w M P5 b g1 gm g7 g8 V) (h9 : b.testBit 9 = false) : Begun w M P5 (b ||| 2 ^ 7) g1 gm g7 V.heap.size (V.alloc (.cells #[.map none] 75)) := by
  have k := h.alloc (.cells #[.map none] 75)
  refine ⟨k.fst, k.fn, k.bl, ?_, ?_, ?_, fun _ => ⟨h.bl.size, ?_⟩⟩
  · rw [tb (by omega)]; exact k.row
  · rw [tb (by omega), tb (by omega)]; exact k.mp
  · rw [tb (by omega), tb (by omega)]; exact k.b7
  · rw [tb (by omega), h9]; exact Boxed.new _ _ _
theorem ne_blk {W : World} {i j : Nat} {o o' : Obj} (hi : W.heap[i]? = some o) (hj : W.heap[j]? = some o') (h : o ≠ o') : i ≠ j := fun e => by
  subst e
  rw [hi] at hj
  exact h (Option.some.inj hj)
theorem own_heap {H : Type} {P : Program} {k : TypeId} {R : Value → Option (DataW H × List MemPlace)} {W : World} {b n : Nat} {D : DataW H} (h : W.ownsMap P k R b n D) : ∃ es clock, W.heap[b]? = some (.map es clock) := by
  obtain ⟨es, clock, hb, _⟩ := h
  exact ⟨es, clock, hb⟩
/-- A store into a box of the list's, or the map's type. -/
theorem Begun.s8 (h : Begun w M P5 b g1 gm g7 g8 V) (h6 : b.testBit 6 = true) : Begun w M P5 (b ||| 2 ^ 8) g1 gm g7 g8 (V.setCell ⟨g7, 0, none⟩ (.slice (some ⟨g1, 0, none⟩) 1 1)) := by
  obtain ⟨l7, x7⟩ := h.b7 h6
  have x7h : V.heap[g7]? = some (.cells #[_] 49 (0, 0)) := x7
  have far : ∀ {i : Nat} {o : Obj}, V.heap[i]? = some o → (∀ u, o ≠ .cells #[u] 49 (0, 0)) → (V.setCell ⟨g7, 0, none⟩ (.slice (some ⟨g1, 0, none⟩) 1 1)).heap[i]? = some o := fun {i o} ho hn => (Below.heap_setCell _ _ _ _ (ne_blk ho x7h (hn _))).trans ho
  refine ⟨?_, ?_, h.bl.setCell l7 _, ?_, ?_, ?_, ?_⟩
  · exact far h.fst (fun u e => by injection e with _ e; cases e)
  · exact far h.fn (fun u e => by injection e with _ e; cases e)
  · rw [tb (by omega)]; exact fun e => ⟨(h.row e).1, far (h.row e).2 (fun u e => by injection e with _ e; cases e)⟩
  · rw [tb (by omega), tb (by omega)]
    intro e
    obtain ⟨es, clock, hb⟩ := own_heap (h.mp e).2
    exact ⟨(h.mp e).1, World.ownsMap.setCell (a := ⟨g7, 0, none⟩) (h.mp e).2 (show gm ≠ g7 from ne_blk hb x7h (by intro e; cases e)) _⟩
  · intro _
    rw [tb_self]
    exact ⟨l7, Boxed.set _ x7⟩
  · rw [tb (by omega), tb (by omega)]; exact fun e => ⟨(h.b8 e).1, far (h.b8 e).2 (fun u e => by injection e with _ e; cases e)⟩
theorem Begun.s9 (h : Begun w M P5 b g1 gm g7 g8 V) (h7 : b.testBit 7 = true) : Begun w M P5 (b ||| 2 ^ 9) g1 gm g7 g8 (V.setCell ⟨g8, 0, none⟩ (.map (some gm))) := by
  obtain ⟨l8, x8⟩ := h.b8 h7
  have x8h : V.heap[g8]? = some (.cells #[_] 75 (0, 0)) := x8
  have far : ∀ {i : Nat} {o : Obj}, V.heap[i]? = some o → (∀ u, o ≠ .cells #[u] 75 (0, 0)) → (V.setCell ⟨g8, 0, none⟩ (.map (some gm))).heap[i]? = some o := fun {i o} ho hn => (Below.heap_setCell _ _ _ _ (ne_blk ho x8h (hn _))).trans ho
  refine ⟨?_, ?_, h.bl.setCell l8 _, ?_, ?_, ?_, ?_⟩
  · exact far h.fst (fun u e => by injection e with _ e; cases e)
  · exact far h.fn (fun u e => by injection e with _ e; cases e)
  · rw [tb (by omega)]; exact fun e => ⟨(h.row e).1, far (h.row e).2 (fun u e => by injection e with _ e; cases e)⟩
  · rw [tb (by omega), tb (by omega)]
    intro e
    obtain ⟨es, clock, hb⟩ := own_heap (h.mp e).2
    exact ⟨(h.mp e).1, World.ownsMap.setCell (a := ⟨g8, 0, none⟩) (h.mp e).2 (show gm ≠ g8 from ne_blk hb x8h (by intro e; cases e)) _⟩
  · rw [tb (by omega), tb (by omega)]; exact fun e => ⟨(h.b7 e).1, far (h.b7 e).2 (fun u e => by injection e with _ e; cases e)⟩
  · intro _
    rw [tb_self]
    exact ⟨l8, Boxed.set _ x8⟩
/-- The first entry. -/
theorem Begun.s4 (h : Begun w M P5 b g1 gm g7 g8 V) (h2 : b.testBit 2 = true) {V' : World} (hown : V'.ownsMap Tryz.prog 47 (plainElem (H := Value) Tryz.prog 4) gm 1 (seenM [M])) (hg : V.grownBy V' (some gm)) : Begun w M P5 (b ||| 2 ^ 4) g1 gm g7 g8 V' := by
  obtain ⟨lm, xm⟩ := h.mp h2
  obtain ⟨es, clock, hb⟩ := own_heap xm
  have far : ∀ {i : Nat} {cs : Array Value} {t : TypeId}, V.heap[i]? = some (.cells cs t (0, 0)) → V'.heap[i]? = some (.cells cs t (0, 0)) := fun {i cs t} ho => (hg.block i (Array.getElem?_eq_some_iff.1 ho).1 (fun e => by
    cases e
    rw [ho] at hb
    cases hb)).trans ho
  refine ⟨far h.fst, far h.fn, h.bl.grown hg h.bl.size (fun k e => by cases e; exact lm), ?_, ?_, ?_, ?_⟩
  · rw [tb (by omega)]; exact fun e => ⟨(h.row e).1, far (h.row e).2⟩
  · intro _
    rw [tb_self]
    exact ⟨lm, hown⟩
  · rw [tb (by omega), tb (by omega)]; exact fun e => ⟨(h.b7 e).1, far (h.b7 e).2⟩
  · rw [tb (by omega), tb (by omega)]; exact fun e => ⟨(h.b8 e).1, far (h.b8 e).2⟩
end
end Go.Proofs.YtojlopfjhhiilaaGreatDoor
