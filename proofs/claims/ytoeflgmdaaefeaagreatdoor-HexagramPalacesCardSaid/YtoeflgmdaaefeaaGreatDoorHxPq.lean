/-
  HexagramPalaces: the rows and the array that it makes first, in whatever order.
-/
import Derived.Test.YtoeflgmdaaefeaaGreatDoorHxPm
import Derived.Test.YtoeflgmdaaefeaaGreatDoorHxRb
import Derived.Laws.MakeOwn
import Derived.Deep.CutRange
namespace Go.Proofs.YtoeflgmdaaefeaaGreatDoor
open Go Go.RowKit
set_option linter.unusedVariables false
set_option linter.unusedSimpArgs false

def arrB (bs : List Bool) : Array Value := (bs.map Value.bool).toArray
theorem make64 (V : World) : (Instr.makeSlice 22 (.int .i64 64) (.int .i64 64)).run Tryz.prog V = .ok (.slice (some ⟨V.heap.size, 0, none⟩) 64 64) (V.alloc (.cells (arr (List.replicate 64 0)) 3)) := by
  obtain ⟨i0, hi, hz0, hz1, hz2⟩ := info_parts info_int
  have := run_make V 22 3 i0 (.int .i64 0) Tryz.underlying22 hi hz0 .i64 .i64 64 64 (by omega) (by omega) (by rw [hz2]; omega) (by omega)
  rw [hz1] at this
  have e : madeCells (Value.int IntKind.i64 0).cells ((64 : Int).toNat * 1) = arr (List.replicate 64 0) := by
    apply Array.ext'
    rw [show (Value.int IntKind.i64 0).cells = #[Value.int .i64 0] from rfl, toList_madeCells_one]
    simp [arr]
  rw [e] at this
  exact this
theorem step_make64 {ops : Array Oper} {o : Oper} {a : Act} {w : World} {K : Act → World → Prop} {Q : Exit → Act → World → Prop} {E : Prop} (hg : o.guard = none) (hop : o.op = Op.makeSlice 22 (.const (.int .i64 64)) (.const (.int .i64 64)))
    (hK : K (a.put o.dst (.slice (some ⟨w.heap.size, 0, none⟩) 64 64)) (w.alloc (.cells (arr (List.replicate 64 0)) 3))) :
    if Region.wanted o (yielded ops a.tmps) = true then Oper.wp Tryz.prog o a w K Q else E := by
  have hw : Region.wanted o (yielded ops a.tmps) = true := by simp [Region.wanted, hg]
  rw [if_pos hw]
  unfold Oper.wp
  have h1 : a.eval (.const (.int .i64 64)) = .int .i64 64 := rfl
  simp [execOp, hop, h1, make64, Result.andThen]
  exact hK
theorem step_alloc64 {ops : Array Oper} {o : Oper} {a : Act} {w : World} {K : Act → World → Prop} {Q : Exit → Act → World → Prop} {E : Prop} (hg : o.guard = none) (hop : o.op = Op.alloc 37)
    (hK : K (a.put o.dst (.pointer (some ⟨w.heap.size, 0, none⟩))) (w.alloc (.cells (arrB (List.replicate 64 false)) 37))) :
    if Region.wanted o (yielded ops a.tmps) = true then Oper.wp Tryz.prog o a w K Q else E := by
  have hw : Region.wanted o (yielded ops a.tmps) = true := by simp [Region.wanted, hg]
  rw [if_pos hw]
  unfold Oper.wp
  simp only [execOp, hop]
  simp [Instr.alloc, Result.andThen]
  exact hK
theorem info_64i : (Tryz.prog.info? 38).map (·.size) = some 64 := by kernel_rfl
theorem info_64b : (Tryz.prog.info? 37).map (·.size) = some 64 := by kernel_rfl
def offB : Array Value := arrB (List.replicate 64 false)
theorem arrB_one (bs : List Bool) : (arrB bs).all (·.oneCell') = true := by simp [arrB, Value.oneCell']
theorem arrB_size (bs : List Bool) : (arrB bs).size = bs.length := by simp [arrB]
theorem arrB_set (bs : List Bool) (k : Nat) (v : Bool) : (arrB bs).setIfInBounds k (.bool v) = arrB (bs.set k v) := by simp [arrB, List.map_set]
theorem arrB_get {bs : List Bool} {k : Nat} (h : k < bs.length) : (arrB bs)[k]? = some (.bool (bs.getD k false)) := by simp [arrB, h]
theorem Row.of_blk {w : World} {B g n : Nat} {xs : List Int} (h : Blk w g 3 (arr xs)) (hl : xs.length = n) (hB : B ≤ g) (hn : n ≤ 1000000) : Row w B g n xs :=
  ⟨hl, by simp [hl], Or.inr ⟨g, n, arr xs, rfl, hB, h, Nat.le_refl _, by unfold maxLen; omega, by rw [arr_size, hl, Nat.mul_one], by rw [List.take_of_length_le (by simp [arr, hl])]; simp [arr]⟩⟩

/-- What lies behind three allocations. -/
theorem three (V : World) (o1 o2 o3 : Obj) : (((V.alloc o1).alloc o2).alloc o3).heap[V.heap.size]? = some o1 ∧ (((V.alloc o1).alloc o2).alloc o3).heap[(V.alloc o1).heap.size]? = some o2 ∧ (((V.alloc o1).alloc o2).alloc o3).heap[((V.alloc o1).alloc o2).heap.size]? = some o3 ∧ (V.alloc o1).heap.size = V.heap.size + 1 ∧ ((V.alloc o1).alloc o2).heap.size = V.heap.size + 2 ∧ Below V.heap.size V (((V.alloc o1).alloc o2).alloc o3) := by
  have s1 : (V.alloc o1).heap.size = V.heap.size + 1 := by simp
  have s2 : ((V.alloc o1).alloc o2).heap.size = V.heap.size + 2 := by simp
  refine ⟨?_, ?_, heap_alloc_new _ _, s1, s2, (((Below.refl _ _).alloc (Nat.le_refl _) _).alloc (by omega) _).alloc (by omega) _⟩
  · exact (Below.heap_alloc _ _ _ (by omega)).trans ((Below.heap_alloc _ _ _ (by omega)).trans (heap_alloc_new _ _))
  · exact (Below.heap_alloc _ _ _ (by omega)).trans (heap_alloc_new _ _)
/-- The rows and the array, apart from each other. -/
def Made (W wx : World) (gA gB gC : Nat) : Prop := gA ≠ gB ∧ gA ≠ gC ∧ gB ≠ gC ∧ W.heap.size ≤ gA ∧ W.heap.size ≤ gB ∧ W.heap.size ≤ gC ∧ Blk wx gA 3 (arr (List.replicate 64 0)) ∧ Blk wx gB 3 (arr (List.replicate 64 0)) ∧ Blk wx gC 37 offB ∧ Below W.heap.size W wx
theorem Made.row {W wx : World} {gA gB gC : Nat} (h : Made W wx gA gB gC) : Made W (wx.setRow gC offB) gA gB gC := by
  obtain ⟨a, b, c, d, e, f, g, h, i, j⟩ := h
  exact ⟨a, b, c, d, e, f, g.rowFar b _, h.rowFar c _, i.row _, below_setRow j f _⟩
abbrev oI : Obj := .cells (arr (List.replicate 64 0)) 3
abbrev oB : Obj := .cells offB 37
theorem made_ABC (W : World) : Made W (((W.drew.alloc oI).alloc oI).alloc oB) (W.drew.heap.size) ((W.drew.alloc oI).heap.size) (((W.drew.alloc oI).alloc oI).heap.size) := by
  obtain ⟨h1, h2, h3, s1, s2, hb⟩ := three W.drew oI oI oB
  have s0 : W.drew.heap.size = W.heap.size := rfl
  exact ⟨by omega, by omega, by omega, by omega, by omega, by omega, h1, h2, h3, ((Below.refl W.heap.size W).drew).trans hb⟩
theorem made_ACB (W : World) : Made W (((W.drew.alloc oI).alloc oB).alloc oI) (W.drew.heap.size) (((W.drew.alloc oI).alloc oB).heap.size) ((W.drew.alloc oI).heap.size) := by
  obtain ⟨h1, h2, h3, s1, s2, hb⟩ := three W.drew oI oB oI
  have s0 : W.drew.heap.size = W.heap.size := rfl
  exact ⟨by omega, by omega, by omega, by omega, by omega, by omega, h1, h3, h2, ((Below.refl W.heap.size W).drew).trans hb⟩
theorem made_BAC (W : World) : Made W (((W.drew.alloc oI).alloc oI).alloc oB) ((W.drew.alloc oI).heap.size) (W.drew.heap.size) (((W.drew.alloc oI).alloc oI).heap.size) := by
  obtain ⟨h1, h2, h3, s1, s2, hb⟩ := three W.drew oI oI oB
  have s0 : W.drew.heap.size = W.heap.size := rfl
  exact ⟨by omega, by omega, by omega, by omega, by omega, by omega, h2, h1, h3, ((Below.refl W.heap.size W).drew).trans hb⟩
theorem made_BCA (W : World) : Made W (((W.drew.alloc oI).alloc oB).alloc oI) (((W.drew.alloc oI).alloc oB).heap.size) (W.drew.heap.size) ((W.drew.alloc oI).heap.size) := by
  obtain ⟨h1, h2, h3, s1, s2, hb⟩ := three W.drew oI oB oI
  have s0 : W.drew.heap.size = W.heap.size := rfl
  exact ⟨by omega, by omega, by omega, by omega, by omega, by omega, h3, h1, h2, ((Below.refl W.heap.size W).drew).trans hb⟩
theorem made_CAB (W : World) : Made W (((W.drew.alloc oB).alloc oI).alloc oI) ((W.drew.alloc oB).heap.size) (((W.drew.alloc oB).alloc oI).heap.size) (W.drew.heap.size) := by
  obtain ⟨h1, h2, h3, s1, s2, hb⟩ := three W.drew oB oI oI
  have s0 : W.drew.heap.size = W.heap.size := rfl
  exact ⟨by omega, by omega, by omega, by omega, by omega, by omega, h2, h3, h1, ((Below.refl W.heap.size W).drew).trans hb⟩
theorem made_CBA (W : World) : Made W (((W.drew.alloc oB).alloc oI).alloc oI) (((W.drew.alloc oB).alloc oI).heap.size) ((W.drew.alloc oB).heap.size) (W.drew.heap.size) := by
  obtain ⟨h1, h2, h3, s1, s2, hb⟩ := three W.drew oB oI oI
  have s0 : W.drew.heap.size = W.heap.size := rfl
  exact ⟨by omega, by omega, by omega, by omega, by omega, by omega, h3, h2, h1, ((Below.refl W.heap.size W).drew).trans hb⟩

theorem p_own : Tryz.prog.follows .mixedOrders = true := by kernel_rfl
theorem off_lit : offB = #[Value.bool false, Value.bool false, Value.bool false, Value.bool false, Value.bool false, Value.bool false, Value.bool false, Value.bool false, Value.bool false, Value.bool false, Value.bool false, Value.bool false, Value.bool false, Value.bool false, Value.bool false, Value.bool false, Value.bool false, Value.bool false, Value.bool false, Value.bool false, Value.bool false, Value.bool false, Value.bool false, Value.bool false, Value.bool false, Value.bool false, Value.bool false, Value.bool false, Value.bool false, Value.bool false, Value.bool false, Value.bool false, Value.bool false, Value.bool false, Value.bool false, Value.bool false, Value.bool false, Value.bool false, Value.bool false, Value.bool false, Value.bool false, Value.bool false, Value.bool false, Value.bool false, Value.bool false, Value.bool false, Value.bool false, Value.bool false, Value.bool false, Value.bool false, Value.bool false, Value.bool false, Value.bool false, Value.bool false, Value.bool false, Value.bool false, Value.bool false, Value.bool false, Value.bool false, Value.bool false, Value.bool false, Value.bool false, Value.bool false, Value.bool false] := by kernel_rfl
end Go.Proofs.YtoeflgmdaaefeaaGreatDoor
