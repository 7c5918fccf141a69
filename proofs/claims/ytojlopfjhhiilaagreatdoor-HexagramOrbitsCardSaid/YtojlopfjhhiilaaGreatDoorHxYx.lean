/-
  Package hexagram: what operations reach, for maps: the slots of the region that makes the next map.
-/
import Derived.Test.YtojlopfjhhiilaaGreatDoorHxYu
import Derived.Test.YtojlopfjhhiilaaGreatDoorHxYp
import Derived.Deep.MidRow
namespace Go.Proofs.YtojlopfjhhiilaaGreatDoor
open Go Go.RowKit Go.Shelf Go.Maps
set_option linter.unusedVariables false

section
variable {F : Fence} {n : Nat} {P : Program} {o : Oper} {a : Act} {w : World} {K : Act → World → Prop} {Q : Exit → Act → World → Prop}
theorem operIn_load_mid (ty : TypeId) (x : Operand) (ho : o.op = .load ty x)
    (g off : Nat) (hx : a.eval x = .pointer (some ⟨g, off, none⟩)) (cs : List Value) (d : TypeDesc) (hc : w.rangeAt g off cs)
    (hu : P.underlying ty = some d) (hd : d.isRow = true) (hi : (P.info? ty).map (·.size) = some cs.length)
    (h : K (a.put o.dst (.agg cs.toArray)) w) : Oper.wpIn F n P o a w K Q := by
  unfold Oper.wpIn
  refine ⟨by simp [Oper.about, ho], ?_⟩
  rw [Oper.semAt_plain F _ _ (by rw [ho]; intro c hc'; cases hc')]
  unfold execOp
  simp only [ho, hx, Sem.run_bind, Sem.run_pure, Result.andThen_ok, run_loadAt_mid w g off ty cs d hc hu hd hi]
  exact h
theorem operIn_store_row (ty : TypeId) (x y : Operand) (ho : o.op = .store ty x y)
    (g : Nat) (cells : Array Value) (hx : a.eval x = .pointer (some ⟨g, 0, none⟩)) (hy : a.eval y = .agg cells)
    (t : TypeId) (old : Array Value) (hg : w.heap[g]? = some (.cells old t (0, 0))) (hi : (P.info? ty).map (·.size) = some cells.size)
    (hold : old.size = cells.size) (h1 : cells.all (·.oneCell') = true)
    (h : K (a.put o.dst undef) (w.setRow g cells)) : Oper.wpIn F n P o a w K Q := by
  unfold Oper.wpIn
  refine ⟨by simp [Oper.about, ho], ?_⟩
  rw [Oper.semAt_plain F _ _ (by rw [ho]; intro c hc'; cases hc')]
  unfold execOp
  simp only [ho, hx, hy, Instr.storeAt, Instr.sureAddr, Sem.run_bind, Sem.run_pure, Result.andThen_ok, run_storeVar_row w g t ty old cells hg hi hold h1]
  exact h
end
def deps7 (i : Nat) : List Nat := [[], [], [], [1, 2], [3], [0, 4], [], [6, 5]].getD i []
def act7 (s0 s1 s2 s3 s4 s5 s6 s7 s8 s9 s10 s12 s13 s14 s15 s16 s17 s18 s19 s20 s21 s22 s23 s24 s25 s32 s33 s34 s35 s36 s37 s38 s39 s40 s41 s42 : Value) (c0 c1 c2 c3 c4 c5 c6 : Bool) (v26 v27 v28 v29 v30 v31 v11 : Value) : Act :=
  { tmps := #[s0, s1, s2, s3, s4, s5, s6, s7, s8, s9, s10, if c6 = true then v11 else undef, s12, s13, s14, s15, s16, s17, s18, s19, s20, s21, s22, s23, s24, s25, if c0 = true then v26 else undef, if c1 = true then v27 else undef, if c2 = true then v28 else undef, if c3 = true then v29 else undef, if c4 = true then v30 else undef, if c5 = true then v31 else undef, s32, s33, s34, s35, s36, s37, s38, s39, s40, s41, s42], defers := [] }
def actN7 (s0 s1 s2 s3 s4 s5 s6 s7 s8 s9 s10 s12 s13 s14 s15 s16 s17 s18 s19 s20 s21 s22 s23 s24 s25 s32 s33 s34 s35 s36 s37 s38 s39 s40 s41 s42 : Value) (b : Nat) (v26 v27 v28 v29 v30 v31 v11 : Value) : Act := act7 s0 s1 s2 s3 s4 s5 s6 s7 s8 s9 s10 s12 s13 s14 s15 s16 s17 s18 s19 s20 s21 s22 s23 s24 s25 s32 s33 s34 s35 s36 s37 s38 s39 s40 s41 s42 (b.testBit 0) (b.testBit 1) (b.testBit 2) (b.testBit 3) (b.testBit 4) (b.testBit 5) (b.testBit 6) v26 v27 v28 v29 v30 v31 v11
section
variable (s0 s1 s2 s3 s4 s5 s6 s7 s8 s9 s10 s12 s13 s14 s15 s16 s17 s18 s19 s20 s21 s22 s23 s24 s25 s32 s33 s34 s35 s36 s37 s38 s39 s40 s41 s42 : Value) (b : Nat) (v26 v27 v28 v29 v30 v31 v11 : Value)
theorem actN7_0 : (actN7 s0 s1 s2 s3 s4 s5 s6 s7 s8 s9 s10 s12 s13 s14 s15 s16 s17 s18 s19 s20 s21 s22 s23 s24 s25 s32 s33 s34 s35 s36 s37 s38 s39 s40 s41 s42 b v26 v27 v28 v29 v30 v31 v11).put (some 26) v26 = actN7 s0 s1 s2 s3 s4 s5 s6 s7 s8 s9 s10 s12 s13 s14 s15 s16 s17 s18 s19 s20 s21 s22 s23 s24 s25 s32 s33 s34 s35 s36 s37 s38 s39 s40 s41 s42 (b ||| 2 ^ 0) v26 v27 v28 v29 v30 v31 v11 := by
  unfold actN7
  rw [tb_self, tb (by omega), tb (by omega), tb (by omega), tb (by omega), tb (by omega), tb (by omega)]
  rfl
theorem actN7_1 : (actN7 s0 s1 s2 s3 s4 s5 s6 s7 s8 s9 s10 s12 s13 s14 s15 s16 s17 s18 s19 s20 s21 s22 s23 s24 s25 s32 s33 s34 s35 s36 s37 s38 s39 s40 s41 s42 b v26 v27 v28 v29 v30 v31 v11).put (some 27) v27 = actN7 s0 s1 s2 s3 s4 s5 s6 s7 s8 s9 s10 s12 s13 s14 s15 s16 s17 s18 s19 s20 s21 s22 s23 s24 s25 s32 s33 s34 s35 s36 s37 s38 s39 s40 s41 s42 (b ||| 2 ^ 1) v26 v27 v28 v29 v30 v31 v11 := by
  unfold actN7
  rw [tb_self, tb (by omega), tb (by omega), tb (by omega), tb (by omega), tb (by omega), tb (by omega)]
  rfl
theorem actN7_2 : (actN7 s0 s1 s2 s3 s4 s5 s6 s7 s8 s9 s10 s12 s13 s14 s15 s16 s17 s18 s19 s20 s21 s22 s23 s24 s25 s32 s33 s34 s35 s36 s37 s38 s39 s40 s41 s42 b v26 v27 v28 v29 v30 v31 v11).put (some 28) v28 = actN7 s0 s1 s2 s3 s4 s5 s6 s7 s8 s9 s10 s12 s13 s14 s15 s16 s17 s18 s19 s20 s21 s22 s23 s24 s25 s32 s33 s34 s35 s36 s37 s38 s39 s40 s41 s42 (b ||| 2 ^ 2) v26 v27 v28 v29 v30 v31 v11 := by
  unfold actN7
  rw [tb_self, tb (by omega), tb (by omega), tb (by omega), tb (by omega), tb (by omega), tb (by omega)]
  rfl
theorem actN7_3 : (actN7 s0 s1 s2 s3 s4 s5 s6 s7 s8 s9 s10 s12 s13 s14 s15 s16 s17 s18 s19 s20 s21 s22 s23 s24 s25 s32 s33 s34 s35 s36 s37 s38 s39 s40 s41 s42 b v26 v27 v28 v29 v30 v31 v11).put (some 29) v29 = actN7 s0 s1 s2 s3 s4 s5 s6 s7 s8 s9 s10 s12 s13 s14 s15 s16 s17 s18 s19 s20 s21 s22 s23 s24 s25 s32 s33 s34 s35 s36 s37 s38 s39 s40 s41 s42 (b ||| 2 ^ 3) v26 v27 v28 v29 v30 v31 v11 := by
  unfold actN7
  rw [tb_self, tb (by omega), tb (by omega), tb (by omega), tb (by omega), tb (by omega), tb (by omega)]
  rfl
theorem actN7_4 : (actN7 s0 s1 s2 s3 s4 s5 s6 s7 s8 s9 s10 s12 s13 s14 s15 s16 s17 s18 s19 s20 s21 s22 s23 s24 s25 s32 s33 s34 s35 s36 s37 s38 s39 s40 s41 s42 b v26 v27 v28 v29 v30 v31 v11).put (some 30) v30 = actN7 s0 s1 s2 s3 s4 s5 s6 s7 s8 s9 s10 s12 s13 s14 s15 s16 s17 s18 s19 s20 s21 s22 s23 s24 s25 s32 s33 s34 s35 s36 s37 s38 s39 s40 s41 s42 (b ||| 2 ^ 4) v26 v27 v28 v29 v30 v31 v11 := by
  unfold actN7
  rw [tb_self, tb (by omega), tb (by omega), tb (by omega), tb (by omega), tb (by omega), tb (by omega)]
  rfl
theorem actN7_5 : (actN7 s0 s1 s2 s3 s4 s5 s6 s7 s8 s9 s10 s12 s13 s14 s15 s16 s17 s18 s19 s20 s21 s22 s23 s24 s25 s32 s33 s34 s35 s36 s37 s38 s39 s40 s41 s42 b v26 v27 v28 v29 v30 v31 v11).put (some 31) v31 = actN7 s0 s1 s2 s3 s4 s5 s6 s7 s8 s9 s10 s12 s13 s14 s15 s16 s17 s18 s19 s20 s21 s22 s23 s24 s25 s32 s33 s34 s35 s36 s37 s38 s39 s40 s41 s42 (b ||| 2 ^ 5) v26 v27 v28 v29 v30 v31 v11 := by
  unfold actN7
  rw [tb_self, tb (by omega), tb (by omega), tb (by omega), tb (by omega), tb (by omega), tb (by omega)]
  rfl
theorem actN7_6 (u : Value) : (actN7 s0 s1 s2 s3 s4 s5 s6 s7 s8 s9 s10 s12 s13 s14 s15 s16 s17 s18 s19 s20 s21 s22 s23 s24 s25 s32 s33 s34 s35 s36 s37 s38 s39 s40 s41 s42 b v26 v27 v28 v29 v30 v31 v11).put (some 11) u = actN7 s0 s1 s2 s3 s4 s5 s6 s7 s8 s9 s10 s12 s13 s14 s15 s16 s17 s18 s19 s20 s21 s22 s23 s24 s25 s32 s33 s34 s35 s36 s37 s38 s39 s40 s41 s42 (b ||| 2 ^ 6) v26 v27 v28 v29 v30 v31 u := by
  unfold actN7
  rw [tb_self, tb (by omega), tb (by omega), tb (by omega), tb (by omega), tb (by omega), tb (by omega)]
  rfl
theorem actN7_7 : actN7 s0 s1 s2 s3 s4 s5 s6 s7 s8 s9 s10 s12 s13 s14 s15 s16 s17 s18 s19 s20 s21 s22 s23 s24 s25 s32 s33 s34 s35 s36 s37 s38 s39 s40 s41 s42 (b ||| 2 ^ 7) v26 v27 v28 v29 v30 v31 v11 = actN7 s0 s1 s2 s3 s4 s5 s6 s7 s8 s9 s10 s12 s13 s14 s15 s16 s17 s18 s19 s20 s21 s22 s23 s24 s25 s32 s33 s34 s35 s36 s37 s38 s39 s40 s41 s42 b v26 v27 v28 v29 v30 v31 v11 := by
  unfold actN7
  rw [tb (by omega), tb (by omega), tb (by omega), tb (by omega), tb (by omega), tb (by omega), tb (by omega)]
end
end Go.Proofs.YtojlopfjhhiilaaGreatDoor
