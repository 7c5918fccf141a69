/-
  slices.Chunk at lists of ints: what it yields.
-/
import Derived.Test.YtahmhdjoaoldcaaHbD
import Derived.Test.YtahmhdjoaoldcaaHbH
import Derived.Test.YtahmhdjoaoldcaaRgi
import Derived.Maps.AppendAt
import Derived.RangeFuncNested
import Derived.RangeFuncBound
import Derived.RangeFuncCalls
import Derived.RangeFuncLeaves
import Derived.RangeFuncBox
import Derived.Shelf.Abstract
import Derived.Shelf.RegionOpen
import Derived.OwnWalkIn
import Derived.TacticsInMore
import Derived.LoopNIn
import Derived.LoopIn
namespace Go.Proofs.Ytahmhdjoaoldcaa
open Go Go.RowKit Go.Shelf
set_option linter.unusedVariables false
set_option linter.unusedSimpArgs false

theorem cell_tr {w w' : World} (hb : Below w.heap.size w w') {a : Addr} {v : Value} (h : w.cell? a = some v) : w'.cell? a = some v :=
  (hb.cell (p := a) (World.block_lt_of_cell? w _ h)).trans h
/-- A piece as it is yielded. -/
def encP (q o m a k : Nat) : Array Value := #[.slice (some ⟨q, o + k * a, none⟩) (min a (m - k * a)) (min a (m - k * a))]
/-- How many pieces there are. -/
def manyP (m a : Nat) : Nat := (m + a - 1) / a
theorem manyP_lt {m a k : Nat} (ha : 1 ≤ a) : k < manyP m a ↔ k * a < m := by
  unfold manyP
  rw [Nat.lt_iff_add_one_le, Nat.le_div_iff_mul_le (by omega), Nat.add_mul]
  omega
/-- What the body of a range over pieces keeps: the two variables of the iterator. -/
def KpC (Bs Bn : Nat) (W W' : World) : Prop := W.heap.size ≤ W'.heap.size ∧ W'.heap[Bs]? = W.heap[Bs]? ∧ W'.heap[Bn]? = W.heap[Bn]?
theorem KpC.trans {Bs Bn : Nat} {A B C : World} (h : KpC Bs Bn A B) (k : KpC Bs Bn B C) : KpC Bs Bn A C := ⟨Nat.le_trans h.1 k.1, k.2.1.trans h.2.1, k.2.2.trans h.2.2⟩
theorem KpC.put {Bs Bn : Nat} {w : World} (h1 : Bs < w.heap.size) (h2 : Bn < w.heap.size) (W : World) (l : Nat) (o o' : Obj) (hl : w.heap.size ≤ l) (h : W.heap[l]? = some o) (_ : o.isCells = false) (_ : o.isWalk = false) : KpC Bs Bn W (W.putObj l o') := by
  refine ⟨?_, World.putObj_heap_other (by omega), World.putObj_heap_other (by omega)⟩
  exact (grownBy_putObj' W l o').size
theorem KpC.cells {Bs Bn : Nat} {W W' : World} (h : KpC Bs Bn W W') {u v : Value} (h1 : W.cell? ⟨Bs, 0, none⟩ = some u) (h2 : W.cell? ⟨Bn, 0, none⟩ = some v) : W'.cell? ⟨Bs, 0, none⟩ = some u ∧ W'.cell? ⟨Bn, 0, none⟩ = some v :=
  ⟨(World.cell?_of_block (w := W) h.2.1).trans h1, (World.cell?_of_block (w := W) h.2.2).trans h2⟩
set_option maxRecDepth 100000 in
set_option maxHeartbeats 4000000 in
theorem chunk1_in (F : Fence) (n : Nat) (h93 : F.fn 43) (hro : F.round = none) (hn : 1 ≤ n) (l Bs Bn m c a q o : Nat) (p : Option Addr) (hp : p = some ⟨q, o, none⟩ ∨ m = 0) (J Jx : List Nat → World → Prop)
    (hY : ∀ pre x W, J pre W → pre.length < manyP m a → YieldAt F (n - 1) Try.prog l (encP q o m a x) W fun e W' =>
      (e = .returned (.bool true) ∧ J (pre ++ [x]) W' ∧ KpC Bs Bn W W') ∨ (e = .returned (.bool false) ∧ Jx (pre ++ [x]) W'))
    (W : World) (hJ : AbidesFrom W.heap.size J) (h0 : J [] W) (hcs : W.cell? ⟨Bs, 0, none⟩ = some (.slice p m c)) (hcn : W.cell? ⟨Bn, 0, none⟩ = some (.int .i64 (a : Int))) (hm : m ≤ 1000) (hmc : m ≤ c) (ha : 1 ≤ a) (ha2 : a ≤ 1000) :
    CallsIn F n Try.prog 43 #[.func (.yield l) #[] #[], .pointer (some ⟨Bs, 0, none⟩), .pointer (some ⟨Bn, 0, none⟩)] W fun e W' => (∃ v, e = .returned v) ∧
      ((∃ ys, ys = upto id (manyP m a) ∧ J ys W') ∨ (∃ pre, True ∧ Jx pre W')) := by
  refine callsIn_of_wp Try.func43 rfl h93 ?_ hro
  simp only [Try.ntmps43, List.size_toArray, List.length_cons, List.length_nil, Nat.reduceAdd, Nat.reduceSub, Array.replicate_succ, Array.replicate_zero, List.push_toArray, List.append_toArray, List.nil_append, List.cons_append]
  gi_wp2
  gi_loopw [4] (fun i wx => ∃ k s : Nat, k ≤ manyP m a ∧ Hid (s = k * a) ∧ s ≤ 2000 ∧ i = .int .i64 (s : Int) ∧ J (upto id k) wx ∧ KpC Bs Bn W wx) (fun i _ => 3000 - (intOf i).toNat)
  case atStart => exact ⟨0, 0, by omega, (by show 0 = 0 * a; omega), by omega, rfl, h0, Nat.le_refl _, rfl, rfl⟩
  case round =>
    obtain ⟨k, s, hk, HS, hs, rfl, hJk, hb0⟩ := hrel
    obtain ⟨hcs2, hcn2⟩ := hb0.cells hcs hcn
    have hsz := hb0.1
    by_cases hlt : s < m
    · obtain rfl : p = some ⟨q, o, none⟩ := hp.resolve_right (by omega)
      obtain ⟨M, hM⟩ : ∃ M, m - s = M := ⟨_, rfl⟩
      obtain ⟨C, hC⟩ : ∃ C, c - s = C := ⟨_, rfl⟩
      obtain ⟨E, hE⟩ : ∃ E, min a M = E := ⟨_, rfl⟩
      have hkl : k < manyP m a := (manyP_lt ha).2 (by have := HS.out; omega)
      have HE := Lib.hid (show encP q o m a k = #[.slice (some ⟨q, o + s, none⟩) E E] by unfold encP; rw [← HS.out, hM, hE])
      have hsl : (s : Int) < (m : Int) := by omega
      have hsd : decide (s < m) = true := decide_eq_true hlt
      have hsc : ¬ c = s := by omega
      have hsm : s ≤ m := by omega
      have hmin : min (a : Int) (M : Int) = (E : Int) := by omega
      have hmin3 : (if M < a then (M : Int) else (a : Int)) = (E : Int) := by split <;> omega
      have hmin2 : min a M = E := hE
      have hM2 : ((m : Int) - (s : Int)).toNat = M := by omega
      have hC2 : ((c : Int) - (s : Int)).toNat = C := by omega
      gi_wp2
      refine wpIn_region_vals follows_mixedB [some 13, some 14, some 15, some 16, some 17, some 18, some 5] (by kernel_rfl) [(.int .i64 (a : Int)), (.slice (some ⟨q, o, none⟩) m c), (.int .i64 (s : Int)), (.slice (some ⟨q, o + s, none⟩) M C), (.int .i64 (M : Int)), (.int .i64 (E : Int)), (.int .i64 (E : Int))] rfl ?step ?fin
      case step =>
        intro i hi a1 V FD
        have hi : i < 7 := hi
        have e : i = 0 ∨ i = 1 ∨ i = 2 ∨ i = 3 ∨ i = 4 ∨ i = 5 ∨ i = 6 := by omega
        clear hi
        rcases e with rfl | rfl | rfl | rfl | rfl | rfl | rfl
        · have e2 : a1.tmps[2]?.getD undef = (.pointer (some ⟨Bn, 0, none⟩)) := (FD.kept 2 (by kernel_rfl)).trans rfl
          refine wpOpIn_step rfl (fun K hK => ?_)
          refine Eq.mpr (if_pos (by rfl)) ?_
          have hca : V.cell? ⟨Bn, 0, none⟩ = some (.int .i64 (a : Int)) := cell_tr FD.below hcn2
          go_simp
          exact hK _ _ ⟨rfl, Below.refl _ _⟩
        · have e1 : a1.tmps[1]?.getD undef = (.pointer (some ⟨Bs, 0, none⟩)) := (FD.kept 1 (by kernel_rfl)).trans rfl
          refine wpOpIn_step rfl (fun K hK => ?_)
          refine Eq.mpr (if_pos (by rfl)) ?_
          have hcb : V.cell? ⟨Bs, 0, none⟩ = some (.slice (some ⟨q, o, none⟩) m c) := cell_tr FD.below hcs2
          go_simp
          exact hK _ _ ⟨rfl, Below.refl _ _⟩
        · have e4 : a1.tmps[4]?.getD undef = (.int .i64 (s : Int)) := (FD.kept 4 (by kernel_rfl)).trans rfl
          refine wpOpIn_step rfl (fun K hK => ?_)
          refine Eq.mpr (if_pos (by rfl)) ?_
          go_simp
          exact hK _ _ ⟨rfl, Below.refl _ _⟩
        · have e14 : a1.tmps[14]?.getD undef = (.slice (some ⟨q, o, none⟩) m c) := FD.dep 1 14 (by kernel_rfl) rfl
          have e15 : a1.tmps[15]?.getD undef = (.int .i64 (s : Int)) := FD.dep 2 15 (by kernel_rfl) rfl
          refine wpOpIn_step rfl (fun K hK => ?_)
          refine Eq.mpr (if_pos (by rfl)) ?_
          go_simp
          exact hK _ _ ⟨rfl, Below.refl _ _⟩
        · have e16 : a1.tmps[16]?.getD undef = (.slice (some ⟨q, o + s, none⟩) M C) := FD.dep 3 16 (by kernel_rfl) rfl
          refine wpOpIn_step rfl (fun K hK => ?_)
          refine Eq.mpr (if_pos (by rfl)) ?_
          go_simp
          exact hK _ _ ⟨rfl, Below.refl _ _⟩
        · have e13 : a1.tmps[13]?.getD undef = (.int .i64 (a : Int)) := FD.dep 0 13 (by kernel_rfl) rfl
          have e17 : a1.tmps[17]?.getD undef = (.int .i64 (M : Int)) := FD.dep 4 17 (by kernel_rfl) rfl
          refine wpOpIn_step rfl (fun K hK => ?_)
          refine Eq.mpr (if_pos (by rfl)) ?_
          go_simp
          exact hK _ _ ⟨rfl, Below.refl _ _⟩
        · have e18 : a1.tmps[18]?.getD undef = (.int .i64 (E : Int)) := FD.dep 5 18 (by kernel_rfl) rfl
          refine wpOpIn_step rfl (fun K hK => ?_)
          refine Eq.mpr (if_pos (by rfl)) ?_
          go_simp
          exact hK _ _ ⟨rfl, Below.refl _ _⟩
      case fin =>
        intro V hb
        simp only [finV, List.set_cons_succ, List.set_cons_zero]
        have hcs3 := cell_tr hb hcs2
        have hbs : Bs < wr.heap.size := World.block_lt_of_cell? wr _ hcs2
        have hbn : Bn < wr.heap.size := World.block_lt_of_cell? wr _ hcn2
        have hbq : KpC Bs Bn W V := hb0.trans ⟨hb.size, hb.block _ hbs, hb.block _ hbn⟩
        have hJ2 : J (upto id k) V := hJ _ wr V none hJk ⟨hb.os, hb.tape, hb.output, hb.size, fun k hk _ => hb.block k hk⟩ (fun r e => by cases e)
        have hsz2 : W.heap.size ≤ V.heap.size := Nat.le_trans hsz hb.size
        obtain ⟨X, hX⟩ : ∃ X, s + E = X := ⟨_, rfl⟩
        have hEM : E ≤ M ∧ 1 ≤ E := by omega
        have hw1 : IntKind.i64.wrap ((s : Int) + (E : Int)) = (X : Int) := by
          rw [← hX, ← Int.natCast_add]
          exact IntWalk.i64_in _ (by omega)
        have hXs : X - s = E := by omega
        have hlu : (upto id k).length = k := upto_length _ _
        have HKN := Lib.hid (show k + 1 ≤ manyP m a from hkl)
        have hsX : (s : Int) ≤ (X : Int) := by omega
        have hXc : (X : Int) ≤ (c : Int) := by omega
        have hsX' : decide (s ≤ X) = true := decide_eq_true (by omega)
        have hXc' : decide (X ≤ c) = true := decide_eq_true (by omega)
        have hsne : s ≠ X := by omega
        obtain ⟨fn, tmps, assign, body, hy, hR'⟩ := hY (upto id k) k V hJ2 (by rw [upto_length]; exact hkl)
        rw [HE.out] at hy
        have HU := Lib.hid (show upto id k ++ [k] = upto id (k + 1) from (upto_succ id k).symm)
        clear hE hM hC hmin hmin2 hM2 hC2 hX hb hJk hcs2 hcn2
        have HJS := Lib.hid (show s + a = (k + 1) * a by rw [HS.out, Nat.add_mul]; omega)
        have hw2 : IntKind.i64.wrap ((s : Int) + (a : Int)) = ((s + a : Nat) : Int) := by
          rw [← Int.natCast_add]
          exact IntWalk.i64_in _ (by omega)
        clear hlu
        gi_wp2
        refine hR'.mono ?_
        rintro e W3 (⟨rfl, hJ3, hk3⟩ | ⟨rfl, hJx3⟩)
        · clear hy hR'
          have hbq3 : KpC Bs Bn W W3 := hbq.trans hk3
          obtain ⟨hcs3', hcn3⟩ := hbq3.cells hcs hcn
          gi_wp2
          go_roundw
          case rel => exact ⟨k + 1, s + a, HKN.out, HJS, by omega, by first | rfl | go_num, by rw [← HU.out]; exact hJ3, hbq3⟩
          case measure => simp [intOf]; omega
        · clear hy hR'
          gi_wp2
          refine bodyPost_ret (results_none rfl _ _ _) rfl ?_
          exact ⟨⟨_, rfl⟩, .inr ⟨_, trivial, hJx3⟩⟩
    · have hsl : (m : Int) ≤ (s : Int) := by omega
      have hsd : decide (s < m) = false := decide_eq_false hlt
      have hke : k = manyP m a := by
        have h1 := (manyP_lt (m := m) (k := k) ha)
        have h2 := HS.out
        by_cases e : k < manyP m a
        · have := h1.1 e; omega
        · omega
      have HK := Lib.hid hke
      clear hke
      gi_wp2
      go_end0
      exact ⟨⟨_, rfl⟩, .inl ⟨_, rfl, by rw [← HK.out]; exact hJk⟩⟩
end Go.Proofs.Ytahmhdjoaoldcaa
