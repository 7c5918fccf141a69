/-
  Package hexagram: the iterator of the maps of a set of operations.
-/
import Derived.Test.YtojlopfjhhiilaaGreatDoorHxO
import Derived.Test.YtojlopfjhhiilaaGreatDoorHxM
namespace Go.Proofs.YtojlopfjhhiilaaGreatDoor
open Go Go.RowKit Go.Shelf
set_option linter.unusedVariables false

/-- Whether an operation is in a set; those of the first k that are. -/
def setB (set : Int) (k : Nat) : Bool := !(bits BinOp.and IntKind.i64 (set / 2 ^ k) 1 == 0)
def opsTo (set : Int) (k : Nat) : List Nat := (List.range k).filter (setB set)
theorem opsTo_yes {set : Int} {k : Nat} (h : setB set k = true) : opsTo set (k + 1) = opsTo set k ++ [k] := by simp [opsTo, List.range_succ, List.filter_append, h]
theorem opsTo_no {set : Int} {k : Nat} (h : setB set k = false) : opsTo set (k + 1) = opsTo set k := by simp [opsTo, List.range_succ, List.filter_append, h]
theorem opsTo_len (set : Int) (k : Nat) : (opsTo set k).length ≤ k := by
  unfold opsTo
  exact Nat.le_trans (List.length_filter_le _ _) (by simp)
/-- What a round keeps: what lay below n₀, and the box of the set. -/
def KeepB (n₀ Bs : Nat) (A B : World) : Prop := Below n₀ A B ∧ ∀ v, Boxed A Bs 3 v → Boxed B Bs 3 v
theorem keepB_t {n₀ Bs : Nat} {A B C : World} (h : KeepB n₀ Bs A B) (k : KeepB n₀ Bs B C) : KeepB n₀ Bs A C := ⟨h.1.trans k.1, fun v hv => k.2 v (h.2 v hv)⟩
theorem keepB_b {n₀ Bs : Nat} {w : World} (hm : n₀ ≤ w.heap.size) (W : World) (l : Nat) (o o' : Obj) (hl : w.heap.size ≤ l) (h : W.heap[l]? = some o) (hc : o.isCells = false) (hw : o.isWalk = false) : KeepB n₀ Bs W (W.putObj l o') := by
  refine ⟨belowK_b hm W l o o' hl h hc hw, fun v hv => ?_⟩
  refine (World.putObj_heap_other (fun e => ?_)).trans hv
  subst e
  rw [show W.heap[_]? = _ from hv] at h
  cases h
  cases hc

set_option maxRecDepth 100000 in
set_option maxHeartbeats 2000000 in
theorem maps1_in (n : Nat) (hn : 1 ≤ n) (l Bs n₀ : Nat) (set : Int) (h0s : 0 ≤ set) (h15 : set ≤ 15) (J Jx : List Nat → World → Prop)
    (hY : ∀ pre x W, J pre W → pre.length < 4 → YieldAt Fence.wide (n - 1) Tryz.prog l #[.agg (arr (opL x))] W fun e W' =>
      (e = .returned (.bool true) ∧ J (pre ++ [x]) W' ∧ KeepB n₀ Bs W W') ∨ (e = .returned (.bool false) ∧ Jx (pre ++ [x]) W'))
    (W : World) (hJ : AbidesFrom W.heap.size J) (hn₀ : n₀ ≤ W.heap.size) (hBs : Boxed W Bs 3 (.int .i64 set)) (hg : ∀ W' , Below n₀ W W' → Src W') (h0 : J [] W) :
    CallsIn Fence.wide n Tryz.prog 56 #[.func (.yield l) #[] #[], .pointer (some ⟨Bs, 0, none⟩)] W fun e W' => (∃ v, e = .returned v) ∧
      ((∃ ys, ys = opsTo set 4 ∧ J ys W') ∨ (∃ pre, (∃ k, k ≤ 4 ∧ pre = opsTo set k) ∧ Jx pre W')) := by
  refine callsIn_of_wp Tryz.func56 rfl trivial ?_ rfl
  simp only [Tryz.ntmps56, List.size_toArray, List.length_cons, List.length_nil, Nat.reduceAdd, Nat.reduceSub, Array.replicate_succ, Array.replicate_zero, List.push_toArray, List.append_toArray, List.nil_append, List.cons_append]
  have Hg := Lib.hid hg
  clear hg
  gi_wp2
  gi_loopw [4] (fun i wr => ∃ k : Nat, k ≤ 4 ∧ i = .int .i64 k ∧ J (opsTo set k) wr ∧ Below n₀ W wr ∧ Hid (Boxed wr Bs 3 (.int .i64 set))) (fun i _ => 4 - (intOf i).toNat)
  case atStart => exact ⟨0, by omega, rfl, h0, Below.refl _ _, hBs⟩
  case round =>
    obtain ⟨k, hk, rfl, hJk, hB, HBs⟩ := hrel
    by_cases hlt : k < 4
    · have hsz : W.heap.size ≤ wr.heap.size := hB.size
      have bO := Boxed.new wr 35 (.int .i64 k)
      have hcs := (HBs.out.alloc (.cells #[.int .i64 k] 35)).cell
      have hJ2 : J (opsTo set k) (wr.alloc (.cells #[.int .i64 k] 35)) := hJ _ wr _ none hJk (World.grownBy_alloc wr _ none) (fun r e => by cases e)
      cases hs : setB set k
      · have e1 : (bits BinOp.and IntKind.i64 (set / 2 ^ k) 1 == 0) = true := by simpa [setB] using hs
        have HN := Lib.hid (opsTo_no hs)
        clear hs
        gi_wp2
        go_roundw
        case rel => exact ⟨k + 1, by omega, by go_num, by rw [HN.out]; exact hJ2, hB.alloc (by omega) _, HBs.out.alloc _⟩
        case measure => simp [intOf]; omega
      · have e1 : (bits BinOp.and IntKind.i64 (set / 2 ^ k) 1 == 0) = false := by simpa [setB] using hs
        have HN := Lib.hid (opsTo_yes hs)
        clear hs
        have hB1 := hB.alloc (by omega) (.cells #[.int .i64 k] 35)
        have hM := mapped_op wr.heap.size k hlt (wr.alloc (.cells #[.int .i64 k] 35)) bO.cell (Hg.out _ hB1)
        have HM := Lib.hid hM
        clear hM
        gi_wp2_with fail
        refine ⟨trivial, ?_⟩
        refine (callsIn_wide.2 HM.out).mono ?_
        rintro e w2 ⟨rfl, hb2⟩
        have hJ3 : J (opsTo set k) w2 := hJ _ _ w2 none hJ2 (grown_of_below hb2) (fun r e => by cases e)
        have hB2 : Below n₀ W w2 := hB1.trans (hb2.mono (by simp; omega))
        have HB2 := Lib.hid (show Boxed w2 Bs 3 (.int .i64 set) from (HBs.out.alloc (.cells #[.int .i64 k] 35)).kept (grown_of_below hb2) (by simp))
        obtain ⟨fn, tmps, assign, body, hy, hR'⟩ := hY (opsTo set k) k w2 hJ3 (by have := opsTo_len set k; omega)
        clear hb2 hJ2 hB1 hcs HM hB
        gi_wp2
        refine hR'.mono ?_
        rintro e W3 (⟨rfl, hJ4, hk4⟩ | ⟨rfl, hJx4⟩)
        · clear hy hR'
          gi_wp2
          go_roundw
          case rel => exact ⟨k + 1, by omega, by go_num, by rw [HN.out]; exact hJ4, hB2.trans hk4.1, hk4.2 _ HB2.out⟩
          case measure => simp [intOf]; omega
        · clear hy hR'
          gi_wp2
          refine bodyPost_ret (results_none rfl _ _ _) rfl ?_
          exact ⟨⟨_, rfl⟩, .inr ⟨_, ⟨k + 1, by omega, HN.out.symm⟩, hJx4⟩⟩
    · obtain rfl : k = 4 := by omega
      gi_wp2
      go_end0
      exact ⟨⟨_, rfl⟩, .inl ⟨_, rfl, hJk⟩⟩

theorem maps_any (set : Int) (w : World) (n : Nat) :
    CallsIn Fence.wide n Tryz.prog 32 #[.int .i64 set] w fun e w' => e = .returned (.func (.func 56) #[] #[.pointer (some ⟨w.heap.size, 0, none⟩)]) ∧ w' = w.alloc (.cells #[.int .i64 set] 3) := by
  refine callsIn_of_wp Tryz.func32 rfl trivial ?_ rfl
  simp only [Tryz.ntmps32, List.size_toArray, List.length_cons, List.length_nil, Nat.reduceAdd, Nat.reduceSub, Array.replicate_succ, Array.replicate_zero, List.push_toArray, List.append_toArray, List.nil_append, List.cons_append]
  gi_wp2
  go_ret
  exact ⟨rfl, rfl⟩

theorem maps_stops (n : Nat) (hn : 1 ≤ n) (Bs n₀ : Nat) (set : Int) (h0s : 0 ≤ set) (h15 : set ≤ 15) (w : World) (hBs : Boxed w Bs 3 (.int .i64 set)) (hn₀ : n₀ ≤ w.heap.size) (hg : ∀ W', Below n₀ w W' → Src W') :
    SeqStopsK Fence.wide n Tryz.prog 56 #[.pointer (some ⟨Bs, 0, none⟩)] (fun x : Nat => #[Value.agg (arr (opL x))]) (KeepB n₀ Bs) (fun ys => ys = opsTo set 4) (fun pre => ∃ k, k ≤ 4 ∧ pre = opsTo set k) 4 w := fun l J Jx W hW hJ _ hY h0 =>
  maps1_in n hn l Bs n₀ set h0s h15 J Jx hY W hJ (Nat.le_trans hn₀ hW.size) ((hBs.kept (grown_of_below hW) (by simp))) (fun W' h => hg W' ((hW.mono hn₀).trans h)) h0
end Go.Proofs.YtojlopfjhhiilaaGreatDoor
