/-
  Package shield: the iterator of all charts.
-/
import Derived.Test.YthioojappmnnaaaDoorShL
import Derived.Test.YthioojappmnnaaaDoorShM
import Derived.RangeFuncNested
import Derived.RangeFuncBound
import Derived.RangeFuncCalls
import Derived.RangeFuncLeaves
import Derived.RangeFuncBox
import Derived.Shelf.Abstract
import Derived.Shelf.RegionOpen
import Derived.OwnWalkIn
import Derived.TacticsInMore
import Derived.LoopNIn
import Derived.LoopIn
namespace Go.Proofs.YthioojappmnnaaaDoor
open Go Go.RowKit Go.Shelf
set_option linter.unusedVariables false

theorem grown_of_below {w w' : World} (h : Below w.heap.size w w') : w.grownBy w' none := ⟨h.os, h.tape, h.output, h.size, fun k hk _ => h.block k hk⟩
section
variable {F : Fence} {nF : Nat} {P : Program} {ops : Array Oper} {rest : List Oper} {o : Oper} {a : Act} {w : World} {Q : Exit → Act → World → Prop}
theorem wpListIn_store_row (hgd : o.guard = none) (ty : TypeId) (x y : Operand) (ho : o.op = .store ty x y)
    (g : Nat) (cells : Array Value) (hx : a.eval x = .pointer (some ⟨g, 0, none⟩)) (hy : a.eval y = .agg cells)
    (t : TypeId) (old : Array Value) (hg : w.heap[g]? = some (.cells old t (0, 0))) (hi : (P.info? ty).map (·.size) = some cells.size)
    (hold : old.size = cells.size) (h1 : cells.all (·.oneCell') = true)
    (h : wpListIn F nF P ops Q rest (a.put o.dst undef) (w.setRow g cells)) : wpListIn F nF P ops Q (o :: rest) a w := by
  refine wpListIn_plain hgd fun K' hK' => ?_
  unfold Oper.wpIn
  refine ⟨by simp [Oper.about, ho], ?_⟩
  rw [Oper.semAt_plain F _ _ (by rw [ho]; intro c hc'; cases hc')]
  unfold execOp
  simp only [ho, hx, hy, Instr.storeAt, Instr.sureAddr, Sem.run_bind, Sem.run_pure, Result.andThen_ok, run_storeVar_row w g t ty old cells hg hi hold h1]
  exact hK' _ _ h
end

theorem wpIn_cut0 {F : Fence} {rm : Nat} {P : Program} {s : Code} {K : Act → World → Prop} {Q' : Exit → Act → World → Prop} {a : Act} {w : World} (R : Act → World → Prop)
    (first : s.wpIn F rm P (Exit.then R Q') a w) (rest : ∀ a' w', R a' w' → K a' w') : s.wpIn F rm P (Exit.then K Q') a w := by
  refine wpIn_mono first ?_
  intro e a' w' hq
  cases e with
  | normal => exact rest _ _ hq
  | exit id => exact hq
  | goto l => exact hq
  | ret => exact hq
  | panic ch => exact hq
  | outgrown => exact hq
theorem operIn_load_row {F : Fence} {n : Nat} {P : Program} {o : Oper} {a : Act} {w : World} {K : Act → World → Prop} {Q : Exit → Act → World → Prop} (ty : TypeId) (x : Operand) (ho : o.op = .load ty x)
    (g : Nat) (hx : a.eval x = .pointer (some ⟨g, 0, none⟩)) (t : TypeId) (cs : Array Value) (fr : Nat × Nat) (d : TypeDesc) (hg : w.heap[g]? = some (.cells cs t fr))
    (hu : P.underlying ty = some d) (hd : (match d with | .struct _ | .array _ _ => true | _ => false) = true) (hi : (P.info? ty).map (·.size) = some cs.size)
    (h : K (a.put o.dst (.agg cs)) w) : Oper.wpIn F n P o a w K Q := by
  unfold Oper.wpIn
  refine ⟨by simp [Oper.about, ho], ?_⟩
  rw [Oper.semAt_plain F _ _ (by rw [ho]; intro c hc'; cases hc')]
  unfold execOp
  simp only [ho, hx, Instr.loadAt, Instr.sureAddr, Sem.run_bind, Sem.run_pure, Result.andThen_ok, run_loadVar_row w g t ty cs fr d hg hu hd hi]
  exact h
theorem below1 (w : World) (o : Obj) : Below w.heap.size w (w.alloc o) := (Below.refl _ _).alloc (Nat.le_refl _) _
/-- The chart with a number. -/
def chV (x : Nat) : List Int := dP (nibs x) 16
theorem nibs_len (n : Int) : (nibs n).length = 4 := rfl
theorem chV_len (x : Nat) : (chV x).length = 16 := dP_len _ rfl
theorem chV_figs {x : Nat} (h : x ≤ 65535) : Figs (chV x) := dP_figs rfl (nibs_figs (by omega) (by omega))
theorem derived_nibs (x : Nat) (h : x ≤ 65535) (w : World) (hp : Par w) :
    Calls Tryd.prog 18 #[.agg (arr (nibs x))] w fun e w' => e = .returned (.agg (arr (chV x))) ∧ Below w.heap.size w w' :=
  derived_any _ _ _ _ (nibs_figs (n := x) (by omega) (by omega)) w hp

set_option maxRecDepth 100000 in
set_option maxHeartbeats 2000000 in
theorem charts_in (n : Nat) (hn : 1 ≤ n) (l n₀ : Nat) (J Jx : List Nat → World → Prop)
    (hY : ∀ pre (x : Nat) W, J pre W → pre.length < 65536 → YieldAt Fence.wide (n - 1) Tryd.prog l #[.agg (arr (nibs x)), .agg (arr (chV x))] W fun e W' =>
      (e = .returned (.bool true) ∧ J (pre ++ [x]) W' ∧ Below n₀ W W') ∨ (e = .returned (.bool false) ∧ Jx (pre ++ [x]) W'))
    (W : World) (hJ : AbidesFrom W.heap.size J) (hn₀ : n₀ ≤ W.heap.size) (hg : ∀ W', Below n₀ W W' → Par W') (h0 : J [] W) :
    CallsIn Fence.wide n Tryd.prog 20 #[.func (.yield l) #[] #[]] W fun e W' => (∃ v, e = .returned v) ∧
      ((∃ ys, ys = upto id 65536 ∧ J ys W') ∨ (∃ pre, (∃ k, k ≤ 65536 ∧ pre = upto id k) ∧ Jx pre W')) := by
  refine callsIn_of_wp Tryd.func20 rfl trivial ?_ rfl
  simp only [Tryd.ntmps20, List.size_toArray, List.length_cons, List.length_nil, Nat.reduceAdd, Nat.reduceSub, Array.replicate_succ, Array.replicate_zero, List.push_toArray, List.append_toArray, List.nil_append, List.cons_append]
  have Hg := Lib.hid hg
  clear hg
  gi_wp2
  gi_loopw [4] (fun i wr => ∃ k : Nat, k ≤ 65536 ∧ i = .int .i64 k ∧ J (upto id k) wr ∧ Below n₀ W wr) (fun i _ => 65536 - (intOf i).toNat)
  case atStart => exact ⟨0, by omega, rfl, h0, Below.refl _ _⟩
  case round =>
    obtain ⟨k, hk, rfl, hJk, hB⟩ := hrel
    by_cases hlt : k < 65536
    · have hsz : W.heap.size ≤ wr.heap.size := hB.size
      have hd : decide ((k : Int) < 65536) = true := by simp; omega
      have HM1 := Lib.hid (numbered_any (k : Int) (by omega) (by omega) wr)
      have HLT := Lib.hid hlt
      have HK := Lib.hid hk
      clear hlt hk
      gi_wp2_with fail
      refine ⟨trivial, ?_⟩
      refine (callsIn_wide.2 HM1.out).mono ?_
      rintro e w1 ⟨rfl, hb1⟩
      clear HM1 hd
      have hB1 : Below n₀ W w1 := hB.trans (hb1.mono (by omega))
      have HN := Lib.hid (Blk.new w1 28 (arr [0, 0, 0, 0]))
      have hb1b : Below w1.heap.size w1 ((w1.alloc (.cells (arr [0, 0, 0, 0]) 28)).setRow w1.heap.size (arr (nibs k))) := below_setRow (below1 _ _) (Nat.le_refl _) _
      have hbk := Lib.hid (show Blk ((w1.alloc (.cells (arr [0, 0, 0, 0]) 28)).setRow w1.heap.size (arr (nibs k))) w1.heap.size 28 (arr (nibs k)) from HN.out.row (arr (nibs k)))
      have hb1c := tr hb1 hb1b
      gi_wp2_with (refine wpListIn_store_row rfl 28 (.tmp 3) (.tmp 8) rfl w1.heap.size (arr (nibs k)) rfl rfl 28 _ HN.out info_moth rfl (arr_one _) ?_)
      obtain ⟨V, hV⟩ : ∃ V, (w1.alloc (.cells (arr [0, 0, 0, 0]) 28)).setRow w1.heap.size (arr (nibs k)) = V := ⟨_, rfl⟩
      rw [hV] at hb1c hbk hb1b
      have e0 : (w1.alloc (.cells #[.int .i64 0, .int .i64 0, .int .i64 0, .int .i64 0] 28)).setRow w1.heap.size (arr (nibs k)) = V := hV
      rw [e0]
      clear hV e0
      gi_wp2_with fail
      have hszV := hb1c.size
      have hB1V : Below n₀ W V := hB.trans (hb1c.mono (by omega))
      have HM2 := Lib.hid (fun V' hb => derived_nibs k (by have := HLT.out; omega) V' (Hg.out V' hb))
      have hmix : Tryd.prog.follows .mixedOrders = true := by kernel_rfl
      have hbkD : (World.drew V).heap[w1.heap.size]? = some (.cells (arr (nibs k)) 28 (0, 0)) := hbk.out
      have hbD : Below n₀ W (World.drew V) := hB1V.drew
      have hbD_size : n₀ ≤ (World.drew V).heap.size := by have := hb1c.size; have := hb1b.size; show n₀ ≤ V.heap.size; omega
      have hb1cD : Below wr.heap.size wr (World.drew V) := hb1c.drew
      refine wpIn_region_any (by assumption) ?_
      change wpAnyIn _ _ _ _ _ _ _ _ _ (World.drew _)
      refine wpAnyIn_take (i := 0) (v := .func (.yield l) #[] #[]) rfl rfl (by kernel_rfl) (by kernel_rfl) (by kernel_rfl) (fun _ _ _ h => h) ⟨Or.inl ⟨by rfl, ?_⟩, fun _ => rfl⟩ ?_
      · intro w
        go_simp
      refine wpAnyIn_ready (rs := [1, 2]) (by kernel_rfl) (by simp) ?_
      refine AllReadyIn.cons rfl (fun K hK => ?_) (AllReadyIn.cons rfl (fun K hK => ?_) AllReadyIn.nil)
      · refine Eq.mpr (if_pos (by rfl)) ?_
        refine operIn_load_row 28 (.tmp 3) rfl w1.heap.size rfl 28 (arr (nibs k)) (0, 0) _ hbkD Tryd.underlying28 rfl info_moth (hK _ _ ?_)
        clear hK K
        refine wpAnyIn_ready (rs := [2]) (by kernel_rfl) (by simp) ?_
        refine AllReadyIn.cons rfl (fun K hK => ?_) AllReadyIn.nil
        refine Eq.mpr (if_pos (by rfl)) ?_
        refine operIn_load_row 28 (.tmp 3) rfl w1.heap.size rfl 28 (arr (nibs k)) (0, 0) _ hbkD Tryd.underlying28 rfl info_moth (hK _ _ ?_)
        clear hK K
        refine wpAnyIn_ready (rs := [3]) (by kernel_rfl) (by simp) ?_
        refine AllReadyIn.cons rfl (fun K hK => ?_) AllReadyIn.nil
        go_simp
        gi_wp2_with fail
        refine ⟨trivial, ?_⟩
        refine (callsIn_wide.2 (HM2.out _ hbD)).mono ?_
        rintro e w2 ⟨rfl, hb2⟩
        refine hK _ _ ?_
        clear hK K
        have hB2 : Below n₀ W w2 := hbD.trans (hb2.mono hbD_size)
        have hJ2 : J (upto id k) w2 := hJ _ wr w2 none hJk (grown_of_below (hb1cD.trans (hb2.mono hb1cD.size))) (fun r e => by cases e)
        obtain ⟨fn, tmps, assign, body, hy, hR'⟩ := hY (upto id k) k w2 hJ2 (by rw [upto_length]; exact HLT.out)
        clear hb2 hJ2 hb1 hb1b hb1c
        refine wpAnyIn_ready (rs := [4]) (by kernel_rfl) (by simp) ?_
        refine AllReadyIn.cons rfl (fun K hK => ?_) AllReadyIn.nil
        go_simp
        gi_wp2_with fail
        refine hR'.mono ?_
        rintro e W3 (⟨rfl, hJ3, hk3⟩ | ⟨rfl, hJx3⟩)
        · refine hK _ _ ?_
          clear hK K hy hR'
          refine wpAnyIn_ready (rs := [5]) (by kernel_rfl) (by simp) ?_
          refine AllReadyIn.cons rfl (fun K hK => ?_) AllReadyIn.nil
          go_simp
          refine hK _ _ ?_
          clear hK K
          refine wpAnyIn_done (by kernel_rfl) ?_ _
          have hB3 := hB2.trans hk3
          clear hB2 hk3
          have hwr : IntKind.i64.wrap ((k : Int) + 1) = (k : Int) + 1 := wraps_i64_62 _ (by omega) (by have := HLT.out; omega)
          gi_wp2
          go_roundw
          case rel => have hk6 := HLT.out; exact ⟨k + 1, by omega, by go_num, by rw [upto_succ]; exact hJ3, hB3⟩
          case measure => have := HLT.out; simp [intOf]; omega
        · refine hK _ _ ?_
          clear hK K hy hR'
          refine wpAnyIn_ready (rs := [5]) (by kernel_rfl) (by simp) ?_
          refine AllReadyIn.cons rfl (fun K hK => ?_) AllReadyIn.nil
          go_simp
          refine hK _ _ ?_
          clear hK K
          refine wpAnyIn_done (by kernel_rfl) ?_ _
          gi_wp2
          refine bodyPost_ret (results_none rfl _ _ _) rfl ?_
          exact ⟨⟨_, rfl⟩, .inr ⟨_, ⟨k + 1, by have := HLT.out; omega, (upto_succ _ _).symm⟩, hJx3⟩⟩
      · refine Eq.mpr (if_pos (by rfl)) ?_
        refine operIn_load_row 28 (.tmp 3) rfl w1.heap.size rfl 28 (arr (nibs k)) (0, 0) _ hbkD Tryd.underlying28 rfl info_moth (hK _ _ ?_)
        clear hK K
        refine wpAnyIn_ready (rs := [1, 3]) (by kernel_rfl) (by simp) ?_
        refine AllReadyIn.cons rfl (fun K hK => ?_) (AllReadyIn.cons rfl (fun K hK => ?_) AllReadyIn.nil)
        · refine Eq.mpr (if_pos (by rfl)) ?_
          refine operIn_load_row 28 (.tmp 3) rfl w1.heap.size rfl 28 (arr (nibs k)) (0, 0) _ hbkD Tryd.underlying28 rfl info_moth (hK _ _ ?_)
          clear hK K
          refine wpAnyIn_ready (rs := [3]) (by kernel_rfl) (by simp) ?_
          refine AllReadyIn.cons rfl (fun K hK => ?_) AllReadyIn.nil
          go_simp
          gi_wp2_with fail
          refine ⟨trivial, ?_⟩
          refine (callsIn_wide.2 (HM2.out _ hbD)).mono ?_
          rintro e w2 ⟨rfl, hb2⟩
          refine hK _ _ ?_
          clear hK K
          have hB2 : Below n₀ W w2 := hbD.trans (hb2.mono hbD_size)
          have hJ2 : J (upto id k) w2 := hJ _ wr w2 none hJk (grown_of_below (hb1cD.trans (hb2.mono hb1cD.size))) (fun r e => by cases e)
          obtain ⟨fn, tmps, assign, body, hy, hR'⟩ := hY (upto id k) k w2 hJ2 (by rw [upto_length]; exact HLT.out)
          clear hb2 hJ2 hb1 hb1b hb1c
          refine wpAnyIn_ready (rs := [4]) (by kernel_rfl) (by simp) ?_
          refine AllReadyIn.cons rfl (fun K hK => ?_) AllReadyIn.nil
          go_simp
          gi_wp2_with fail
          refine hR'.mono ?_
          rintro e W3 (⟨rfl, hJ3, hk3⟩ | ⟨rfl, hJx3⟩)
          · refine hK _ _ ?_
            clear hK K hy hR'
            refine wpAnyIn_ready (rs := [5]) (by kernel_rfl) (by simp) ?_
            refine AllReadyIn.cons rfl (fun K hK => ?_) AllReadyIn.nil
            go_simp
            refine hK _ _ ?_
            clear hK K
            refine wpAnyIn_done (by kernel_rfl) ?_ _
            have hB3 := hB2.trans hk3
            clear hB2 hk3
            have hwr : IntKind.i64.wrap ((k : Int) + 1) = (k : Int) + 1 := wraps_i64_62 _ (by omega) (by have := HLT.out; omega)
            gi_wp2
            go_roundw
            case rel => have hk6 := HLT.out; exact ⟨k + 1, by omega, by go_num, by rw [upto_succ]; exact hJ3, hB3⟩
            case measure => have := HLT.out; simp [intOf]; omega
          · refine hK _ _ ?_
            clear hK K hy hR'
            refine wpAnyIn_ready (rs := [5]) (by kernel_rfl) (by simp) ?_
            refine AllReadyIn.cons rfl (fun K hK => ?_) AllReadyIn.nil
            go_simp
            refine hK _ _ ?_
            clear hK K
            refine wpAnyIn_done (by kernel_rfl) ?_ _
            gi_wp2
            refine bodyPost_ret (results_none rfl _ _ _) rfl ?_
            exact ⟨⟨_, rfl⟩, .inr ⟨_, ⟨k + 1, by have := HLT.out; omega, (upto_succ _ _).symm⟩, hJx3⟩⟩
        · go_simp
          gi_wp2_with fail
          refine ⟨trivial, ?_⟩
          refine (callsIn_wide.2 (HM2.out _ hbD)).mono ?_
          rintro e w2 ⟨rfl, hb2⟩
          refine hK _ _ ?_
          clear hK K
          have hbkE : w2.heap[w1.heap.size]? = some (.cells (arr (nibs k)) 28 (0, 0)) := Blk.below hbkD hb2 hbk.out.lt
          refine wpAnyIn_ready (rs := [1]) (by kernel_rfl) (by simp) ?_
          refine AllReadyIn.cons rfl (fun K hK => ?_) AllReadyIn.nil
          refine Eq.mpr (if_pos (by rfl)) ?_
          refine operIn_load_row 28 (.tmp 3) rfl w1.heap.size rfl 28 (arr (nibs k)) (0, 0) _ hbkE Tryd.underlying28 rfl info_moth (hK _ _ ?_)
          clear hK K
          have hB2 : Below n₀ W w2 := hbD.trans (hb2.mono hbD_size)
          have hJ2 : J (upto id k) w2 := hJ _ wr w2 none hJk (grown_of_below (hb1cD.trans (hb2.mono hb1cD.size))) (fun r e => by cases e)
          obtain ⟨fn, tmps, assign, body, hy, hR'⟩ := hY (upto id k) k w2 hJ2 (by rw [upto_length]; exact HLT.out)
          clear hb2 hJ2 hb1 hb1b hb1c
          refine wpAnyIn_ready (rs := [4]) (by kernel_rfl) (by simp) ?_
          refine AllReadyIn.cons rfl (fun K hK => ?_) AllReadyIn.nil
          go_simp
          gi_wp2_with fail
          refine hR'.mono ?_
          rintro e W3 (⟨rfl, hJ3, hk3⟩ | ⟨rfl, hJx3⟩)
          · refine hK _ _ ?_
            clear hK K hy hR'
            refine wpAnyIn_ready (rs := [5]) (by kernel_rfl) (by simp) ?_
            refine AllReadyIn.cons rfl (fun K hK => ?_) AllReadyIn.nil
            go_simp
            refine hK _ _ ?_
            clear hK K
            refine wpAnyIn_done (by kernel_rfl) ?_ _
            have hB3 := hB2.trans hk3
            clear hB2 hk3
            have hwr : IntKind.i64.wrap ((k : Int) + 1) = (k : Int) + 1 := wraps_i64_62 _ (by omega) (by have := HLT.out; omega)
            gi_wp2
            go_roundw
            case rel => have hk6 := HLT.out; exact ⟨k + 1, by omega, by go_num, by rw [upto_succ]; exact hJ3, hB3⟩
            case measure => have := HLT.out; simp [intOf]; omega
          · refine hK _ _ ?_
            clear hK K hy hR'
            refine wpAnyIn_ready (rs := [5]) (by kernel_rfl) (by simp) ?_
            refine AllReadyIn.cons rfl (fun K hK => ?_) AllReadyIn.nil
            go_simp
            refine hK _ _ ?_
            clear hK K
            refine wpAnyIn_done (by kernel_rfl) ?_ _
            gi_wp2
            refine bodyPost_ret (results_none rfl _ _ _) rfl ?_
            exact ⟨⟨_, rfl⟩, .inr ⟨_, ⟨k + 1, by have := HLT.out; omega, (upto_succ _ _).symm⟩, hJx3⟩⟩
    · obtain rfl : k = 65536 := by omega
      gi_wp2
      go_end0
      exact ⟨⟨_, rfl⟩, .inl ⟨_, rfl, hJk⟩⟩

theorem charts_stops (n : Nat) (hn : 1 ≤ n) (n₀ : Nat) (w : World) (hn₀ : n₀ ≤ w.heap.size) (hg : ∀ W', Below n₀ w W' → Par W') :
    SeqStopsK Fence.wide n Tryd.prog 20 #[] (fun x : Nat => #[Value.agg (arr (nibs x)), Value.agg (arr (chV x))]) (Below n₀) (fun ys => ys = upto id 65536) (fun pre => ∃ k, k ≤ 65536 ∧ pre = upto id k) 65536 w := fun l J Jx W hW hJ _ hY h0 =>
  charts_in n hn l n₀ J Jx hY W hJ (Nat.le_trans hn₀ hW.size) (fun W' h => hg W' ((hW.mono hn₀).trans h)) h0
end Go.Proofs.YthioojappmnnaaaDoor
