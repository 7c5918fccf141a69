/-
  slices.Values, AppendSeq, Collect and Sorted at lists of ints.
-/
import Derived.Test.YtoeflgmdaaefeaaGreatDoorHxM
import Derived.Test.YtoeflgmdaaefeaaGreatDoorHxU
import Derived.Maps.AppendAt
namespace Go.Proofs.YtoeflgmdaaefeaaGreatDoor
open Go Go.RowKit Go.Shelf
set_option linter.unusedVariables false

set_option maxRecDepth 100000 in
set_option maxHeartbeats 2000000 in
theorem values1_in (F : Fence) (n : Nat) (h93 : F.fn 90) (hro : F.round = none) (hn : 1 ≤ n) (l n₀ B m c : Nat) (p : Option Addr) (xs : List Int) (J Jx : List Int → World → Prop)
    (hY : ∀ pre x W, J pre W → pre.length < m → YieldAt F (n - 1) Tryz.prog l #[.int .i64 x] W fun e W' =>
      (e = .returned (.bool true) ∧ J (pre ++ [x]) W' ∧ Below n₀ W W') ∨ (e = .returned (.bool false) ∧ Jx (pre ++ [x]) W'))
    (W : World) (h0 : J [] W) (hc : W.cell? ⟨B, 0, none⟩ = some (.slice p m c)) (hlen : Hid (xs.length = m)) (hm : m ≤ 1000000) (w0 : World) (hw0 : Below n₀ w0 W) (hn0 : w0.heap.size ≤ n₀) (hR : Reads w0 p xs) :
    CallsIn F n Tryz.prog 90 #[.func (.yield l) #[] #[], .pointer (some ⟨B, 0, none⟩)] W fun e W' => (∃ v, e = .returned v) ∧
      ((∃ ys, ys = xs ∧ J ys W') ∨ (∃ pre, True ∧ Jx pre W')) := by
  refine callsIn_of_wp Tryz.func90 rfl h93 ?_ hro
  simp only [Tryz.ntmps90, List.size_toArray, List.length_cons, List.length_nil, Nat.reduceAdd, Nat.reduceSub, Array.replicate_succ, Array.replicate_zero, List.push_toArray, List.append_toArray, List.nil_append, List.cons_append]
  gi_wp2
  gi_loopw [7] (fun i wx => ∃ k : Nat, k ≤ m ∧ i = .int .i64 k ∧ J (xs.take k) wx ∧ Below n₀ w0 wx) (fun i _ => m - (intOf i).toNat)
  case atStart => exact ⟨0, by omega, rfl, h0, hw0⟩
  case round =>
    obtain ⟨k, hk, rfl, hJk, hb⟩ := hrel
    by_cases hlt : k < m
    · obtain ⟨q, o, rfl, hcell⟩ := hR.below hb hn0 k (by have := hlen.out; omega)
      have hki : (k : Int) < (m : Int) := by omega
      have hT := Lib.hid (take_succ (xs := xs) (k := k) (by have := hlen.out; omega))
      obtain ⟨fn, tmps, assign, body, hy, hR'⟩ := hY (xs.take k) (nth xs k) wr hJk (by rw [List.length_take]; omega)
      gi_wp2
      refine hR'.mono ?_
      rintro e W3 (⟨rfl, hJ3, hk3⟩ | ⟨rfl, hJx3⟩)
      · clear hy hR'
        gi_wp2
        go_roundw
        case rel => exact ⟨k + 1, by omega, by go_num, by rw [hT.out]; exact hJ3, hb.trans hk3⟩
        case measure => simp [intOf]; omega
      · clear hy hR'
        gi_wp2
        refine bodyPost_ret (results_none rfl _ _ _) rfl ?_
        exact ⟨⟨_, rfl⟩, .inr ⟨_, trivial, hJx3⟩⟩
    · obtain rfl : k = m := by omega
      gi_wp2
      go_end0
      exact ⟨⟨_, rfl⟩, .inl ⟨_, rfl, by rwa [List.take_of_length_le (by have := hlen.out; omega)] at hJk⟩⟩

theorem values_stops (F : Fence) (n : Nat) (h93 : F.fn 90) (hro : F.round = none) (hn : 1 ≤ n) (B m c : Nat) (p : Option Addr) (xs : List Int) (w : World) (hc : w.cell? ⟨B, 0, none⟩ = some (.slice p m c)) (hlen : Hid (xs.length = m)) (hm : m ≤ 1000000) (hR : Reads w p xs) :
    SeqStopsK F n Tryz.prog 90 #[.pointer (some ⟨B, 0, none⟩)] (fun x : Int => #[Value.int .i64 x]) (Below w.heap.size) (fun ys => ys = xs) (fun _ => True) m w := fun l J Jx W hW hJ _ hY h0 =>
  values1_in F n h93 hro hn l w.heap.size B m c p xs J Jx hY W h0 (cell_tr hW hc) hlen hm w hW (Nat.le_refl _) hR

attribute [local go_sem] Oper.semAt_some

set_option maxRecDepth 100000 in
set_option maxHeartbeats 4000000 in
theorem appendSeq_in (B m c : Nat) (p : Option Addr) (xs : List Int) (w : World) (hc : w.cell? ⟨B, 0, none⟩ = some (.slice p m c)) (hlen : Hid (xs.length = m)) (hm : m ≤ 1000000) (hR : Reads w p xs) :
    CallsIn Fence.wide 4 Tryz.prog 117 #[.slice none 0 0, .func (.func 90) #[] #[.pointer (some ⟨B, 0, none⟩)]] w fun e W' => ∃ v, e = .returned v ∧ W'.ownsRow w.heap.size 3 1 v m (xs.map (Value.int .i64)) ∧ Below w.heap.size w W' := by
  obtain ⟨i0, hi, hz0, hz1, hz2⟩ := info_parts info_int
  have hB0 : Below w.heap.size w (w.alloc (.cells #[.slice none 0 0] 22)) := below1 _ _
  have hSeq := values_stops Fence.wide (4 - 1) trivial rfl (by omega) B m c p xs w hc hlen hm hR
  refine callsIn_of_wp_marks Tryz.func117 rfl trivial ?_ rfl
  simp only [Tryz.ntmps117, List.size_toArray, List.length_cons, List.length_nil, Nat.reduceAdd, Nat.reduceSub, Array.replicate_succ, Array.replicate_zero, List.push_toArray, List.append_toArray, List.nil_append, List.cons_append]
  clear hc hR
  gi_wp2
  have bG := Boxed.new w 22 (.slice none 0 0)
  refine wpIn_rangeFunc_ownG (F := Fence.wide) rfl (by omega) (gf := 90) (lb := #[.pointer (some ⟨B, 0, none⟩)]) rfl trivial (enters_of Tryz.func90 (by kernel_rfl) rfl)
    hSeq belowK_t (belowK_b (by simp)) hB0 (fun _ => rfl)
    (fun pre W => (∃ v, Boxed W w.heap.size 22 v ∧ W.ownsRow w.heap.size 3 1 v pre.length (pre.map (Value.int .i64)) ∧ True) ∧ Below w.heap.size w W)
    (fun _ _ _ => False)
    (OwnFrom.and (Own.from (fun s A B row hs hg hr => holdsRow_own w.heap.size w.heap.size 22 3 1 (fun pre : List Int => pre.length) (fun pre => pre.map (Value.int .i64)) (fun _ _ => True) s A B row hs hg hr) _) (ownFrom_below (Nat.le_refl _) (by simp)))
    (fun _ _ _ _ _ hs _ _ => hs)
    ⟨⟨_, bG, World.ownsRow_nil _ _ _ _, trivial⟩, hB0⟩
    (fun x => { tmps := #[.slice none 0 0, .func (.func 90) #[] #[.pointer (some ⟨B, 0, none⟩)], .pointer (some ⟨w.heap.size, 0, none⟩), undef, .slice none 0 0, .int .i64 x, .func (.func 90) #[] #[.pointer (some ⟨B, 0, none⟩)], .int .i64 x, undef, undef, undef, undef, undef], defers := [] }) ?assign ?body ?done ?stop
  case assign =>
    intro l x W K hK
    gi_wp2
    exact hK
  case body =>
    rintro l pre x W2 ⟨⟨v, hv2, hr2, -⟩, hB2⟩ hlen2
    have hcv := hv2.cell
    have hcf := hv2.frozen
    have hsz := hB2.size
    gi_wp2_with (gi_at_builtin; refine wpListIn_append_own _ rfl _ _ 22 rfl w.heap.size 3 i0 (.int .i64 0) 1 8 Tryz.underlying22 hi hz0 hz1 hz2 rfl (by decide) _ _ _ rfl (hr2.alloc _) ⟨W2.heap.size, 0, none⟩ 1 1 [.int .i64 x] rfl rfl (cell_one_new _ _ _) (by simp [Value.oneCell']) (by unfold maxLen; omega) (by omega) (by simp; omega) ?_; intro v' w1 hown' hgrow _; obtain ⟨g', cap', rfl⟩ := ownsRow_succ hown'; obtain ⟨hv1, hv3, hr3, hk3, hb3⟩ := hv2.appended (by decide) hr2 hsz (by omega) hown' hgrow; have hc1 := hv1.cell; have hf1 := hv1.frozen)
    exact ⟨hk3.from _, hb3, ⟨_, hv3, by simpa using hr3, trivial⟩, hB2.trans hb3⟩
  case done =>
    rintro D ys W hD rfl ⟨⟨v, hv, hrow, -⟩, hB⟩ hK
    rw [hlen.out] at hrow
    have hcv := hv.cell
    gi_wp2
    refine ⟨by simp, .inl ⟨_, _, rfl, run_takeDeferred hK, ?_⟩⟩
    exact ⟨_, results_tmp rfl _ _ _, v, rfl, ownsRow_putObj hrow _ hK rfl, hB.trans (belowK_b (w := w) (Nat.le_refl _) W D _ _ (by simp at hD; omega) hK rfl rfl)⟩
  case stop =>
    rintro D c pre W _ _ h _
    exact h.elim
end Go.Proofs.YtoeflgmdaaefeaaGreatDoor
