/-
  What the smallest functions of package odds do: outside, slices.ContainsFunc over it, sums, total. No condition but that the list reads as ints.
-/
import Derived.Test.YtahmhdjoaoldcaaRows
import Derived.Test.YtahmhdjoaoldcaaLib
import Derived.RangeFuncNested
import Derived.RangeFuncBound
import Derived.RangeFuncCalls
import Derived.RangeFuncLeaves
import Derived.RangeFuncBox
import Derived.Shelf.Abstract
import Derived.Shelf.RegionOpen
import Derived.OwnWalkIn
import Derived.TacticsInMore
import Derived.LoopNIn
import Derived.LoopIn
namespace Go.Proofs.Ytahmhdjoaoldcaa
open Go.RowKit Go.Shelf

set_option maxHeartbeats 400000 in
theorem outside1_any (x lo hi : Int) (a b : Addr) (w : World) (ha : w.cell? a = some (.int .i64 lo)) (hb : w.cell? b = some (.int .i64 hi)) :
    Calls Try.prog 41 #[.int .i64 x, .pointer (some a), .pointer (some b)] w fun e w' => e = .returned (.bool (outB lo hi x)) ∧ w = w' := by
  by_cases h1 : x < lo
  · go_enter Try.func41, Try.ntmps41
    go_wp2
    go_ret
    exact ⟨by simp [outB, h1], rfl⟩
  · go_enter Try.func41, Try.ntmps41
    go_wp2
    go_ret
    refine ⟨?_, rfl⟩
    simp [outB]; omega

set_option maxHeartbeats 400000 in
theorem outside_any (lo hi : Int) (w : World) :
    Calls Try.prog 22 #[.int .i64 lo, .int .i64 hi] w fun e w' => e = .returned (.func (.func 41) #[] #[.pointer (some ⟨w.heap.size, 0, none⟩), .pointer (some ⟨w.heap.size + 1, 0, none⟩)]) ∧
      (w.alloc (.cells #[.int .i64 lo] 3)).alloc (.cells #[.int .i64 hi] 3) = w' := by
  go_enter Try.func22, Try.ntmps22
  go_wp2
  go_ret
  exact ⟨rfl, rfl⟩

set_option maxHeartbeats 400000 in
theorem indexFunc_outside (lo hi : Int) (a b : Addr) (w : World) (ha : w.cell? a = some (.int .i64 lo)) (hb : w.cell? b = some (.int .i64 hi))
    (p : Option Addr) (xs : List Int) (c : Nat) (hl : xs.length ≤ 9223372036854775807) (hc : Reads w p xs) :
    Calls Try.prog 59 #[.slice p xs.length c, .func (.func 41) #[] #[.pointer (some a), .pointer (some b)]] w fun e w' =>
      (∃ n : Int, e = .returned (.int .i64 n) ∧ -1 ≤ n ∧ (decide (0 ≤ n) = anyB (outB lo hi) xs)) ∧ w = w' := by
  go_enter Try.func59, Try.ntmps59
  go_wp2
  go_loop [8] (fun i => ∃ k : Nat, k ≤ xs.length ∧ i = .int .i64 k ∧ noneB (outB lo hi) xs k) (fun i => xs.length - (intOf i).toNat)
  case atStart => exact ⟨0, Nat.zero_le _, rfl, fun i hi => by omega⟩
  case round =>
    obtain ⟨k, hk, rfl, hn⟩ := hrel
    have Hn := Lib.hid hn
    clear hn
    by_cases hlt : k < xs.length
    · obtain ⟨q, o, rfl, hcell⟩ := hc k hlt
      cases ho : outB lo hi (nth xs k)
      · have Ho := Lib.hid ho
        clear ho
        go_wp2_with (go_at_call 41; refine (outside1_any _ _ _ _ _ _ ha hb).mono ?_; rintro e w' ⟨rfl, rfl⟩; rw [Ho.out])
        go_round
        case rel => exact ⟨k + 1, by omega, by go_num, noneB_succ Hn.out Ho.out⟩
        case measure => simp [intOf]; omega
      · have Ho := Lib.hid ho
        clear ho
        go_wp2_with (go_at_call 41; refine (outside1_any _ _ _ _ _ _ ha hb).mono ?_; rintro e w' ⟨rfl, rfl⟩; rw [Ho.out])
        go_ret
        exact ⟨⟨k, rfl, by omega, by rw [anyB_true hlt Ho.out]; simp⟩, rfl⟩
    · go_wp2
      go_ret
      exact ⟨⟨-1, rfl, by omega, by rw [anyB_false]; rfl; intro i hi; exact Hn.out i (by omega)⟩, rfl⟩

set_option maxHeartbeats 400000 in
theorem containsFunc_outside (lo hi : Int) (a b : Addr) (w : World) (ha : w.cell? a = some (.int .i64 lo)) (hb : w.cell? b = some (.int .i64 hi))
    (p : Option Addr) (xs : List Int) (c : Nat) (hl : xs.length ≤ 9223372036854775807) (hc : Reads w p xs) :
    Calls Try.prog 42 #[.slice p xs.length c, .func (.func 41) #[] #[.pointer (some a), .pointer (some b)]] w fun e w' =>
      e = .returned (.bool (anyB (outB lo hi) xs)) ∧ w = w' := by
  go_enter Try.func42, Try.ntmps42
  go_wp2_with fail
  refine (indexFunc_outside lo hi a b w ha hb p xs c hl hc).mono ?_
  rintro e w' ⟨⟨n, rfl, hn, hq⟩, rfl⟩
  have Hq := Lib.hid hq
  clear hq
  go_wp2
  go_ret
  exact ⟨by rw [← Hq.out]; rfl, rfl⟩

attribute [local go_sem] Oper.semAt_some

set_option maxRecDepth 100000 in
set_option maxHeartbeats 2000000 in
/-- The iterator of sums: the pairs (k, the sum of the first k + 1). -/
theorem sums1_in (F : Fence) (n : Nat) (h89 : F.fn 85) (hro : F.round = none) (hn : 1 ≤ n) (l Bs n₀ : Nat) (p : Option Addr) (xs : List Int) (c : Nat) (hl : xs.length ≤ 4096) (hs : Small xs)
    (J Jx : List (Nat × Int) → World → Prop)
    (hY : ∀ pre x W, J pre W → pre.length < xs.length → YieldAt F (n - 1) Try.prog l #[.int .i64 (x.1 : Int), .int .i64 x.2] W fun e W' =>
      (e = .returned (.bool true) ∧ J (pre ++ [x]) W' ∧ Below n₀ W W') ∨ (e = .returned (.bool false) ∧ Jx (pre ++ [x]) W'))
    (W : World) (hBs : W.cell? ⟨Bs, 0, none⟩ = some (.slice p xs.length c)) (hR : ∀ k, k < xs.length → ∃ q o, p = some ⟨q, o, none⟩ ∧ q < n₀ ∧ W.cell? ⟨q, o + k, none⟩ = some (.int .i64 (nth xs k))) (h0 : J [] W) :
    CallsIn F n Try.prog 85 #[.func (.yield l) #[] #[], .pointer (some ⟨Bs, 0, none⟩)] W fun e W' => (∃ v, e = .returned v) ∧
      ((∃ ys, ys = upto (fun j => (j, psum xs (j + 1))) xs.length ∧ J ys W') ∨ (∃ pre, (∃ k, k ≤ xs.length ∧ pre = upto (fun j => (j, psum xs (j + 1))) k) ∧ Jx pre W')) := by
  refine callsIn_of_wp Try.func85 rfl h89 ?_ hro
  simp only [Try.ntmps85, List.size_toArray, List.length_cons, List.length_nil, Nat.reduceAdd, Nat.reduceSub, Array.replicate_succ, Array.replicate_zero, List.push_toArray, List.append_toArray, List.nil_append, List.cons_append]
  gi_wp2
  gi_loopw [3, 8] (fun s i wr => ∃ k : Nat, k ≤ xs.length ∧ i = .int .i64 k ∧ s = .int .i64 (psum xs k) ∧ J (upto (fun j => (j, psum xs (j + 1))) k) wr ∧ Below n₀ W wr)
    (fun _ i _ => xs.length - (intOf i).toNat)
  case atStart => exact ⟨0, Nat.zero_le _, rfl, by rw [psum_zero], h0, Below.refl _ _⟩
  case round =>
    obtain ⟨k, hk, rfl, rfl, hJs, hnx⟩ := hrel
    by_cases hlt : k < xs.length
    · obtain ⟨q, o, rfl, hq, hcell⟩ := hR k hlt
      have hcx := (hnx.cell (p := ⟨q, o + k, none⟩) hq).trans hcell
      have hb1 := psum_bd hs hk
      have hb2 := hs k hlt
      have hy0 := hY _ (k, psum xs (k + 1)) wr hJs (by rw [upto_length]; exact hlt)
      have Hp : Hid (psum xs (k + 1) = psum xs k + nth xs k) := psum_succ hlt
      obtain ⟨fn, tmps, assign, body, hy, hR'⟩ := hy0
      rw [Hp.out] at hy
      dsimp only at hy
      gi_wp2
      refine hR'.mono ?_
      rintro e W3 (⟨rfl, hJ3, hk3⟩ | ⟨rfl, hJx3⟩)
      · gi_wp2
        go_roundw
        case rel => exact ⟨k + 1, by omega, by simp, by rw [Hp.out], by rw [upto_succ]; exact hJ3, hnx.trans hk3⟩
        case measure => simp [intOf]; omega
      · gi_wp2
        refine bodyPost_ret (results_none rfl _ _ _) rfl ?_
        exact ⟨⟨_, rfl⟩, .inr ⟨_, ⟨k + 1, by omega, (upto_succ _ _).symm⟩, hJx3⟩⟩
    · obtain rfl : k = xs.length := by omega
      gi_wp2
      go_end0
      exact ⟨⟨_, rfl⟩, .inl ⟨_, rfl, hJs⟩⟩

set_option maxHeartbeats 1000000 in
theorem sums_in (F : Fence) (n : Nat) (h67 : F.fn 84) (hro : F.round = none) (a : Option Addr) (len cap : Nat) (w : World) :
    CallsIn F n Try.prog 84 #[.slice a len cap] w fun e w' => e = .returned (.func (.func 85) #[] #[.pointer (some ⟨w.heap.size, 0, none⟩)]) ∧ w' = w.alloc (.cells #[.slice a len cap] 22) := by
  refine callsIn_of_wp Try.func84 rfl h67 ?_ hro
  simp only [Try.ntmps84, List.size_toArray, List.length_cons, List.length_nil, Nat.reduceAdd, Nat.reduceSub, Array.replicate_succ, Array.replicate_zero, List.push_toArray, List.append_toArray, List.nil_append, List.cons_append]
  gi_wp2
  go_ret
  exact ⟨rfl, rfl⟩

theorem sums_stops (F : Fence) (n : Nat) (h89 : F.fn 85) (hro : F.round = none) (hn : 1 ≤ n) (Bs n₀ : Nat) (p : Option Addr) (xs : List Int) (c : Nat) (hl : xs.length ≤ 4096) (hs : Small xs) (w : World)
    (hBs : Bs < w.heap.size) (hn₀ : n₀ ≤ w.heap.size) (hc : w.cell? ⟨Bs, 0, none⟩ = some (.slice p xs.length c))
    (hR : ∀ k, k < xs.length → ∃ q o, p = some ⟨q, o, none⟩ ∧ q < n₀ ∧ w.cell? ⟨q, o + k, none⟩ = some (.int .i64 (nth xs k))) :
    SeqStopsK F n Try.prog 85 #[.pointer (some ⟨Bs, 0, none⟩)] (fun x : Nat × Int => #[Value.int .i64 (x.1 : Int), Value.int .i64 x.2]) (Below n₀) (fun ys => ys = upto (fun j => (j, psum xs (j + 1))) xs.length)
      (fun pre => ∃ k, k ≤ xs.length ∧ pre = upto (fun j => (j, psum xs (j + 1))) k) xs.length w := fun l J Jx W hW _ _ hY h0 => by
  have hc' := (hW.cell (p := ⟨Bs, 0, none⟩) hBs).trans hc
  refine sums1_in F n h89 hro hn l Bs n₀ p xs c hl hs J Jx hY W hc' (fun k hk => ?_) h0
  obtain ⟨q, o, e, hq, h⟩ := hR k hk
  exact ⟨q, o, e, hq, (hW.cell (p := ⟨q, o + k, none⟩) (by simp; omega)).trans h⟩

/-- What the last pair of sums says. -/
def lastSum (pre : List (Nat × Int)) : Int := match pre.getLast? with | some x => x.2 | none => 0
theorem lastSum_snoc (pre : List (Nat × Int)) (x : Nat × Int) : lastSum (pre ++ [x]) = x.2 := by simp [lastSum]
theorem lastSum_upto (xs : List Int) : lastSum (upto (fun j => (j, psum xs (j + 1))) xs.length) = lsum xs := by
  rw [← psum_all]
  cases h : xs.length with
  | zero => simp [upto, lastSum, psum]
  | succ m => rw [upto_succ, lastSum_snoc]

theorem Reads.lt {w : World} {p : Option Addr} {xs : List Int} (h : Reads w p xs) : ∀ k, k < xs.length → ∃ q o, p = some ⟨q, o, none⟩ ∧ q < w.heap.size ∧ w.cell? ⟨q, o + k, none⟩ = some (.int .i64 (nth xs k)) := fun k hk => by
  obtain ⟨q, o, e, h⟩ := h k hk
  exact ⟨q, o, e, World.block_lt_of_cell? w _ h, h⟩

set_option maxRecDepth 100000 in
set_option maxHeartbeats 2000000 in
theorem total_in (F : Fence) (n : Nat) (h57 : F.fn 83) (h67 : F.fn 84) (h89 : F.fn 85) (hro : F.round = none) (hn : 3 ≤ n) (p : Option Addr) (xs : List Int) (c : Nat) (hl : xs.length ≤ 4096) (hs : Small xs)
    (w : World) (hR : Reads w p xs) :
    CallsIn F n Try.prog 83 #[.slice p xs.length c] w fun e W' => e = .returned (.int .i64 (lsum xs)) ∧ Below w.heap.size w W' := by
  have h1 : 1 ≤ n := by omega
  have hRl := hR.lt
  clear hR
  have HR := Lib.hid hRl
  clear hRl
  refine callsIn_of_wp_marks Try.func83 rfl h57 ?_ hro
  simp only [Try.ntmps83, List.size_toArray, List.length_cons, List.length_nil, Nat.reduceAdd, Nat.reduceSub, Array.replicate_succ, Array.replicate_zero, List.push_toArray, List.append_toArray, List.nil_append, List.cons_append]
  gi_wp2_with (gi_at_call 84; refine (sums_in F (n - 1) h67 hro _ _ _ _).mono ?_; rintro e w' ⟨rfl, rfl⟩)
  have bS := Boxed.new w 3 (.int .i64 0)
  have bN := Boxed.new (w.alloc (.cells #[.int .i64 0] 3)) 22 (.slice p xs.length c)
  rw [World.size_alloc] at bN
  have hB0 : Below w.heap.size w ((w.alloc (.cells #[.int .i64 0] 3)).alloc (.cells #[.slice p xs.length c] 22)) := ((Below.refl _ w).alloc (Nat.le_refl _) _).alloc (by simp) _
  refine wpIn_rangeFunc_ownG hro h1 (gf := 85) (lb := #[.pointer (some ⟨w.heap.size + 1, 0, none⟩)]) rfl h89 (enters_of Try.func85 (by kernel_rfl) rfl)
    (sums_stops F (n - 1) h89 hro (by omega) (w.heap.size + 1) w.heap.size p xs c hl hs _ (by simp) (by simp; omega) bN.cell (fun k hk => by
      obtain ⟨q, o, e, hq, h⟩ := HR.out k hk
      exact ⟨q, o, e, hq, (hB0.cell (p := ⟨q, o + k, none⟩) hq).trans h⟩)) belowK_t (belowK_b (by simp; omega)) (Below.refl _ _) (fun _ => rfl)
    (fun pre W => (W.cell? ⟨w.heap.size, 0, none⟩ = some (.int .i64 (lastSum pre)) ∧ W.frozen? ⟨w.heap.size, 0, none⟩ = false) ∧ Below w.heap.size w W)
    (fun _ _ _ => False)
    (OwnFrom.and (Own.from (fun s A B row hs hg hr => ⟨cell_kept hs.1 hg hr, (frozen_kept hs.1 hg hr).trans hs.2⟩) _) (ownFrom_below (Nat.le_refl _) (by simp; omega)))
    (fun _ _ _ _ _ hs _ _ => hs)
    ⟨⟨(bS.alloc _).cell, (bS.alloc _).frozen⟩, hB0⟩
    (fun x => { tmps := #[.slice p xs.length c, undef, .int .i64 0, .pointer (some ⟨w.heap.size, 0, none⟩), undef, .int .i64 x.2, .slice p xs.length c, .func (.func 85) #[] #[.pointer (some ⟨w.heap.size + 1, 0, none⟩)], .int .i64 x.1, .int .i64 x.2, undef, undef], defers := [] }) ?assign ?body ?done ?stop
  case assign =>
    intro l x W K hK
    gi_wp2
    exact hK
  case body =>
    rintro l pre x W ⟨⟨hc, hf⟩, hB⟩ _
    gi_wp2
    exact ⟨(KeepsOthers.setCell _ _ _).from _, (Below.refl w.heap.size W).setCell (p := ⟨w.heap.size, 0, none⟩) (Nat.le_refl _) _, ⟨by rw [lastSum_snoc]; exact World.cell?_setCell_same' _ _ _ (by rw [hc]; rfl), by rw [World.frozen?_setCell]; exact hf⟩, hB.setCell (p := ⟨w.heap.size, 0, none⟩) (Nat.le_refl _) _⟩
  case done =>
    rintro D ys W hD rfl ⟨⟨hc, _⟩, hB⟩ hK
    rw [lastSum_upto] at hc
    gi_wp2
    refine ⟨by simp, .inl ⟨_, _, rfl, run_takeDeferred hK, ?_⟩⟩
    exact ⟨_, results_tmp rfl _ _ _, rfl, hB.trans (belowK_b (w := w) (Nat.le_refl _) W D _ _ (by simp at hD; omega) hK rfl rfl)⟩
  case stop =>
    rintro D c pre W _ _ h _
    exact h.elim

/-- total is the sum. -/
theorem total_any (p : Option Addr) (xs : List Int) (c : Nat) (w : World) (hl : xs.length ≤ 4096) (hs : Small xs) (hR : Reads w p xs) :
    Calls Try.prog 83 #[.slice p xs.length c] w fun e W' => e = .returned (.int .i64 (lsum xs)) ∧ Below w.heap.size w W' :=
  (callsIn_wide (n := 3)).1 (total_in Fence.wide 3 trivial trivial trivial rfl (by omega) p xs c hl hs w hR)
end Go.Proofs.Ytahmhdjoaoldcaa
