/-
  Package shield, the smallest functions: whether figures are valid, lines, sums. No condition but the one that is named.
-/
import Derived.Test.YtdnccdobnhbpeaaDoorRows
import Derived.Test.YtdnccdobnhbpeaaDoorLib
import Derived.BigQuiet
import Derived.Deep.QuietTactic
import Derived.StillTailTactics
import Derived.Below
import Derived.Laws.OwnMore
import Derived.Laws.Rows
namespace Go.Proofs.YtdnccdobnhbpeaaDoor
open Go.RowKit
set_option linter.unusedVariables false

set_option maxHeartbeats 400000 in
theorem outside1_anyI (x lo hi : Int) (a b : Addr) (w : World) (ha : w.cell? a = some (.int .i64 lo)) (hb : w.cell? b = some (.int .i64 hi)) :
    Calls Tryd.prog 90 #[.int .i64 x, .pointer (some a), .pointer (some b)] w fun e w' => e = .returned (.bool (outB lo hi x)) ∧ w = w' := by
  by_cases h1 : x < lo
  · go_enter Tryd.func90, Tryd.ntmps90
    go_wp2
    go_ret
    exact ⟨by simp [outB, h1], rfl⟩
  · go_enter Tryd.func90, Tryd.ntmps90
    go_wp2
    go_ret
    refine ⟨?_, rfl⟩
    simp [outB]; omega

set_option maxHeartbeats 400000 in
theorem outside_anyI (lo hi : Int) (w : World) :
    Calls Tryd.prog 73 #[.int .i64 lo, .int .i64 hi] w fun e w' => e = .returned (.func (.func 90) #[] #[.pointer (some ⟨w.heap.size, 0, none⟩), .pointer (some ⟨w.heap.size + 1, 0, none⟩)]) ∧
      (w.alloc (.cells #[.int .i64 lo] 3)).alloc (.cells #[.int .i64 hi] 3) = w' := by
  go_enter Tryd.func73, Tryd.ntmps73
  go_wp2
  go_ret
  exact ⟨rfl, rfl⟩

set_option maxHeartbeats 400000 in
theorem indexFunc_outsideI (lo hi : Int) (a b : Addr) (w : World) (ha : w.cell? a = some (.int .i64 lo)) (hb : w.cell? b = some (.int .i64 hi))
    (p : Option Addr) (xs : List Int) (c : Nat) (hl : xs.length ≤ 9223372036854775807) (hc : Reads w p xs) :
    Calls Tryd.prog 89 #[.slice p xs.length c, .func (.func 90) #[] #[.pointer (some a), .pointer (some b)]] w fun e w' =>
      (∃ n : Int, e = .returned (.int .i64 n) ∧ -1 ≤ n ∧ (decide (0 ≤ n) = anyB (outB lo hi) xs)) ∧ w = w' := by
  go_enter Tryd.func89, Tryd.ntmps89
  go_wp2
  go_loop [8] (fun i => ∃ k : Nat, k ≤ xs.length ∧ i = .int .i64 k ∧ noneB (outB lo hi) xs k) (fun i => xs.length - (intOf i).toNat)
  case atStart => exact ⟨0, Nat.zero_le _, rfl, fun i hi => by omega⟩
  case round =>
    obtain ⟨k, hk, rfl, hn⟩ := hrel
    have Hn := Lib.hid hn
    clear hn
    by_cases hlt : k < xs.length
    · obtain ⟨q, o, rfl, hcell⟩ := hc k hlt
      cases ho : outB lo hi (nth xs k)
      · have Ho := Lib.hid ho
        clear ho
        go_wp2_with (go_at_call 90; refine (outside1_anyI _ _ _ _ _ _ ha hb).mono ?_; rintro e w' ⟨rfl, rfl⟩; rw [Ho.out])
        go_round
        case rel => exact ⟨k + 1, by omega, by go_num, noneB_succ Hn.out Ho.out⟩
        case measure => simp [intOf]; omega
      · have Ho := Lib.hid ho
        clear ho
        go_wp2_with (go_at_call 90; refine (outside1_anyI _ _ _ _ _ _ ha hb).mono ?_; rintro e w' ⟨rfl, rfl⟩; rw [Ho.out])
        go_ret
        exact ⟨⟨k, rfl, by omega, by rw [anyB_true hlt Ho.out]; simp⟩, rfl⟩
    · go_wp2
      go_ret
      exact ⟨⟨-1, rfl, by omega, by rw [anyB_false]; rfl; intro i hi; exact Hn.out i (by omega)⟩, rfl⟩

set_option maxHeartbeats 400000 in
theorem containsFunc_outsideI (lo hi : Int) (a b : Addr) (w : World) (ha : w.cell? a = some (.int .i64 lo)) (hb : w.cell? b = some (.int .i64 hi))
    (p : Option Addr) (xs : List Int) (c : Nat) (hl : xs.length ≤ 9223372036854775807) (hc : Reads w p xs) :
    Calls Tryd.prog 72 #[.slice p xs.length c, .func (.func 90) #[] #[.pointer (some a), .pointer (some b)]] w fun e w' =>
      e = .returned (.bool (anyB (outB lo hi) xs)) ∧ w = w' := by
  go_enter Tryd.func72, Tryd.ntmps72
  go_wp2_with fail
  refine (indexFunc_outsideI lo hi a b w ha hb p xs c hl hc).mono ?_
  rintro e w' ⟨⟨n, rfl, hn, hq⟩, rfl⟩
  have Hq := Lib.hid hq
  clear hq
  go_wp2
  go_ret
  exact ⟨by rw [← Hq.out]; rfl, rfl⟩

set_option maxHeartbeats 400000 in
theorem outside1_anyF (x lo hi : Int) (a b : Addr) (w : World) (ha : w.cell? a = some (.int .i64 lo)) (hb : w.cell? b = some (.int .i64 hi)) :
    Calls Tryd.prog 106 #[.int .i64 x, .pointer (some a), .pointer (some b)] w fun e w' => e = .returned (.bool (outB lo hi x)) ∧ w = w' := by
  by_cases h1 : x < lo
  · go_enter Tryd.func106, Tryd.ntmps106
    go_wp2
    go_ret
    exact ⟨by simp [outB, h1], rfl⟩
  · go_enter Tryd.func106, Tryd.ntmps106
    go_wp2
    go_ret
    refine ⟨?_, rfl⟩
    simp [outB]; omega

set_option maxHeartbeats 400000 in
theorem outside_anyF (lo hi : Int) (w : World) :
    Calls Tryd.prog 92 #[.int .i64 lo, .int .i64 hi] w fun e w' => e = .returned (.func (.func 106) #[] #[.pointer (some ⟨w.heap.size, 0, none⟩), .pointer (some ⟨w.heap.size + 1, 0, none⟩)]) ∧
      (w.alloc (.cells #[.int .i64 lo] 22)).alloc (.cells #[.int .i64 hi] 22) = w' := by
  go_enter Tryd.func92, Tryd.ntmps92
  go_wp2
  go_ret
  exact ⟨rfl, rfl⟩

set_option maxHeartbeats 400000 in
theorem indexFunc_outsideF (lo hi : Int) (a b : Addr) (w : World) (ha : w.cell? a = some (.int .i64 lo)) (hb : w.cell? b = some (.int .i64 hi))
    (p : Option Addr) (xs : List Int) (c : Nat) (hl : xs.length ≤ 9223372036854775807) (hc : Reads w p xs) :
    Calls Tryd.prog 105 #[.slice p xs.length c, .func (.func 106) #[] #[.pointer (some a), .pointer (some b)]] w fun e w' =>
      (∃ n : Int, e = .returned (.int .i64 n) ∧ -1 ≤ n ∧ (decide (0 ≤ n) = anyB (outB lo hi) xs)) ∧ w = w' := by
  go_enter Tryd.func105, Tryd.ntmps105
  go_wp2
  go_loop [8] (fun i => ∃ k : Nat, k ≤ xs.length ∧ i = .int .i64 k ∧ noneB (outB lo hi) xs k) (fun i => xs.length - (intOf i).toNat)
  case atStart => exact ⟨0, Nat.zero_le _, rfl, fun i hi => by omega⟩
  case round =>
    obtain ⟨k, hk, rfl, hn⟩ := hrel
    have Hn := Lib.hid hn
    clear hn
    by_cases hlt : k < xs.length
    · obtain ⟨q, o, rfl, hcell⟩ := hc k hlt
      cases ho : outB lo hi (nth xs k)
      · have Ho := Lib.hid ho
        clear ho
        go_wp2_with (go_at_call 106; refine (outside1_anyF _ _ _ _ _ _ ha hb).mono ?_; rintro e w' ⟨rfl, rfl⟩; rw [Ho.out])
        go_round
        case rel => exact ⟨k + 1, by omega, by go_num, noneB_succ Hn.out Ho.out⟩
        case measure => simp [intOf]; omega
      · have Ho := Lib.hid ho
        clear ho
        go_wp2_with (go_at_call 106; refine (outside1_anyF _ _ _ _ _ _ ha hb).mono ?_; rintro e w' ⟨rfl, rfl⟩; rw [Ho.out])
        go_ret
        exact ⟨⟨k, rfl, by omega, by rw [anyB_true hlt Ho.out]; simp⟩, rfl⟩
    · go_wp2
      go_ret
      exact ⟨⟨-1, rfl, by omega, by rw [anyB_false]; rfl; intro i hi; exact Hn.out i (by omega)⟩, rfl⟩

set_option maxHeartbeats 400000 in
theorem containsFunc_outsideF (lo hi : Int) (a b : Addr) (w : World) (ha : w.cell? a = some (.int .i64 lo)) (hb : w.cell? b = some (.int .i64 hi))
    (p : Option Addr) (xs : List Int) (c : Nat) (hl : xs.length ≤ 9223372036854775807) (hc : Reads w p xs) :
    Calls Tryd.prog 91 #[.slice p xs.length c, .func (.func 106) #[] #[.pointer (some a), .pointer (some b)]] w fun e w' =>
      e = .returned (.bool (anyB (outB lo hi) xs)) ∧ w = w' := by
  go_enter Tryd.func91, Tryd.ntmps91
  go_wp2_with fail
  refine (indexFunc_outsideF lo hi a b w ha hb p xs c hl hc).mono ?_
  rintro e w' ⟨⟨n, rfl, hn, hq⟩, rfl⟩
  have Hq := Lib.hid hq
  clear hq
  go_wp2
  go_ret
  exact ⟨by rw [← Hq.out]; rfl, rfl⟩

end Go.Proofs.YtdnccdobnhbpeaaDoor
