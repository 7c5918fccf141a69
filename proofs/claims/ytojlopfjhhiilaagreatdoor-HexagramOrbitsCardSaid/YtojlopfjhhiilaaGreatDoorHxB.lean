/-
  Package hexagram: whether numbers are hexagrams, lines, and hexagrams made of a condition on lines.
-/
import Derived.Test.YtojlopfjhhiilaaGreatDoorHxA
namespace Go.Proofs.YtojlopfjhhiilaaGreatDoor
open Go.RowKit
set_option linter.unusedVariables false

/-- The error of some hexagrams. -/
def chkH (xs : List Int) : Int := if anyB (outB 0 63) xs = true then 3 else 0
/-- A hexagram. -/
def Hex (x : Int) : Prop := 0 ≤ x ∧ x ≤ 63

set_option maxHeartbeats 400000 in
theorem checkH_any (p : Option Addr) (xs : List Int) (c : Nat) (w : World) (hl : xs.length ≤ 1000000) (hR : Reads w p xs) :
    Calls Tryz.prog 13 #[.slice p xs.length c] w fun e w' => e = .returned (.int .i64 (chkH xs)) ∧ Below w.heap.size w w' := by
  have hb : Below w.heap.size w ((w.alloc (.cells #[.int .i64 0] 3)).alloc (.cells #[.int .i64 63] 3)) := ((Below.refl _ _).alloc (Nat.le_refl _) _).alloc (by simp) _
  have hR2 := hR.below hb (Nat.le_refl _)
  cases ho : anyB (outB 0 63) xs
  all_goals
    have Ho := Lib.hid ho
    unfold chkH
    rw [ho]
    clear ho
    go_enter Tryz.func13, Tryz.ntmps13
    go_wp2_with fail
    refine (outside_anyI 0 63 w).mono ?_
    rintro e w' ⟨rfl, rfl⟩
    go_wp2_with fail
    refine (containsFunc_outsideI 0 63 _ _ _ (by go_cell) (by go_cell) p xs c (by omega) hR2).mono ?_
    rintro e w' ⟨rfl, rfl⟩
    rw [Ho.out]
    go_wp2
    go_ret
    exact ⟨rfl, hb⟩

/-- Whether line y of hexagram x is firm. -/
def bitB (x y : Int) : Bool := bits BinOp.and IntKind.i64 (x / 2 ^ y.toNat) 1 == 1
set_option maxHeartbeats 400000 in
theorem firm_any (x y : Int) (h : 0 ≤ x) (h1 : x ≤ 63) (h2 : 0 ≤ y) (h3 : y ≤ 5) (w : World) :
    Calls Tryz.prog 70 #[.int .i64 x, .int .i64 y] w fun e w' => e = .returned (.bool (bitB x y)) ∧ w = w' := by
  go_enter Tryz.func70, Tryz.ntmps70
  go_wp2
  go_ret
  exact ⟨rfl, rfl⟩

/-- The hexagram of the lines below k that pass. -/
def hexTo (g : Nat → Bool) : Nat → Int
  | 0 => 0
  | k + 1 => if g k = true then bits BinOp.or IntKind.i64 (hexTo g k) (2 ^ k) else hexTo g k
theorem hexTo_congr {g g' : Nat → Bool} {k : Nat} (h : ∀ i, i < k → g i = g' i) : hexTo g k = hexTo g' k := by
  induction k with
  | zero => rfl
  | succ k ih => simp only [hexTo, h k (by omega), ih fun i hi => h i (by omega)]
def six (a b c d e f : Bool) : Nat → Bool := fun i => if i = 0 then a else if i = 1 then b else if i = 2 then c else if i = 3 then d else if i = 4 then e else f
theorem hexTo_bd (g : Nat → Bool) {k : Nat} (hk : k ≤ 6) : 0 ≤ hexTo g k ∧ hexTo g k ≤ 63 := by
  have key : ∀ (k : Fin 7) (a b c d e f : Bool), 0 ≤ hexTo (six a b c d e f) k.val ∧ hexTo (six a b c d e f) k.val ≤ 63 := by decide +kernel
  have h := key ⟨k, by omega⟩ (g 0) (g 1) (g 2) (g 3) (g 4) (g 5)
  have e : hexTo (six (g 0) (g 1) (g 2) (g 3) (g 4) (g 5)) k = hexTo g k := hexTo_congr fun i hi => by
    have : i = 0 ∨ i = 1 ∨ i = 2 ∨ i = 3 ∨ i = 4 ∨ i = 5 := by omega
    rcases this with rfl | rfl | rfl | rfl | rfl | rfl <;> rfl
  rw [← e]
  exact h
theorem wrap_pow {k : Nat} (h : k < 6) : wrap64 ((2 : Int) ^ k) = 2 ^ k := by
  have : k = 0 ∨ k = 1 ∨ k = 2 ∨ k = 3 ∨ k = 4 ∨ k = 5 := by omega
  rcases this with rfl | rfl | rfl | rfl | rfl | rfl <;> exact IntWalk.wrap64_in _ (by decide)

set_option maxHeartbeats 800000 in
theorem hexagram_cast1 (a : Addr) (g : Nat → Bool) (w : World)
    (hc : ∀ (i : Nat) (q : Nat), i < 6 → Calls Tryz.prog 39 #[.int .i64 i, .pointer (some a)] (w.drewN q) fun e w' => e = .returned (.bool (g i)) ∧ ∃ r, w' = w.drewN r) :
    Calls Tryz.prog 38 #[.func (.func 39) #[] #[.pointer (some a)]] w fun e w' => e = .returned (.int .i64 (hexTo g 6)) ∧ ∃ r, w' = w.drewN r := by
  go_enter Tryz.func38, Tryz.ntmps38
  go_wp2
  go_loopw [3, 5] (fun f i wr => ∃ k : Nat, k ≤ 6 ∧ i = .int .i64 k ∧ f = .int .i64 (hexTo g k) ∧ ∃ q, wr = w.drewN q) (fun _ i _ => 6 - (intOf i).toNat)
  case atStart => exact ⟨0, by omega, rfl, rfl, 0, rfl⟩
  case round =>
    obtain ⟨k, hk, rfl, rfl, q, rfl⟩ := hrel
    by_cases hlt : k < 6
    · have hb := hexTo_bd g hk
      have hb1 := hexTo_bd g (show k + 1 ≤ 6 by omega)
      cases hg : g k
      all_goals
        have Hg := Lib.hid hg
        clear hg
        go_wp2_with (go_at_call 39; refine (hc k q hlt).mono ?_; rintro e w' ⟨rfl, r, rfl⟩; rw [Hg.out])
        go_roundw
        case rel => exact ⟨k + 1, by omega, by go_num, by simp only [hexTo, Hg.out]; first | rfl | (rw [if_pos trivial, wrap_pow hlt]), r, rfl⟩
        case measure => simp [intOf]; omega
    · obtain rfl : k = 6 := by omega
      go_wp2
      go_ret
      exact ⟨rfl, q, rfl⟩

set_option maxHeartbeats 800000 in
theorem hexagram_cast2 (a : Addr) (g : Nat → Bool) (w : World)
    (hc : ∀ (i : Nat) (q : Nat), i < 6 → Calls Tryz.prog 40 #[.int .i64 i, .pointer (some a)] (w.drewN q) fun e w' => e = .returned (.bool (g i)) ∧ ∃ r, w' = w.drewN r) :
    Calls Tryz.prog 38 #[.func (.func 40) #[] #[.pointer (some a)]] w fun e w' => e = .returned (.int .i64 (hexTo g 6)) ∧ ∃ r, w' = w.drewN r := by
  go_enter Tryz.func38, Tryz.ntmps38
  go_wp2
  go_loopw [3, 5] (fun f i wr => ∃ k : Nat, k ≤ 6 ∧ i = .int .i64 k ∧ f = .int .i64 (hexTo g k) ∧ ∃ q, wr = w.drewN q) (fun _ i _ => 6 - (intOf i).toNat)
  case atStart => exact ⟨0, by omega, rfl, rfl, 0, rfl⟩
  case round =>
    obtain ⟨k, hk, rfl, rfl, q, rfl⟩ := hrel
    by_cases hlt : k < 6
    · have hb := hexTo_bd g hk
      have hb1 := hexTo_bd g (show k + 1 ≤ 6 by omega)
      cases hg : g k
      all_goals
        have Hg := Lib.hid hg
        clear hg
        go_wp2_with (go_at_call 40; refine (hc k q hlt).mono ?_; rintro e w' ⟨rfl, r, rfl⟩; rw [Hg.out])
        go_roundw
        case rel => exact ⟨k + 1, by omega, by go_num, by simp only [hexTo, Hg.out]; first | rfl | (rw [if_pos trivial, wrap_pow hlt]), r, rfl⟩
        case measure => simp [intOf]; omega
    · obtain rfl : k = 6 := by omega
      go_wp2
      go_ret
      exact ⟨rfl, q, rfl⟩

set_option maxHeartbeats 800000 in
theorem hexagram_operate (a b : Addr) (g : Nat → Bool) (w : World)
    (hc : ∀ (i : Nat) (q : Nat), i < 6 → Calls Tryz.prog 69 #[.int .i64 i, .pointer (some a), .pointer (some b)] (w.drewN q) fun e w' => e = .returned (.bool (g i)) ∧ ∃ r, w' = w.drewN r) :
    Calls Tryz.prog 38 #[.func (.func 69) #[] #[.pointer (some a), .pointer (some b)]] w fun e w' => e = .returned (.int .i64 (hexTo g 6)) ∧ ∃ r, w' = w.drewN r := by
  go_enter Tryz.func38, Tryz.ntmps38
  go_wp2
  go_loopw [3, 5] (fun f i wr => ∃ k : Nat, k ≤ 6 ∧ i = .int .i64 k ∧ f = .int .i64 (hexTo g k) ∧ ∃ q, wr = w.drewN q) (fun _ i _ => 6 - (intOf i).toNat)
  case atStart => exact ⟨0, by omega, rfl, rfl, 0, rfl⟩
  case round =>
    obtain ⟨k, hk, rfl, rfl, q, rfl⟩ := hrel
    by_cases hlt : k < 6
    · have hb := hexTo_bd g hk
      have hb1 := hexTo_bd g (show k + 1 ≤ 6 by omega)
      cases hg : g k
      all_goals
        have Hg := Lib.hid hg
        clear hg
        go_wp2_with (go_at_call 69; refine (hc k q hlt).mono ?_; rintro e w' ⟨rfl, r, rfl⟩; rw [Hg.out])
        go_roundw
        case rel => exact ⟨k + 1, by omega, by go_num, by simp only [hexTo, Hg.out]; first | rfl | (rw [if_pos trivial, wrap_pow hlt]), r, rfl⟩
        case measure => simp [intOf]; omega
    · obtain rfl : k = 6 := by omega
      go_wp2
      go_ret
      exact ⟨rfl, q, rfl⟩
end Go.Proofs.YtojlopfjhhiilaaGreatDoor
