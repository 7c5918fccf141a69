/-
  Package shield: whether figures are valid, lines, sums, and figures made of a condition on lines.
-/
import Derived.Test.YtdnccdobnhbpeaaDoorShA
namespace Go.Proofs.YtdnccdobnhbpeaaDoor
open Go.RowKit
set_option linter.unusedVariables false

/-- The error of some figures. -/
def chkF (xs : List Int) : Int := if anyB (outB 0 15) xs = true then 2 else 0
/-- A figure. -/
def Fig (x : Int) : Prop := 0 ≤ x ∧ x ≤ 15

set_option maxHeartbeats 400000 in
theorem checkF_any (p : Option Addr) (xs : List Int) (c : Nat) (w : World) (hl : xs.length ≤ 100) (hR : Reads w p xs) :
    Calls Tryd.prog 75 #[.slice p xs.length c] w fun e w' => e = .returned (.int .i64 (chkF xs)) ∧ Below w.heap.size w w' := by
  have hb : Below w.heap.size w ((w.alloc (.cells #[.int .i64 0] 22)).alloc (.cells #[.int .i64 15] 22)) := ((Below.refl _ _).alloc (Nat.le_refl _) _).alloc (by simp) _
  have hR2 := hR.below hb (Nat.le_refl _)
  cases ho : anyB (outB 0 15) xs
  all_goals
    have Ho := Lib.hid ho
    have e : chkF xs = chkF xs := rfl
    clear e
    unfold chkF
    rw [ho]
    clear ho
    go_enter Tryd.func75, Tryd.ntmps75
    go_wp2_with fail
    refine (outside_anyF 0 15 w).mono ?_
    rintro e w' ⟨rfl, rfl⟩
    go_wp2_with fail
    refine (containsFunc_outsideF 0 15 _ _ _ (by go_cell) (by go_cell) p xs c (by omega) hR2).mono ?_
    rintro e w' ⟨rfl, rfl⟩
    rw [Ho.out]
    go_wp2
    go_ret
    exact ⟨rfl, hb⟩

/-- Whether line y of figure x has one mark. -/
def bitB (x y : Int) : Bool := bits BinOp.and IntKind.i64 (x / 2 ^ y.toNat) 1 == 1
/-- The sum of two figures. -/
def xorF (x y : Int) : Int := bits BinOp.xor IntKind.i64 x y
set_option maxHeartbeats 400000 in
theorem single_any (x y : Int) (h : 0 ≤ x) (h1 : x ≤ 15) (h2 : 0 ≤ y) (h3 : y ≤ 3) (w : World) :
    Calls Tryd.prog 79 #[.int .i64 x, .int .i64 y] w fun e w' => e = .returned (.bool (bitB x y)) ∧ w = w' := by
  go_enter Tryd.func79, Tryd.ntmps79
  go_wp2
  go_ret
  exact ⟨rfl, rfl⟩
/-- The figure of the lines below k that pass. -/
def figTo (g : Nat → Bool) : Nat → Int
  | 0 => 0
  | k + 1 => if g k = true then bits BinOp.or IntKind.i64 (figTo g k) (2 ^ k) else figTo g k
theorem figTo_bd (g : Nat → Bool) {k : Nat} (hk : k ≤ 4) : 0 ≤ figTo g k ∧ figTo g k ≤ 15 := by
  have key : ∀ a b c d : Bool, (let g : Nat → Bool := fun i => if i = 0 then a else if i = 1 then b else if i = 2 then c else d; 0 ≤ figTo g k ∧ figTo g k ≤ 15) := by
    have : k = 0 ∨ k = 1 ∨ k = 2 ∨ k = 3 ∨ k = 4 := by omega
    rcases this with rfl | rfl | rfl | rfl | rfl <;> decide
  have h := key (g 0) (g 1) (g 2) (g 3)
  have e : ∀ j, j ≤ 4 → figTo (fun i => if i = 0 then g 0 else if i = 1 then g 1 else if i = 2 then g 2 else g 3) j = figTo g j := by
    intro j hj
    have : j = 0 ∨ j = 1 ∨ j = 2 ∨ j = 3 ∨ j = 4 := by omega
    rcases this with rfl | rfl | rfl | rfl | rfl <;> simp [figTo]
  dsimp only at h
  rw [e k hk] at h
  exact h


theorem wrap_pow {k : Nat} (h : k < 4) : wrap64 ((2 : Int) ^ k) = 2 ^ k := by
  have : k = 0 ∨ k = 1 ∨ k = 2 ∨ k = 3 := by omega
  rcases this with rfl | rfl | rfl | rfl <;> exact IntWalk.wrap64_in _ (by decide)

set_option maxHeartbeats 800000 in
theorem figure_opposite (a : Addr) (g : Nat → Bool) (w : World)
    (hc : ∀ (i : Nat) (q : Nat), i < 4 → Calls Tryd.prog 78 #[.int .i64 i, .pointer (some a)] (w.drewN q) fun e w' => e = .returned (.bool (g i)) ∧ ∃ r, w' = w.drewN r) :
    Calls Tryd.prog 77 #[.func (.func 78) #[] #[.pointer (some a)]] w fun e w' => e = .returned (.int .i64 (figTo g 4)) ∧ ∃ r, w' = w.drewN r := by
  go_enter Tryd.func77, Tryd.ntmps77
  go_wp2
  go_loopw [3, 5] (fun f i wr => ∃ k : Nat, k ≤ 4 ∧ i = .int .i64 k ∧ f = .int .i64 (figTo g k) ∧ ∃ q, wr = w.drewN q) (fun _ i _ => 4 - (intOf i).toNat)
  case atStart => exact ⟨0, by omega, rfl, rfl, 0, rfl⟩
  case round =>
    obtain ⟨k, hk, rfl, rfl, q, rfl⟩ := hrel
    by_cases hlt : k < 4
    · have hb := figTo_bd g hk
      have hb1 := figTo_bd g (show k + 1 ≤ 4 by omega)
      cases hg : g k
      all_goals
        have Hg := Lib.hid hg
        clear hg
        go_wp2_with (go_at_call 78; refine (hc k q hlt).mono ?_; rintro e w' ⟨rfl, r, rfl⟩; rw [Hg.out])
        go_roundw
        case rel => exact ⟨k + 1, by omega, by go_num, by simp only [figTo, Hg.out]; first | rfl | (rw [if_pos trivial, wrap_pow hlt]), r, rfl⟩
        case measure => simp [intOf]; omega
    · obtain rfl : k = 4 := by omega
      go_wp2
      go_ret
      exact ⟨rfl, q, rfl⟩

end Go.Proofs.YtdnccdobnhbpeaaDoor
