/-
  What the statements of chapter 3 call besides: figure, sum, ones; and Number.
-/
import Derived.Test.YthioojappmnnaaaDoorShM
namespace Go.Proofs.YthioojappmnnaaaDoor
open Go Go.RowKit
set_option linter.unusedVariables false

/-- The sum of figures, from one on. -/
def sumL (a : Int) : List Int → Int
  | [] => a
  | x :: r => sumL (xorF a x) r
theorem sumL_snoc (a : Int) (l : List Int) (x : Int) : sumL a (l ++ [x]) = xorF (sumL a l) x := by
  induction l generalizing a with
  | nil => rfl
  | cons y l ih => exact ih _
theorem sumL_fig {a : Int} (ha : Fig a) {l : List Int} (hl : ∀ k, k < l.length → Fig (nth l k)) : Fig (sumL a l) := by
  induction l generalizing a with
  | nil => exact ha
  | cons y l ih =>
    exact ih (xorF_fig ha (hl 0 (by simp))) (fun k hk => by have := hl (k + 1) (by simp; omega); simpa [nth] using this)
theorem sum_good (a b : Int) (ha : Fig a) (hb : Fig b) (w : World) :
    Calls Tryd.prog 10 #[.int .i64 a, .int .i64 b] w fun e w' => e = .returned (.tuple #[.int .i64 (xorF a b), .int .i64 0]) ∧ Below w.heap.size w w' := by
  have := sumS_any a b w
  have hc : chkF [a, b] = 0 := chkF_of fun k hk => by
    have : k = 0 ∨ k = 1 := by simp at hk; omega
    rcases this with rfl | rfl
    · exact ha
    · exact hb
  rwa [show sumV a b = xorF a b by unfold sumV; rw [if_pos hc], hc] at this
/-- How many lines of a figure have one mark. -/
def onesF (f : Int) : Int := (if bitB f 0 = true then 1 else 0) + (if bitB f 1 = true then 1 else 0) + (if bitB f 2 = true then 1 else 0) + (if bitB f 3 = true then 1 else 0)
def onesTo (f : Int) : Nat → Int
  | 0 => 0
  | k + 1 => onesTo f k + (if bitB f k = true then 1 else 0)
theorem onesTo_bd (f : Int) (k : Nat) : 0 ≤ onesTo f k ∧ onesTo f k ≤ k := by
  induction k with
  | zero => simp [onesTo]
  | succ k ih => unfold onesTo; split <;> omega
set_option maxHeartbeats 1000000 in
theorem ones_any (f : Int) (hf : Fig f) (w : World) :
    Calls Tryd.prog 7 #[.int .i64 f] w fun e w' => e = .returned (.int .i64 (onesF f)) ∧ w = w' := by
  obtain ⟨f0, f1⟩ := hf
  go_enter Tryd.func7, Tryd.ntmps7
  go_wp2
  go_loop [3, 4] (fun n i => ∃ k : Nat, k ≤ 4 ∧ i = .int .i64 k ∧ n = .int .i64 (onesTo f k)) (fun _ i => 4 - (intOf i).toNat)
  case atStart => exact ⟨0, by omega, rfl, rfl⟩
  case round =>
    obtain ⟨k, hk, rfl, rfl⟩ := hrel
    by_cases hlt : k < 4
    · have hb := onesTo_bd f k
      have HB := Lib.hid (bit_or f k ⟨f0, f1⟩ (by omega) (by omega))
      have hbb : 0 ≤ bits BinOp.and IntKind.i64 (f / 2 ^ k) 1 ∧ bits BinOp.and IntKind.i64 (f / 2 ^ k) 1 ≤ 1 := by
        have := HB.out
        rw [Int.toNat_natCast] at this
        rw [this]; split <;> omega
      go_wp2
      go_round
      case rel => exact ⟨k + 1, by omega, by go_num, by have := HB.out; rw [Int.toNat_natCast] at this; rw [this]; rfl⟩
      case measure => simp [intOf]; omega
    · obtain rfl : k = 4 := by omega
      go_wp2
      go_ret
      exact ⟨by simp [onesTo, onesF], rfl⟩
end Go.Proofs.YthioojappmnnaaaDoor
