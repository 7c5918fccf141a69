/-
  What Check, Total, Over, Sum and Repeat of the reference return, for every list and number.
-/
import Derived.Test.YtnpnnfbmnlgioaaE
import Derived.StillTailTactics
namespace Go.Proofs.Ytnpnnfbmnlgioaa
open Go.RowKit

theorem psum_part {xs : List Int} {k : Nat} (hk : k ≤ xs.length) (h : noneB (outB 0 1000000000000000) xs k) : 0 ≤ psum xs k ∧ psum xs k ≤ k * 1000000000000000 := by
  induction k with
  | zero => simp [psum]
  | succ k ih =>
    have h1 := ih (by omega) (fun i hi => h i (by omega))
    have h2 := h k (by omega)
    simp [outB] at h2
    rw [psum_succ (by omega)]
    omega

set_option maxHeartbeats 1000000 in
/-- Over: for numbers from 0 on. -/
theorem refOver_any (a b : Int) (w : World) (ha : 0 ≤ a) (ha2 : a ≤ 9223372036854775807) :
    Calls Try.prog 33 #[.int .i64 a, .int .i64 b] w fun e w' => e = .returned (.bool (decide (1000000000000000 < a * b))) ∧ Below w.heap.size w w' := by
  by_cases h0 : 0 < a
  · have hw : IntKind.i64.wrap ((1000000000000000 : Int).tdiv a) = 1000000000000000 / a := by
      have h1 : (1000000000000000 : Int).tdiv a = 1000000000000000 / a := Int.tdiv_eq_ediv_of_nonneg (by omega)
      have h2 := Int.ediv_nonneg (a := 1000000000000000) (b := a) (by omega) (by omega)
      have h3 := Int.ediv_le_self (a := 1000000000000000) a (by omega)
      rw [h1]
      exact IntWalk.i64_in _ (by omega)
    have hz : (a == 0) = false := by simp; omega
    have hd : b ≤ 1000000000000000 / a ↔ b * a ≤ 1000000000000000 := le_div (by omega)
    rw [Int.mul_comm b a] at hd
    by_cases h1 : b ≤ 1000000000000000 / a
    · have Hd : Hid (decide (1000000000000000 < a * b) = false) := by
        have := hd.1 h1
        show _ = _; simp; omega
      have h1' : ¬ 1000000000000000 / a < b := by omega
      go_enter Try.func33, Try.ntmps33
      go_wp2
      go_returns
      exact ⟨by rw [Hd.out]; simp, Below.refl _ _⟩
    · have Hd : Hid (decide (1000000000000000 < a * b) = true) := by
        have : ¬ a * b ≤ 1000000000000000 := fun h => h1 (hd.2 h)
        show _ = _; simp; omega
      have h1' : 1000000000000000 / a < b := by omega
      go_enter Try.func33, Try.ntmps33
      go_wp2
      go_returns
      exact ⟨by rw [Hd.out]; rfl, Below.refl _ _⟩
  · obtain rfl : a = 0 := by omega
    go_enter Try.func33, Try.ntmps33
    go_wp2
    go_returns
    exact ⟨by simp, Below.refl _ _⟩

/-- What Sum of the reference returns: an error. -/
def Err2 (x : Int) (e : Ending) : Prop := e = .returned (.tuple #[.slice none 0 0, .int .i64 x])

theorem chkP_first {a b : List Int} {n : Int} (h : chk1 a ≠ 0) : chkP a b n = chk1 a := by
  have h2 : chkL [a, b] = chk1 a := chkL_at (ls := [a, b]) (k := 0) (by simp) (fun i hi => by omega) h
  unfold chkP
  rw [if_pos (by rw [h2]; exact h), h2]
theorem chkP_second {a b : List Int} {n : Int} (h0 : chk1 a = 0) (h : chk1 b ≠ 0) : chkP a b n = chk1 b := by
  have h2 : chkL [a, b] = chk1 b := chkL_at (ls := [a, b]) (k := 1) (by simp) (fun i hi => by obtain rfl : i = 0 := by omega
                                                                                              exact h0) h
  unfold chkP
  rw [if_pos (by rw [h2]; exact h), h2]
theorem chkP_rest {a b : List Int} {n : Int} (h0 : chk1 a = 0) (h : chk1 b = 0) : chkP a b n = if 4096 < n then 5 else if 1000000000000000 / lsum b < lsum a then 10 else 0 := by
  have h2 : chkL [a, b] = 0 := chkL_all (ls := [a, b]) (fun k hk => by
    rcases k with _ | _ | k
    · exact h0
    · exact h
    · simp at hk; omega)
  unfold chkP
  rw [if_neg (by rw [h2]; simp)]

end Go.Proofs.Ytnpnnfbmnlgioaa
