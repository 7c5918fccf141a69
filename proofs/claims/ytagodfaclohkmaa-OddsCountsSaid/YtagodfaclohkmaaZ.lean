/-
  What long of the statements returns, and the frame that each statement's proof shares.
-/
import Derived.Test.YtagodfaclohkmaaK
import Derived.Test.YtagodfaclohkmaaT
import Derived.Test.YtagodfaclohkmaaV
namespace Go.Proofs.Ytagodfaclohkmaa
open Go.RowKit

/-- More weights than are looked at. -/
def longB (n : Nat) : Bool := decide ((300 < n ∧ n ≤ 4096) ∨ 4200 < n)
theorem long_any (p : Option Addr) (xs : List Int) (c : Nat) (w : World) :
    Calls Try.prog 15 #[.slice p xs.length c] w fun e w' => e = .returned (.bool (longB xs.length)) ∧ Below w.heap.size w w' := by
  by_cases h1 : 4200 < xs.length
  · have Hd : Hid (longB xs.length = true) := by show _ = _; unfold longB; rw [decide_eq_true]; omega
    have x1 : 300 < xs.length := by omega
    have x2 : ¬ xs.length ≤ 4096 := by omega
    go_enter Try.func15, Try.ntmps15
    go_wp2
    go_returns
    exact ⟨by rw [Hd.out]; simp <;> omega, Below.refl _ _⟩
  · by_cases x1 : 300 < xs.length
    · by_cases x2 : xs.length ≤ 4096
      · have Hd : Hid (longB xs.length = true) := by show _ = _; unfold longB; rw [decide_eq_true]; omega
        go_enter Try.func15, Try.ntmps15
        go_wp2
        go_returns
        exact ⟨by rw [Hd.out]; simp <;> omega, Below.refl _ _⟩
      · have Hd : Hid (longB xs.length = false) := by show _ = _; unfold longB; rw [decide_eq_false]; omega
        go_enter Try.func15, Try.ntmps15
        go_wp2
        go_returns
        exact ⟨by rw [Hd.out]; simp <;> omega, Below.refl _ _⟩
    · have Hd : Hid (longB xs.length = false) := by show _ = _; unfold longB; rw [decide_eq_false]; omega
      go_enter Try.func15, Try.ntmps15
      go_wp2
      go_returns
      exact ⟨by rw [Hd.out]; simp <;> omega, Below.refl _ _⟩
theorem longB_false {n : Nat} (h : longB n = false) : n ≤ 300 ∨ (4096 < n ∧ n ≤ 4200) := by
  simp [longB] at h; omega
theorem eqL_self (xs : List Int) : eqL xs xs = true := by simp [eqL]
theorem sRep_length (xs : List Int) (t : Int) : (sRep xs t).1.length ≤ 4096 := by
  unfold sRep
  split
  · simp
  · split
    · simp
    · split
      · simp
      · exact repRes_length _ _
end Go.Proofs.Ytagodfaclohkmaa
