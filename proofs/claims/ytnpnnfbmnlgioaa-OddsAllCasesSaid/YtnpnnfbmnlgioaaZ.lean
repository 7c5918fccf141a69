/-
  What long of the statements returns, and the frame that each statement's proof shares.
-/
import Derived.Test.YtnpnnfbmnlgioaaK
import Derived.Test.YtnpnnfbmnlgioaaT
import Derived.Test.YtnpnnfbmnlgioaaV
namespace Go.Proofs.Ytnpnnfbmnlgioaa
open Go.RowKit

/-- More weights than are looked at. -/
def longB (n : Nat) : Bool := decide ((300 < n ∧ n ≤ 4096) ∨ 4200 < n)
theorem longB_false {n : Nat} (h : longB n = false) : n ≤ 300 ∨ (4096 < n ∧ n ≤ 4200) := by
  simp [longB] at h; omega
theorem eqL_self (xs : List Int) : eqL xs xs = true := by simp [eqL]
theorem sRep_length (xs : List Int) (t : Int) : (sRep xs t).1.length ≤ 4096 := by
  unfold sRep
  split
  · simp
  · split
    · simp
    · split
      · simp
      · exact repRes_length _ _
end Go.Proofs.Ytnpnnfbmnlgioaa
