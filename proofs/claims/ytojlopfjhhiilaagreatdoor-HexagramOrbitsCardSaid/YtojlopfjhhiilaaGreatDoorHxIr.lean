/-
  The reference of chapter 4: the error of operations; images of sets.
-/
import Derived.Test.YtojlopfjhhiilaaGreatDoorHxRe
import Derived.Test.YtojlopfjhhiilaaGreatDoorHxBt
namespace Go.Proofs.YtojlopfjhhiilaaGreatDoor
open Go Go.RowKit
set_option linter.unusedVariables false

/-- What a map makes of the first hexagrams of a set. -/
def imgTo (s : Nat) (f : Nat → Int) : Nat → Int
  | 0 => 0
  | k + 1 => if s.testBit k = true then bits BinOp.or IntKind.u64 (imgTo s f k) (2 ^ (f k).toNat) else imgTo s f k
def imgV (s : Nat) (ops : List Int) : Int := imgTo s (fun h => applyV h ops) 64

end Go.Proofs.YtojlopfjhhiilaaGreatDoor
