/-
  The reference of chapter 4: the hexagram of a palace at a step. (Written by genhxrm.py.)
-/
import Derived.Test.YtoeflgmdaaefeaaGreatDoorHxRd
namespace Go.Proofs.YtoeflgmdaaefeaaGreatDoor
open Go Go.RowKit
set_option linter.unusedVariables false

/-- Lines, some of which are turned. -/
def memTo (h : Int) (T : List Nat) (k : Nat) : List Int := (T.take k).foldl (fun l t => l.set t (1 - nth l t)) (sixL h)
def memN (h : Int) (T : List Nat) : Int := numTo (memTo h T T.length) 6
end Go.Proofs.YtoeflgmdaaefeaaGreatDoor
