/-
  Package hexagram: images of sets.
-/
import Derived.Test.YtojlopfjhhiilaaGreatDoorHxIr
import Derived.Test.YtojlopfjhhiilaaGreatDoorHxL
namespace Go.Proofs.YtojlopfjhhiilaaGreatDoor
open Go Go.RowKit
set_option linter.unusedVariables false

def imageR (s : Nat) (ops : List Int) : Int := if opsE ops = 0 then imgV s ops else 0

end Go.Proofs.YtojlopfjhhiilaaGreatDoor
