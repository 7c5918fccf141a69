/-
  The reference of chapter 4: lists of operations, places.
-/
import Derived.Test.YtojlopfjhhiilaaGreatDoorHxRd
namespace Go.Proofs.YtojlopfjhhiilaaGreatDoor
open Go Go.RowKit
set_option linter.unusedVariables false

end Go.Proofs.YtojlopfjhhiilaaGreatDoor
