/-
  The reference of chapter 4: lists of operations, places.
-/
import Derived.Test.YtdfdgeaohneeaaaGreatDoorHxRd
namespace Go.Proofs.YtdfdgeaohneeaaaGreatDoor
open Go Go.RowKit
set_option linter.unusedVariables false

end Go.Proofs.YtdfdgeaohneeaaaGreatDoor
