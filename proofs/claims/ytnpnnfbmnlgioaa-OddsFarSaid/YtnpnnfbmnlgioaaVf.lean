/-
  What Outcomes of the reference returns.
-/
import Derived.Test.YtnpnnfbmnlgioaaVe
namespace Go.Proofs.Ytnpnnfbmnlgioaa
open Go.RowKit

end Go.Proofs.Ytnpnnfbmnlgioaa
