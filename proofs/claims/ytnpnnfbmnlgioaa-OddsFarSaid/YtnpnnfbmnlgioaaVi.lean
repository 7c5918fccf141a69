/-
  What Of of the reference returns.
-/
import Derived.Test.YtnpnnfbmnlgioaaVh
namespace Go.Proofs.Ytnpnnfbmnlgioaa
open Go.RowKit

end Go.Proofs.Ytnpnnfbmnlgioaa
