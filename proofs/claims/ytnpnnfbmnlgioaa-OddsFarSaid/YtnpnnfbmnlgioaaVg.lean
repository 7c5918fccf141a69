/-
  What chance and Lowest of the reference return.
-/
import Derived.Test.YtnpnnfbmnlgioaaVf
import Derived.Test.YtnpnnfbmnlgioaaT
import Derived.Laws.AppendOwn
import Derived.OwnWalk
namespace Go.Proofs.Ytnpnnfbmnlgioaa
open Go.RowKit

theorem upto_all (f : Int → Int) (xs : List Int) : upto (fun j => f (nth xs j)) xs.length = xs.map f := by
  unfold upto; exact fill_map f xs

end Go.Proofs.Ytnpnnfbmnlgioaa
