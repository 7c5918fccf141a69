/-
  How two figures go together: all pairs, by runs: what they are.
-/
import Derived.Test.YtdnccdobnhbpeaaDoorHoA
namespace Go.Proofs.YtdnccdobnhbpeaaDoor
open Go Go.RowKit
set_option linter.unusedVariables false

/-- How partners with two figures go together. -/
def compN (f g : Nat) : Nat := if f = g then 1 else (if nth rulL f = nth rulL g then 2 else 0) + (if f + g = 15 then 4 else 0) + (if f % 2 = g % 2 then 8 else 0)
end Go.Proofs.YtdnccdobnhbpeaaDoor
