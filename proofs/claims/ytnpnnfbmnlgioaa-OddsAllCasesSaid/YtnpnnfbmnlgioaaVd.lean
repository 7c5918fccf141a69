/-
  What Check, Total, Lowest and Given of package odds return, for every list; what Divisor and Outcomes of the reference return.
-/
import Derived.Test.YtnpnnfbmnlgioaaI
import Derived.Test.YtnpnnfbmnlgioaaV
namespace Go.Proofs.Ytnpnnfbmnlgioaa
open Go.RowKit

theorem check0 (p : Option Addr) (xs : List Int) (c : Nat) (w : World) (hl : xs.length ≤ 1000000000000000) (hR : Reads w p xs) :
    Calls Try.prog 47 #[.slice (some ⟨w.heap.size, 0, none⟩) 1 1] (w.alloc (.cells #[.slice p xs.length c] 34)) fun e w' => e = .returned (.int .i64 (chk1 xs)) ∧ Below w.heap.size w w' :=
  (check1 p xs c w.heap.size (w.alloc (.cells #[.slice p xs.length c] 34)) (by omega) (by go_simp) (hR.below (below1 _ _) (Nat.le_refl _))).mono fun e w' h => ⟨h.1, (below1 _ _).trans (h.2.mono (by simp))⟩

/-- What Total returns. -/
def sTotal (xs : List Int) : Int × Int := if chk1 xs = 0 then (lsum xs, 0) else (0, chk1 xs)
/-- What Lowest returns. -/
def sLow (xs : List Int) : List Int × Int := if chk1 xs = 0 then (low xs, 0) else ([], chk1 xs)
/-- What Given returns. -/
def sGiven (xs os : List Int) : List Int × Int := if chkS xs os ≠ 0 then ([], chkS xs os) else if lsum (onlyL xs os) = 0 then ([], 7) else (onlyL xs os, 0)
end Go.Proofs.Ytnpnnfbmnlgioaa
