/-
  Equal of the reference at two lists that read the same.
-/
import Derived.Test.YtnpnnfbmnlgioaaZ
namespace Go.Proofs.Ytnpnnfbmnlgioaa
open Go.RowKit

theorem equal_same (L : List Int) (hL : L.length ≤ 4096) (pa : Option Addr) (ca : Nat) (pb : Option Addr) (cb : Nat) (w : World) (hRa : Reads w pa L) (hRb : Reads w pb L) :
    Calls Try.prog 37 #[.slice pa L.length ca, .slice pb L.length cb] w fun e w' => e = .returned (.bool true) ∧ Below w.heap.size w w' := by
  have h := equal_any pa L ca pb L cb w (by omega) (by omega) hRa hRb
  rwa [eqL_self] at h
end Go.Proofs.Ytnpnnfbmnlgioaa
