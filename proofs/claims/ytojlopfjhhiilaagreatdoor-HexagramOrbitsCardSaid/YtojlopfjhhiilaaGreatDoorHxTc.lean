/-
  HexagramGroups: orbits are closed.
-/
import Derived.Test.YtojlopfjhhiilaaGreatDoorHxU
namespace Go.Proofs.YtojlopfjhhiilaaGreatDoor
open Go Go.RowKit
set_option linter.unusedVariables false

set_option maxRecDepth 100000 in
theorem orb_closed : ∀ s, s < 16 → ∀ h, h < 64 → (reachTo (s : Nat) (h : Nat) 64).all (fun x => (opsTo (s : Nat) 4).all fun o => decide (nth (opL o) x.toNat ∈ reachTo (s : Nat) (h : Nat) 64)) = true := by decide +kernel
end Go.Proofs.YtojlopfjhhiilaaGreatDoor
