/-
  The reference of chapter 4: the weights of how many lines move, by those of the pairs.
-/
import Derived.Test.YtdfdgeaohneeaaaGreatDoorHxWu0
import Derived.Test.YtdfdgeaohneeaaaGreatDoorHxCi
import Derived.Test.YtdfdgeaohneeaaaGreatDoorHxRb
import Derived.StillTailTactics
namespace Go.Proofs.YtdfdgeaohneeaaaGreatDoor
open Go Go.RowKit
set_option linter.unusedVariables false

def movTo (P : List Int) (m : Nat) : List Int := scatter (fun i => nth P i) (fun i => (difTo (i / 64 : Nat) (i % 64 : Nat) 6).toNat) 7 m
theorem movTo_length (P : List Int) (m : Nat) : (movTo P m).length = 7 := scatter_length ..
theorem movTo_bd {P : List Int} (h : ∀ k, 0 ≤ nth P k ∧ nth P k ≤ 995686217814016) {m : Nat} (hm : m ≤ 4096) (j : Nat) : 0 ≤ nth (movTo P m) j ∧ nth (movTo P m) j ≤ 4100000000000000000 := by
  have := scatter_bd (F := fun i => nth P i) (pl := fun i => (difTo (i / 64 : Nat) (i % 64 : Nat) 6).toNat) (n := 7) (m := m) (b := 995686217814016) (by omega) (fun i _ => h i) (fun i hi => by have := difTo_bd (i / 64 : Nat) (i % 64 : Nat) 6; omega) j
  unfold movTo
  have : (m : Int) * 995686217814016 ≤ 4096 * 995686217814016 := by omega
  omega

end Go.Proofs.YtdfdgeaohneeaaaGreatDoor
