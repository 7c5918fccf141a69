/-
  The reference of chapter 4: the weights of first hexagrams, by those of the pairs.
-/
import Derived.Test.YtdfdgeaohneeaaaGreatDoorHxWu0
import Derived.Test.YtdfdgeaohneeaaaGreatDoorHxCi
import Derived.StillTailTactics
namespace Go.Proofs.YtdfdgeaohneeaaaGreatDoor
open Go Go.RowKit
set_option linter.unusedVariables false

def figTo (P : List Int) (m : Nat) : List Int := scatter (fun i => nth P i) (fun i => i / 64) 64 m
theorem figTo_length (P : List Int) (m : Nat) : (figTo P m).length = 64 := scatter_length ..
theorem figTo_bd {P : List Int} (h : ∀ k, 0 ≤ nth P k ∧ nth P k ≤ 995686217814016) {m : Nat} (hm : m ≤ 4096) (j : Nat) : 0 ≤ nth (figTo P m) j ∧ nth (figTo P m) j ≤ 4100000000000000000 := by
  have := scatter_bd (F := fun i => nth P i) (pl := fun i => i / 64) (n := 64) (m := m) (b := 995686217814016) (by omega) (fun i _ => h i) (fun i hi => by omega) j
  unfold figTo
  have : (m : Int) * 995686217814016 ≤ 4096 * 995686217814016 := by omega
  omega

end Go.Proofs.YtdfdgeaohneeaaaGreatDoor
