/-
  HexagramGroups: plain facts on orbits.
-/
import Derived.Test.YtojlopfjhhiilaaGreatDoorHxYd
import Derived.Test.YtojlopfjhhiilaaGreatDoorHxU
namespace Go.Proofs.YtojlopfjhhiilaaGreatDoor
open Go Go.RowKit
set_option linter.unusedVariables false

/-- What is closed and has the first has all that is reached. -/
theorem reach_least {set first : Int} {C : List Int} (h0 : first ∈ C) (hc : ∀ x ∈ C, ∀ o ∈ opsTo set 4, nth (opL o) x.toNat ∈ C) (k : Nat) : ∀ x ∈ reachTo set first k, x ∈ C := by
  induction k with
  | zero => intro x hx; simp [reachTo] at hx; subst hx; exact h0
  | succ k ih =>
    rw [reachTo]
    split
    · rename_i hk
      have hn : nth (reachTo set first k) k ∈ C := ih _ (nth_mem hk)
      generalize nth (reachTo set first k) k = y at hn
      have : ∀ os : List Nat, (∀ o ∈ os, o ∈ opsTo set 4) → ∀ fs : List Int, (∀ x ∈ fs, x ∈ C) → ∀ x ∈ stepF y fs os, x ∈ C := by
        intro os
        induction os with
        | nil => intro _ fs hf; exact hf
        | cons o r ih2 =>
          intro ho fs hf
          refine ih2 (fun a ha => ho a (List.mem_cons_of_mem _ ha)) _ ?_
          intro x hx
          have hx : x ∈ addF fs (nth (opL o) y.toNat) := hx
          unfold addF at hx
          split at hx
          · exact hf x hx
          · rcases List.mem_append.1 hx with hx | hx
            · exact hf x hx
            · simp at hx; subst hx; exact hc y hn o (ho o (List.mem_cons_self ..))
      exact this _ (fun _ h => h) _ ih
    · exact ih
theorem reach_first (set first : Int) (k : Nat) : first ∈ reachTo set first k := by
  have h : nth (reachTo set first k) 0 = first := by
    induction k with
    | zero => rfl
    | succ k ih =>
      rw [reachTo]
      split
      · rw [(stepF_len _ _ _).2 0 (by have := reachTo_len set first k; omega), ih]
      · exact ih
  have := nth_mem (xs := reachTo set first k) (k := 0) (by have := reachTo_len set first k; omega)
  rw [h] at this
  exact this
def mapsT : List Nat := [1, 2, 2, 4, 2, 4, 4, 8, 4, 6, 8, 12, 16, 26, 32, 52]
set_option maxRecDepth 100000 in
theorem orb_size : ∀ s, s < 16 → ∀ h, h < 64 → (reachTo (s : Nat) (h : Nat) 64).length ≤ mapsT.getD s 0 ∧ (s < 8 → mapsT.getD s 0 % (reachTo (s : Nat) (h : Nat) 64).length = 0) := by decide +kernel
set_option maxRecDepth 100000 in
theorem orb_back : ∀ s, s < 8 → ∀ h, h < 64 → (reachTo (s : Nat) (h : Nat) 64).all (fun x => decide (((h : Nat) : Int) ∈ reachTo (s : Nat) x 64)) = true := by decide +kernel
end Go.Proofs.YtojlopfjhhiilaaGreatDoor
