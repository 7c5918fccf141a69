/-
  What Map of the reference and Map of package odds return, for every lists and number.
-/
import Derived.Test.YtnpnnfbmnlgioaaVa
namespace Go.Proofs.Ytnpnnfbmnlgioaa
open Go.RowKit

/-- The weights of what the first k outcomes are mapped to. -/
def mapTo (xs to : List Int) (n : Nat) : Nat → List Int
  | 0 => List.replicate n 0
  | k + 1 => (mapTo xs to n k).set (nth to k).toNat (nth (mapTo xs to n k) (nth to k).toNat + nth xs k)
theorem mapTo_length (xs to : List Int) (n k : Nat) : (mapTo xs to n k).length = n := by
  induction k with
  | zero => simp [mapTo]
  | succ k ih => simp [mapTo, ih]
theorem mapTo_facts {xs to : List Int} {n k : Nat} (hx : Pos xs) (hk : k ≤ xs.length) (ht : ∀ i, i < k → 0 ≤ nth to i ∧ nth to i < n) : Pos (mapTo xs to n k) ∧ lsum (mapTo xs to n k) = psum xs k := by
  induction k with
  | zero => exact ⟨fun k => by simp only [mapTo]; rw [nth_replicate]; split <;> omega, by simp [mapTo, lsum_replicate, psum]⟩
  | succ k ih =>
    obtain ⟨h1, h2⟩ := ih (by omega) (fun i hi => ht i (by omega))
    have hlen := mapTo_length xs to n k
    have hk1 := ht k (by omega)
    have hin : (nth to k).toNat < (mapTo xs to n k).length := by omega
    refine ⟨fun j => ?_, ?_⟩
    · simp only [mapTo]
      rw [nth_set hin]
      have := h1 j
      have := h1 (nth to k).toNat
      have := hx k
      split <;> omega
    · simp only [mapTo]
      rw [lsum_set hin, h2, psum_succ (by omega)]
      omega
theorem mapTo_step {xs to : List Int} {n k j : Nat} (hx : Pos xs) (hk : k < xs.length) (ht : ∀ i, i < k → 0 ≤ nth to i ∧ nth to i < n) (hle : lsum xs ≤ 1000000000000000) :
    0 ≤ nth (mapTo xs to n k) j ∧ 0 ≤ nth xs k ∧ nth (mapTo xs to n k) j + nth xs k ≤ 1000000000000000 := by
  obtain ⟨h1, h2⟩ := mapTo_facts (n := n) hx (show k ≤ xs.length by omega) ht
  have h3 := nth_le_lsum h1 j
  have h4 := psum_le hx (show k + 1 ≤ xs.length by omega)
  rw [psum_succ hk] at h4
  exact ⟨h1 j, hx k, by omega⟩
/-- What Map returns. -/
def sMap (xs to : List Int) (n : Int) : List Int × Int :=
  if chk1 xs ≠ 0 then ([], chk1 xs) else if n < 1 ∨ 4096 < n then ([], 3) else if to.length ≠ xs.length ∨ anyB (outB 0 (n - 1)) to = true then ([], 2) else (mapTo xs to n.toNat xs.length, 0)
theorem sMap_length (xs to : List Int) (n : Int) : (sMap xs to n).1.length ≤ 4096 := by
  unfold sMap
  split
  · simp
  · split
    · simp
    · split
      · simp
      · simp only [mapTo_length]; omega

end Go.Proofs.Ytnpnnfbmnlgioaa
