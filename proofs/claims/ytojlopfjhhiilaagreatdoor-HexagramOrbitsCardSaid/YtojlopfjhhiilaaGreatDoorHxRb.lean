/-
  The reference of chapter 4: lines of two hexagrams.
-/
import Derived.Test.YtojlopfjhhiilaaGreatDoorHxRa
namespace Go.Proofs.YtojlopfjhhiilaaGreatDoor
open Go Go.RowKit
set_option linter.unusedVariables false

theorem hexB_of {x : Int} (h : Hex x) : hexB x = true := by unfold hexB; simpa [Hex] using h
theorem hexB_not {x : Int} (h : ¬ Hex x) : hexB x = false := by unfold hexB; simpa [Hex] using h
theorem sixL_nth (h : Int) {k : Nat} (hk : k < 6) : nth (sixL h) k = bI (bitB h k) := by
  rw [nth_eq (by rw [sixL_length]; exact hk)]; simp [sixL]
theorem chkH_two {x y : Int} : chkH [x, y] = 0 ↔ Hex x ∧ Hex y := by
  constructor
  · intro h
    exact ⟨chkH_zero h 0 (by simp), chkH_zero h 1 (by simp)⟩
  · rintro ⟨a, b⟩
    refine chkH_of fun k hk => ?_
    have : k = 0 ∨ k = 1 := by simp at hk; omega
    rcases this with rfl | rfl
    · exact a
    · exact b
theorem Blk.rowFar {w : World} {g : Nat} {t : TypeId} {cs : Array Value} {b : Nat} (h : Blk w g t cs) (hb : g ≠ b) (ds : Array Value) : Blk (w.setRow b ds) g t cs := by
  unfold Blk at h ⊢
  simp only [World.setRow]
  rw [Array.getElem?_modify, if_neg (by omega)]
  exact h
theorem Blk.newN {W : World} {n : Nat} (t : TypeId) (cs : Array Value) (h : W.heap.size = n) : Blk (W.alloc (.cells cs t)) n t cs := by subst h; exact Blk.new _ _ _
end Go.Proofs.YtojlopfjhhiilaaGreatDoor
