/-
  The reference of chapter 4: the palace of a hexagram.
-/
import Derived.Test.YtoeflgmdaaefeaaGreatDoorHxPa
import Derived.Test.YtoeflgmdaaefeaaGreatDoorHxRm0
import Derived.Test.YtoeflgmdaaefeaaGreatDoorHxRm1
import Derived.Test.YtoeflgmdaaefeaaGreatDoorHxRm2
import Derived.Test.YtoeflgmdaaefeaaGreatDoorHxRm3
import Derived.Test.YtoeflgmdaaefeaaGreatDoorHxRm4
import Derived.Test.YtoeflgmdaaefeaaGreatDoorHxRm5
import Derived.Test.YtoeflgmdaaefeaaGreatDoorHxRm6
import Derived.Test.YtoeflgmdaaefeaaGreatDoorHxRm7
namespace Go.Proofs.YtoeflgmdaaefeaaGreatDoor
open Go Go.RowKit
set_option linter.unusedVariables false

/-- The lines that are turned at a step. -/
def turnT : Nat → List Nat
  | 0 => [] | 1 => [0] | 2 => [0, 1] | 3 => [0, 1, 2] | 4 => [0, 1, 2, 3] | 5 => [0, 1, 2, 3, 4] | 6 => [0, 1, 2, 4] | _ => [4]
def atV (t s : Nat) : Int := memN (9 * (t : Int)) (turnT s)
theorem refMember_any (h : Int) (hh : Hex h) (s : Nat) (hs : s < 8) (w : World) :
    Calls Tryz.prog 35 #[.int .i64 h, .int .i64 s] w fun e w' => e = .returned (.int .i64 (memN h (turnT s))) ∧ Below w.heap.size w w' := by
  have e : s = 0 ∨ s = 1 ∨ s = 2 ∨ s = 3 ∨ s = 4 ∨ s = 5 ∨ s = 6 ∨ s = 7 := by omega
  rcases e with rfl | rfl | rfl | rfl | rfl | rfl | rfl | rfl
  · exact refMember0_any h hh w
  · exact refMember1_any h hh w
  · exact refMember2_any h hh w
  · exact refMember3_any h hh w
  · exact refMember4_any h hh w
  · exact refMember5_any h hh w
  · exact refMember6_any h hh w
  · exact refMember7_any h hh w
set_option maxRecDepth 100000 in
theorem at_pal : ∀ t : Fin 8, ∀ s : Fin 8, palH (atV t.val s.val) = 9 * (t.val : Int) ∧ palS (atV t.val s.val) = s.val := by decide +kernel
set_option maxRecDepth 100000 in
theorem pal_at {h : Int} (hh : Hex h) : ∃ T S : Nat, T < 8 ∧ S < 8 ∧ palH h = 9 * (T : Int) ∧ palS h = S ∧ atV T S = h := by
  have key := hex_all (P := fun h => palH h = 9 * (palH h / 9) ∧ 0 ≤ palH h / 9 ∧ palH h / 9 < 8 ∧ 0 ≤ palS h ∧ palS h < 8 ∧ atV (palH h / 9).toNat (palS h).toNat = h) (by decide +kernel) hh
  obtain ⟨a, b, c, d, e, f⟩ := key
  exact ⟨(palH h / 9).toNat, (palS h).toNat, by omega, by omega, by omega, by omega, f⟩
theorem at_only {T S t s : Nat} (hT : T < 8) (hS : S < 8) (ht : t < 8) (hs : s < 8) (h : atV t s = atV T S) : t = T ∧ s = S := by
  have a := at_pal ⟨T, hT⟩ ⟨S, hS⟩
  have b := at_pal ⟨t, ht⟩ ⟨s, hs⟩
  simp only at a b
  rw [h] at b
  omega
end Go.Proofs.YtoeflgmdaaefeaaGreatDoor
