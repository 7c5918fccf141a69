/-
  The circle of houses: the figure of a house; the reference's At.
-/
import Derived.Test.YtdnccdobnhbpeaaDoorHoJ3
namespace Go.Proofs.YtdnccdobnhbpeaaDoor
open Go Go.RowKit
set_option linter.unusedVariables false

set_option maxRecDepth 100000 in
set_option maxHeartbeats 2000000 in
theorem refAt_any (s0 s1 s2 s3 s4 s5 s6 s7 s8 s9 s10 s11 : Int) (k : Nat) (hk : k < 12) (w : World) :
    Calls Tryd.prog 13 #[.agg #[.int .i64 s0, .int .i64 s1, .int .i64 s2, .int .i64 s3, .int .i64 s4, .int .i64 s5, .int .i64 s6, .int .i64 s7, .int .i64 s8, .int .i64 s9, .int .i64 s10, .int .i64 s11], .int .i64 ((k : Int) + 1)] w fun e w' => e = .returned (.int .i64 (nth [s0, s1, s2, s3, s4, s5, s6, s7, s8, s9, s10, s11] k)) ∧ Below w.heap.size w w' := by
  have hc : (w.alloc (.cells #[.int .i64 s0, .int .i64 s1, .int .i64 s2, .int .i64 s3, .int .i64 s4, .int .i64 s5, .int .i64 s6, .int .i64 s7, .int .i64 s8, .int .i64 s9, .int .i64 s10, .int .i64 s11] 24)).cell? ⟨w.heap.size, k, none⟩ = some (.int .i64 (nth [s0, s1, s2, s3, s4, s5, s6, s7, s8, s9, s10, s11] k)) := by
    have := (Blk.new w 24 #[.int .i64 s0, .int .i64 s1, .int .i64 s2, .int .i64 s3, .int .i64 s4, .int .i64 s5, .int .i64 s6, .int .i64 s7, .int .i64 s8, .int .i64 s9, .int .i64 s10, .int .i64 s11]).cell k
    rw [this]
    exact arr_get (xs := [s0, s1, s2, s3, s4, s5, s6, s7, s8, s9, s10, s11]) hk
  have e1 : IntKind.i64.wrap ((k : Int) + 1 - 1) = (k : Int) := by
    rw [Int.add_sub_cancel]
    exact IntWalk.i64_in _ (by omega)
  have hk3 : (k : Int) < 12 := by omega
  go_enter Tryd.func13, Tryd.ntmps13
  go_wp2
  go_ret
  exact ⟨rfl, ((Below.refl _ _).alloc (Nat.le_refl _) _)⟩
set_option maxRecDepth 100000 in
set_option maxHeartbeats 2000000 in
theorem figure_any (s0 s1 s2 s3 s4 s5 s6 s7 s8 s9 s10 s11 : Int) (m : Option Nat) (k : Nat) (hk : k < 12) (w : World) :
    Calls Tryd.prog 34 #[.agg #[.int .i64 s0, .int .i64 s1, .int .i64 s2, .int .i64 s3, .int .i64 s4, .int .i64 s5, .int .i64 s6, .int .i64 s7, .int .i64 s8, .int .i64 s9, .int .i64 s10, .int .i64 s11, .map m], .int .i64 ((k : Int) + 1)] w fun e w' => e = .returned (.int .i64 (nth [s0, s1, s2, s3, s4, s5, s6, s7, s8, s9, s10, s11] k)) ∧ Below w.heap.size w w' := by
  have hc : (w.alloc (.cells #[.int .i64 s0, .int .i64 s1, .int .i64 s2, .int .i64 s3, .int .i64 s4, .int .i64 s5, .int .i64 s6, .int .i64 s7, .int .i64 s8, .int .i64 s9, .int .i64 s10, .int .i64 s11, .map m] 84)).cell? ⟨w.heap.size, k, none⟩ = some (.int .i64 (nth [s0, s1, s2, s3, s4, s5, s6, s7, s8, s9, s10, s11] k)) := by
    have := (Blk.new w 84 #[.int .i64 s0, .int .i64 s1, .int .i64 s2, .int .i64 s3, .int .i64 s4, .int .i64 s5, .int .i64 s6, .int .i64 s7, .int .i64 s8, .int .i64 s9, .int .i64 s10, .int .i64 s11, .map m]).cell k
    rw [this]
    have h := arr_get (xs := [s0, s1, s2, s3, s4, s5, s6, s7, s8, s9, s10, s11]) hk
    rw [← h]
    have : k = 0 ∨ k = 1 ∨ k = 2 ∨ k = 3 ∨ k = 4 ∨ k = 5 ∨ k = 6 ∨ k = 7 ∨ k = 8 ∨ k = 9 ∨ k = 10 ∨ k = 11 := by omega
    rcases this with rfl | rfl | rfl | rfl | rfl | rfl | rfl | rfl | rfl | rfl | rfl | rfl <;> rfl
  have e1 : IntKind.i64.wrap ((k : Int) + 1 - 1) = (k : Int) := by
    rw [Int.add_sub_cancel]
    exact IntWalk.i64_in _ (by omega)
  have hk3 : (k : Int) < 12 := by omega
  go_enter Tryd.func34, Tryd.ntmps34
  go_wp2
  go_ret
  exact ⟨rfl, ((Below.refl _ _).alloc (Nat.le_refl _) _)⟩
end Go.Proofs.YtdnccdobnhbpeaaDoor
