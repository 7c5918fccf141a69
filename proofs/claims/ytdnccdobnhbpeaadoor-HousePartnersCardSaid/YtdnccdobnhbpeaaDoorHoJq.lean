/-
  The circle of houses: Stands and Partner at an error; the reference's Partner.
  The circle of houses: Partner.
-/
import Derived.Test.YtdnccdobnhbpeaaDoorHoJe
import Derived.Test.YtdnccdobnhbpeaaDoorHoJr
namespace Go.Proofs.YtdnccdobnhbpeaaDoor
open Go Go.RowKit
set_option linter.unusedVariables false

/-- The partner of a house. -/
def partN (n : Nat) : Nat := if n % 2 = 1 then n + 1 else n - 1
theorem refPartner_run : ((List.range 12).all fun a => isI (Int.ofNat (partN (a + 1))) (Ev.lstartT Tryd.prog 6 [] 2000 14 [.int .i64 (Int.ofNat (a + 1))])) = true := by kernel_rfl
theorem refPartner_any (k : Nat) (hk : k < 12) (w : World) (hw : 6 ≤ w.heap.size) :
    Calls Tryd.prog 14 #[.int .i64 ((k : Int) + 1)] w fun e w' => e = .returned (.int .i64 (partN (k + 1) : Nat)) ∧ Below w.heap.size w w' := by
  have := refPartner_run
  simp only [List.all_eq_true, List.mem_range] at this
  exact run_I follows_mixed (this k hk) (by decide) hw no_tabs

set_option maxRecDepth 100000 in
set_option maxHeartbeats 8000000 in
theorem stands_bad1 (s0 s1 s2 s3 s4 s5 s6 s7 s8 s9 s10 s11 n : Int) (HC : Hid (chkF [s0, s1, s2, s3, s4, s5, s6, s7, s8, s9, s10, s11] = 2)) (w : World) :
    Calls Tryd.prog 8 #[.agg #[.int .i64 s0, .int .i64 s1, .int .i64 s2, .int .i64 s3, .int .i64 s4, .int .i64 s5, .int .i64 s6, .int .i64 s7, .int .i64 s8, .int .i64 s9, .int .i64 s10, .int .i64 s11], .int .i64 n] w fun e w' => e = .returned (.tuple #[.slice none 0 0, .int .i64 2]) ∧ Below w.heap.size w w' := by
  have hX : Blk (w.alloc (.cells #[.int .i64 s0, .int .i64 s1, .int .i64 s2, .int .i64 s3, .int .i64 s4, .int .i64 s5, .int .i64 s6, .int .i64 s7, .int .i64 s8, .int .i64 s9, .int .i64 s10, .int .i64 s11] 24)) w.heap.size 24 #[.int .i64 s0, .int .i64 s1, .int .i64 s2, .int .i64 s3, .int .i64 s4, .int .i64 s5, .int .i64 s6, .int .i64 s7, .int .i64 s8, .int .i64 s9, .int .i64 s10, .int .i64 s11] := blk_newN _ _ rfl
  have c0 : (w.alloc (.cells #[.int .i64 s0, .int .i64 s1, .int .i64 s2, .int .i64 s3, .int .i64 s4, .int .i64 s5, .int .i64 s6, .int .i64 s7, .int .i64 s8, .int .i64 s9, .int .i64 s10, .int .i64 s11] 24)).cell? ⟨w.heap.size, 0, none⟩ = some (.int .i64 s0) := hX.cell 0
  have c1 : (w.alloc (.cells #[.int .i64 s0, .int .i64 s1, .int .i64 s2, .int .i64 s3, .int .i64 s4, .int .i64 s5, .int .i64 s6, .int .i64 s7, .int .i64 s8, .int .i64 s9, .int .i64 s10, .int .i64 s11] 24)).cell? ⟨w.heap.size, 1, none⟩ = some (.int .i64 s1) := hX.cell 1
  have c2 : (w.alloc (.cells #[.int .i64 s0, .int .i64 s1, .int .i64 s2, .int .i64 s3, .int .i64 s4, .int .i64 s5, .int .i64 s6, .int .i64 s7, .int .i64 s8, .int .i64 s9, .int .i64 s10, .int .i64 s11] 24)).cell? ⟨w.heap.size, 2, none⟩ = some (.int .i64 s2) := hX.cell 2
  have c3 : (w.alloc (.cells #[.int .i64 s0, .int .i64 s1, .int .i64 s2, .int .i64 s3, .int .i64 s4, .int .i64 s5, .int .i64 s6, .int .i64 s7, .int .i64 s8, .int .i64 s9, .int .i64 s10, .int .i64 s11] 24)).cell? ⟨w.heap.size, 3, none⟩ = some (.int .i64 s3) := hX.cell 3
  have c4 : (w.alloc (.cells #[.int .i64 s0, .int .i64 s1, .int .i64 s2, .int .i64 s3, .int .i64 s4, .int .i64 s5, .int .i64 s6, .int .i64 s7, .int .i64 s8, .int .i64 s9, .int .i64 s10, .int .i64 s11] 24)).cell? ⟨w.heap.size, 4, none⟩ = some (.int .i64 s4) := hX.cell 4
  have c5 : (w.alloc (.cells #[.int .i64 s0, .int .i64 s1, .int .i64 s2, .int .i64 s3, .int .i64 s4, .int .i64 s5, .int .i64 s6, .int .i64 s7, .int .i64 s8, .int .i64 s9, .int .i64 s10, .int .i64 s11] 24)).cell? ⟨w.heap.size, 5, none⟩ = some (.int .i64 s5) := hX.cell 5
  have c6 : (w.alloc (.cells #[.int .i64 s0, .int .i64 s1, .int .i64 s2, .int .i64 s3, .int .i64 s4, .int .i64 s5, .int .i64 s6, .int .i64 s7, .int .i64 s8, .int .i64 s9, .int .i64 s10, .int .i64 s11] 24)).cell? ⟨w.heap.size, 6, none⟩ = some (.int .i64 s6) := hX.cell 6
  have c7 : (w.alloc (.cells #[.int .i64 s0, .int .i64 s1, .int .i64 s2, .int .i64 s3, .int .i64 s4, .int .i64 s5, .int .i64 s6, .int .i64 s7, .int .i64 s8, .int .i64 s9, .int .i64 s10, .int .i64 s11] 24)).cell? ⟨w.heap.size, 7, none⟩ = some (.int .i64 s7) := hX.cell 7
  have c8 : (w.alloc (.cells #[.int .i64 s0, .int .i64 s1, .int .i64 s2, .int .i64 s3, .int .i64 s4, .int .i64 s5, .int .i64 s6, .int .i64 s7, .int .i64 s8, .int .i64 s9, .int .i64 s10, .int .i64 s11] 24)).cell? ⟨w.heap.size, 8, none⟩ = some (.int .i64 s8) := hX.cell 8
  have c9 : (w.alloc (.cells #[.int .i64 s0, .int .i64 s1, .int .i64 s2, .int .i64 s3, .int .i64 s4, .int .i64 s5, .int .i64 s6, .int .i64 s7, .int .i64 s8, .int .i64 s9, .int .i64 s10, .int .i64 s11] 24)).cell? ⟨w.heap.size, 9, none⟩ = some (.int .i64 s9) := hX.cell 9
  have c10 : (w.alloc (.cells #[.int .i64 s0, .int .i64 s1, .int .i64 s2, .int .i64 s3, .int .i64 s4, .int .i64 s5, .int .i64 s6, .int .i64 s7, .int .i64 s8, .int .i64 s9, .int .i64 s10, .int .i64 s11] 24)).cell? ⟨w.heap.size, 10, none⟩ = some (.int .i64 s10) := hX.cell 10
  have c11 : (w.alloc (.cells #[.int .i64 s0, .int .i64 s1, .int .i64 s2, .int .i64 s3, .int .i64 s4, .int .i64 s5, .int .i64 s6, .int .i64 s7, .int .i64 s8, .int .i64 s9, .int .i64 s10, .int .i64 s11] 24)).cell? ⟨w.heap.size, 11, none⟩ = some (.int .i64 s11) := hX.cell 11
  go_enter Tryd.func8, Tryd.ntmps8
  go_wp2_with fail
  clear c0 c1 c2 c3 c4 c5 c6 c7 c8 c9 c10 c11
  refine (enter_bad1 s0 s1 s2 s3 s4 s5 s6 s7 s8 s9 s10 s11 n HC _ _ _ (Blk.reads (xs := [n]) (blk_newN 3 _ (by simp)))).mono ?_
  rintro e w4 ⟨rfl, hb4⟩
  have hB4 : Below w.heap.size w w4 := ((((Below.refl _ _).alloc (Nat.le_refl _) _).alloc (by simp) _).trans (hb4.mono (by simp; omega)))
  clear hb4 hX
  have HI13 := Lib.hid (show (Tryd.prog.info? 84).map (·.size) = some (#[.int .i64 0, .int .i64 0, .int .i64 0, .int .i64 0, .int .i64 0, .int .i64 0, .int .i64 0, .int .i64 0, .int .i64 0, .int .i64 0, .int .i64 0, .int .i64 0, .map none] : Array Value).size from info_circle)
  have HZ := Lib.hid (show Blk (w4.alloc (.cells #[.int .i64 0, .int .i64 0, .int .i64 0, .int .i64 0, .int .i64 0, .int .i64 0, .int .i64 0, .int .i64 0, .int .i64 0, .int .i64 0, .int .i64 0, .int .i64 0, .map none] 84)) w4.heap.size 84 #[.int .i64 0, .int .i64 0, .int .i64 0, .int .i64 0, .int .i64 0, .int .i64 0, .int .i64 0, .int .i64 0, .int .i64 0, .int .i64 0, .int .i64 0, .int .i64 0, .map none] from blk_newN _ _ rfl)
  go_wp2_with (first
    | (refine wpList_store_row rfl 84 (.tmp 6) (.tmp 13) rfl w4.heap.size #[.int .i64 0, .int .i64 0, .int .i64 0, .int .i64 0, .int .i64 0, .int .i64 0, .int .i64 0, .int .i64 0, .int .i64 0, .int .i64 0, .int .i64 0, .int .i64 0, .map none] rfl rfl 84 _ HZ.out HI13.out rfl (by simp [Value.oneCell']) ?_) | fail)
  first | go_ret2 | go_returns
  exact ⟨rfl, below_setRow (hB4.alloc hB4.size _) hB4.size _⟩

set_option maxRecDepth 100000 in
set_option maxHeartbeats 8000000 in
theorem stands_bad2 (s0 s1 s2 s3 s4 s5 s6 s7 s8 s9 s10 s11 n : Int) (HC : Hid (chkF [s0, s1, s2, s3, s4, s5, s6, s7, s8, s9, s10, s11] = 0)) (HN : Hid (chkH [n] = 3)) (w : World) :
    Calls Tryd.prog 8 #[.agg #[.int .i64 s0, .int .i64 s1, .int .i64 s2, .int .i64 s3, .int .i64 s4, .int .i64 s5, .int .i64 s6, .int .i64 s7, .int .i64 s8, .int .i64 s9, .int .i64 s10, .int .i64 s11], .int .i64 n] w fun e w' => e = .returned (.tuple #[.slice none 0 0, .int .i64 3]) ∧ Below w.heap.size w w' := by
  have hX : Blk (w.alloc (.cells #[.int .i64 s0, .int .i64 s1, .int .i64 s2, .int .i64 s3, .int .i64 s4, .int .i64 s5, .int .i64 s6, .int .i64 s7, .int .i64 s8, .int .i64 s9, .int .i64 s10, .int .i64 s11] 24)) w.heap.size 24 #[.int .i64 s0, .int .i64 s1, .int .i64 s2, .int .i64 s3, .int .i64 s4, .int .i64 s5, .int .i64 s6, .int .i64 s7, .int .i64 s8, .int .i64 s9, .int .i64 s10, .int .i64 s11] := blk_newN _ _ rfl
  have c0 : (w.alloc (.cells #[.int .i64 s0, .int .i64 s1, .int .i64 s2, .int .i64 s3, .int .i64 s4, .int .i64 s5, .int .i64 s6, .int .i64 s7, .int .i64 s8, .int .i64 s9, .int .i64 s10, .int .i64 s11] 24)).cell? ⟨w.heap.size, 0, none⟩ = some (.int .i64 s0) := hX.cell 0
  have c1 : (w.alloc (.cells #[.int .i64 s0, .int .i64 s1, .int .i64 s2, .int .i64 s3, .int .i64 s4, .int .i64 s5, .int .i64 s6, .int .i64 s7, .int .i64 s8, .int .i64 s9, .int .i64 s10, .int .i64 s11] 24)).cell? ⟨w.heap.size, 1, none⟩ = some (.int .i64 s1) := hX.cell 1
  have c2 : (w.alloc (.cells #[.int .i64 s0, .int .i64 s1, .int .i64 s2, .int .i64 s3, .int .i64 s4, .int .i64 s5, .int .i64 s6, .int .i64 s7, .int .i64 s8, .int .i64 s9, .int .i64 s10, .int .i64 s11] 24)).cell? ⟨w.heap.size, 2, none⟩ = some (.int .i64 s2) := hX.cell 2
  have c3 : (w.alloc (.cells #[.int .i64 s0, .int .i64 s1, .int .i64 s2, .int .i64 s3, .int .i64 s4, .int .i64 s5, .int .i64 s6, .int .i64 s7, .int .i64 s8, .int .i64 s9, .int .i64 s10, .int .i64 s11] 24)).cell? ⟨w.heap.size, 3, none⟩ = some (.int .i64 s3) := hX.cell 3
  have c4 : (w.alloc (.cells #[.int .i64 s0, .int .i64 s1, .int .i64 s2, .int .i64 s3, .int .i64 s4, .int .i64 s5, .int .i64 s6, .int .i64 s7, .int .i64 s8, .int .i64 s9, .int .i64 s10, .int .i64 s11] 24)).cell? ⟨w.heap.size, 4, none⟩ = some (.int .i64 s4) := hX.cell 4
  have c5 : (w.alloc (.cells #[.int .i64 s0, .int .i64 s1, .int .i64 s2, .int .i64 s3, .int .i64 s4, .int .i64 s5, .int .i64 s6, .int .i64 s7, .int .i64 s8, .int .i64 s9, .int .i64 s10, .int .i64 s11] 24)).cell? ⟨w.heap.size, 5, none⟩ = some (.int .i64 s5) := hX.cell 5
  have c6 : (w.alloc (.cells #[.int .i64 s0, .int .i64 s1, .int .i64 s2, .int .i64 s3, .int .i64 s4, .int .i64 s5, .int .i64 s6, .int .i64 s7, .int .i64 s8, .int .i64 s9, .int .i64 s10, .int .i64 s11] 24)).cell? ⟨w.heap.size, 6, none⟩ = some (.int .i64 s6) := hX.cell 6
  have c7 : (w.alloc (.cells #[.int .i64 s0, .int .i64 s1, .int .i64 s2, .int .i64 s3, .int .i64 s4, .int .i64 s5, .int .i64 s6, .int .i64 s7, .int .i64 s8, .int .i64 s9, .int .i64 s10, .int .i64 s11] 24)).cell? ⟨w.heap.size, 7, none⟩ = some (.int .i64 s7) := hX.cell 7
  have c8 : (w.alloc (.cells #[.int .i64 s0, .int .i64 s1, .int .i64 s2, .int .i64 s3, .int .i64 s4, .int .i64 s5, .int .i64 s6, .int .i64 s7, .int .i64 s8, .int .i64 s9, .int .i64 s10, .int .i64 s11] 24)).cell? ⟨w.heap.size, 8, none⟩ = some (.int .i64 s8) := hX.cell 8
  have c9 : (w.alloc (.cells #[.int .i64 s0, .int .i64 s1, .int .i64 s2, .int .i64 s3, .int .i64 s4, .int .i64 s5, .int .i64 s6, .int .i64 s7, .int .i64 s8, .int .i64 s9, .int .i64 s10, .int .i64 s11] 24)).cell? ⟨w.heap.size, 9, none⟩ = some (.int .i64 s9) := hX.cell 9
  have c10 : (w.alloc (.cells #[.int .i64 s0, .int .i64 s1, .int .i64 s2, .int .i64 s3, .int .i64 s4, .int .i64 s5, .int .i64 s6, .int .i64 s7, .int .i64 s8, .int .i64 s9, .int .i64 s10, .int .i64 s11] 24)).cell? ⟨w.heap.size, 10, none⟩ = some (.int .i64 s10) := hX.cell 10
  have c11 : (w.alloc (.cells #[.int .i64 s0, .int .i64 s1, .int .i64 s2, .int .i64 s3, .int .i64 s4, .int .i64 s5, .int .i64 s6, .int .i64 s7, .int .i64 s8, .int .i64 s9, .int .i64 s10, .int .i64 s11] 24)).cell? ⟨w.heap.size, 11, none⟩ = some (.int .i64 s11) := hX.cell 11
  go_enter Tryd.func8, Tryd.ntmps8
  go_wp2_with fail
  clear c0 c1 c2 c3 c4 c5 c6 c7 c8 c9 c10 c11
  refine (enter_bad2 s0 s1 s2 s3 s4 s5 s6 s7 s8 s9 s10 s11 n HC HN _ _ _ (Blk.reads (xs := [n]) (blk_newN 3 _ (by simp)))).mono ?_
  rintro e w4 ⟨rfl, hb4⟩
  have hB4 : Below w.heap.size w w4 := ((((Below.refl _ _).alloc (Nat.le_refl _) _).alloc (by simp) _).trans (hb4.mono (by simp; omega)))
  clear hb4 hX
  have HI13 := Lib.hid (show (Tryd.prog.info? 84).map (·.size) = some (#[.int .i64 0, .int .i64 0, .int .i64 0, .int .i64 0, .int .i64 0, .int .i64 0, .int .i64 0, .int .i64 0, .int .i64 0, .int .i64 0, .int .i64 0, .int .i64 0, .map none] : Array Value).size from info_circle)
  have HZ := Lib.hid (show Blk (w4.alloc (.cells #[.int .i64 0, .int .i64 0, .int .i64 0, .int .i64 0, .int .i64 0, .int .i64 0, .int .i64 0, .int .i64 0, .int .i64 0, .int .i64 0, .int .i64 0, .int .i64 0, .map none] 84)) w4.heap.size 84 #[.int .i64 0, .int .i64 0, .int .i64 0, .int .i64 0, .int .i64 0, .int .i64 0, .int .i64 0, .int .i64 0, .int .i64 0, .int .i64 0, .int .i64 0, .int .i64 0, .map none] from blk_newN _ _ rfl)
  go_wp2_with (first
    | (refine wpList_store_row rfl 84 (.tmp 6) (.tmp 13) rfl w4.heap.size #[.int .i64 0, .int .i64 0, .int .i64 0, .int .i64 0, .int .i64 0, .int .i64 0, .int .i64 0, .int .i64 0, .int .i64 0, .int .i64 0, .int .i64 0, .int .i64 0, .map none] rfl rfl 84 _ HZ.out HI13.out rfl (by simp [Value.oneCell']) ?_) | fail)
  first | go_ret2 | go_returns
  exact ⟨rfl, below_setRow (hB4.alloc hB4.size _) hB4.size _⟩

set_option maxRecDepth 100000 in
set_option maxHeartbeats 8000000 in
theorem partner_bad1 (s0 s1 s2 s3 s4 s5 s6 s7 s8 s9 s10 s11 n : Int) (HC : Hid (chkF [s0, s1, s2, s3, s4, s5, s6, s7, s8, s9, s10, s11] = 2)) (w : World) :
    Calls Tryd.prog 9 #[.agg #[.int .i64 s0, .int .i64 s1, .int .i64 s2, .int .i64 s3, .int .i64 s4, .int .i64 s5, .int .i64 s6, .int .i64 s7, .int .i64 s8, .int .i64 s9, .int .i64 s10, .int .i64 s11], .int .i64 n] w fun e w' => e = .returned (.tuple #[.int .i64 0, .int .i64 0, .int .i64 2]) ∧ Below w.heap.size w w' := by
  have hX : Blk (w.alloc (.cells #[.int .i64 s0, .int .i64 s1, .int .i64 s2, .int .i64 s3, .int .i64 s4, .int .i64 s5, .int .i64 s6, .int .i64 s7, .int .i64 s8, .int .i64 s9, .int .i64 s10, .int .i64 s11] 24)) w.heap.size 24 #[.int .i64 s0, .int .i64 s1, .int .i64 s2, .int .i64 s3, .int .i64 s4, .int .i64 s5, .int .i64 s6, .int .i64 s7, .int .i64 s8, .int .i64 s9, .int .i64 s10, .int .i64 s11] := blk_newN _ _ rfl
  have c0 : (w.alloc (.cells #[.int .i64 s0, .int .i64 s1, .int .i64 s2, .int .i64 s3, .int .i64 s4, .int .i64 s5, .int .i64 s6, .int .i64 s7, .int .i64 s8, .int .i64 s9, .int .i64 s10, .int .i64 s11] 24)).cell? ⟨w.heap.size, 0, none⟩ = some (.int .i64 s0) := hX.cell 0
  have c1 : (w.alloc (.cells #[.int .i64 s0, .int .i64 s1, .int .i64 s2, .int .i64 s3, .int .i64 s4, .int .i64 s5, .int .i64 s6, .int .i64 s7, .int .i64 s8, .int .i64 s9, .int .i64 s10, .int .i64 s11] 24)).cell? ⟨w.heap.size, 1, none⟩ = some (.int .i64 s1) := hX.cell 1
  have c2 : (w.alloc (.cells #[.int .i64 s0, .int .i64 s1, .int .i64 s2, .int .i64 s3, .int .i64 s4, .int .i64 s5, .int .i64 s6, .int .i64 s7, .int .i64 s8, .int .i64 s9, .int .i64 s10, .int .i64 s11] 24)).cell? ⟨w.heap.size, 2, none⟩ = some (.int .i64 s2) := hX.cell 2
  have c3 : (w.alloc (.cells #[.int .i64 s0, .int .i64 s1, .int .i64 s2, .int .i64 s3, .int .i64 s4, .int .i64 s5, .int .i64 s6, .int .i64 s7, .int .i64 s8, .int .i64 s9, .int .i64 s10, .int .i64 s11] 24)).cell? ⟨w.heap.size, 3, none⟩ = some (.int .i64 s3) := hX.cell 3
  have c4 : (w.alloc (.cells #[.int .i64 s0, .int .i64 s1, .int .i64 s2, .int .i64 s3, .int .i64 s4, .int .i64 s5, .int .i64 s6, .int .i64 s7, .int .i64 s8, .int .i64 s9, .int .i64 s10, .int .i64 s11] 24)).cell? ⟨w.heap.size, 4, none⟩ = some (.int .i64 s4) := hX.cell 4
  have c5 : (w.alloc (.cells #[.int .i64 s0, .int .i64 s1, .int .i64 s2, .int .i64 s3, .int .i64 s4, .int .i64 s5, .int .i64 s6, .int .i64 s7, .int .i64 s8, .int .i64 s9, .int .i64 s10, .int .i64 s11] 24)).cell? ⟨w.heap.size, 5, none⟩ = some (.int .i64 s5) := hX.cell 5
  have c6 : (w.alloc (.cells #[.int .i64 s0, .int .i64 s1, .int .i64 s2, .int .i64 s3, .int .i64 s4, .int .i64 s5, .int .i64 s6, .int .i64 s7, .int .i64 s8, .int .i64 s9, .int .i64 s10, .int .i64 s11] 24)).cell? ⟨w.heap.size, 6, none⟩ = some (.int .i64 s6) := hX.cell 6
  have c7 : (w.alloc (.cells #[.int .i64 s0, .int .i64 s1, .int .i64 s2, .int .i64 s3, .int .i64 s4, .int .i64 s5, .int .i64 s6, .int .i64 s7, .int .i64 s8, .int .i64 s9, .int .i64 s10, .int .i64 s11] 24)).cell? ⟨w.heap.size, 7, none⟩ = some (.int .i64 s7) := hX.cell 7
  have c8 : (w.alloc (.cells #[.int .i64 s0, .int .i64 s1, .int .i64 s2, .int .i64 s3, .int .i64 s4, .int .i64 s5, .int .i64 s6, .int .i64 s7, .int .i64 s8, .int .i64 s9, .int .i64 s10, .int .i64 s11] 24)).cell? ⟨w.heap.size, 8, none⟩ = some (.int .i64 s8) := hX.cell 8
  have c9 : (w.alloc (.cells #[.int .i64 s0, .int .i64 s1, .int .i64 s2, .int .i64 s3, .int .i64 s4, .int .i64 s5, .int .i64 s6, .int .i64 s7, .int .i64 s8, .int .i64 s9, .int .i64 s10, .int .i64 s11] 24)).cell? ⟨w.heap.size, 9, none⟩ = some (.int .i64 s9) := hX.cell 9
  have c10 : (w.alloc (.cells #[.int .i64 s0, .int .i64 s1, .int .i64 s2, .int .i64 s3, .int .i64 s4, .int .i64 s5, .int .i64 s6, .int .i64 s7, .int .i64 s8, .int .i64 s9, .int .i64 s10, .int .i64 s11] 24)).cell? ⟨w.heap.size, 10, none⟩ = some (.int .i64 s10) := hX.cell 10
  have c11 : (w.alloc (.cells #[.int .i64 s0, .int .i64 s1, .int .i64 s2, .int .i64 s3, .int .i64 s4, .int .i64 s5, .int .i64 s6, .int .i64 s7, .int .i64 s8, .int .i64 s9, .int .i64 s10, .int .i64 s11] 24)).cell? ⟨w.heap.size, 11, none⟩ = some (.int .i64 s11) := hX.cell 11
  go_enter Tryd.func9, Tryd.ntmps9
  go_wp2_with fail
  clear c0 c1 c2 c3 c4 c5 c6 c7 c8 c9 c10 c11
  refine (enter_bad1 s0 s1 s2 s3 s4 s5 s6 s7 s8 s9 s10 s11 n HC _ _ _ (Blk.reads (xs := [n]) (blk_newN 3 _ (by simp)))).mono ?_
  rintro e w4 ⟨rfl, hb4⟩
  have hB4 : Below w.heap.size w w4 := ((((Below.refl _ _).alloc (Nat.le_refl _) _).alloc (by simp) _).trans (hb4.mono (by simp; omega)))
  clear hb4 hX
  have HI13 := Lib.hid (show (Tryd.prog.info? 84).map (·.size) = some (#[.int .i64 0, .int .i64 0, .int .i64 0, .int .i64 0, .int .i64 0, .int .i64 0, .int .i64 0, .int .i64 0, .int .i64 0, .int .i64 0, .int .i64 0, .int .i64 0, .map none] : Array Value).size from info_circle)
  have HZ := Lib.hid (show Blk (w4.alloc (.cells #[.int .i64 0, .int .i64 0, .int .i64 0, .int .i64 0, .int .i64 0, .int .i64 0, .int .i64 0, .int .i64 0, .int .i64 0, .int .i64 0, .int .i64 0, .int .i64 0, .map none] 84)) w4.heap.size 84 #[.int .i64 0, .int .i64 0, .int .i64 0, .int .i64 0, .int .i64 0, .int .i64 0, .int .i64 0, .int .i64 0, .int .i64 0, .int .i64 0, .int .i64 0, .int .i64 0, .map none] from blk_newN _ _ rfl)
  go_wp2_with (first
    | (refine wpList_store_row rfl 84 (.tmp 7) (.tmp 13) rfl w4.heap.size #[.int .i64 0, .int .i64 0, .int .i64 0, .int .i64 0, .int .i64 0, .int .i64 0, .int .i64 0, .int .i64 0, .int .i64 0, .int .i64 0, .int .i64 0, .int .i64 0, .map none] rfl rfl 84 _ HZ.out HI13.out rfl (by simp [Value.oneCell']) ?_) | fail)
  first | go_ret2 | go_returns
  exact ⟨rfl, below_setRow (hB4.alloc hB4.size _) hB4.size _⟩

set_option maxRecDepth 100000 in
set_option maxHeartbeats 8000000 in
theorem partner_bad2 (s0 s1 s2 s3 s4 s5 s6 s7 s8 s9 s10 s11 n : Int) (HC : Hid (chkF [s0, s1, s2, s3, s4, s5, s6, s7, s8, s9, s10, s11] = 0)) (HN : Hid (chkH [n] = 3)) (w : World) :
    Calls Tryd.prog 9 #[.agg #[.int .i64 s0, .int .i64 s1, .int .i64 s2, .int .i64 s3, .int .i64 s4, .int .i64 s5, .int .i64 s6, .int .i64 s7, .int .i64 s8, .int .i64 s9, .int .i64 s10, .int .i64 s11], .int .i64 n] w fun e w' => e = .returned (.tuple #[.int .i64 0, .int .i64 0, .int .i64 3]) ∧ Below w.heap.size w w' := by
  have hX : Blk (w.alloc (.cells #[.int .i64 s0, .int .i64 s1, .int .i64 s2, .int .i64 s3, .int .i64 s4, .int .i64 s5, .int .i64 s6, .int .i64 s7, .int .i64 s8, .int .i64 s9, .int .i64 s10, .int .i64 s11] 24)) w.heap.size 24 #[.int .i64 s0, .int .i64 s1, .int .i64 s2, .int .i64 s3, .int .i64 s4, .int .i64 s5, .int .i64 s6, .int .i64 s7, .int .i64 s8, .int .i64 s9, .int .i64 s10, .int .i64 s11] := blk_newN _ _ rfl
  have c0 : (w.alloc (.cells #[.int .i64 s0, .int .i64 s1, .int .i64 s2, .int .i64 s3, .int .i64 s4, .int .i64 s5, .int .i64 s6, .int .i64 s7, .int .i64 s8, .int .i64 s9, .int .i64 s10, .int .i64 s11] 24)).cell? ⟨w.heap.size, 0, none⟩ = some (.int .i64 s0) := hX.cell 0
  have c1 : (w.alloc (.cells #[.int .i64 s0, .int .i64 s1, .int .i64 s2, .int .i64 s3, .int .i64 s4, .int .i64 s5, .int .i64 s6, .int .i64 s7, .int .i64 s8, .int .i64 s9, .int .i64 s10, .int .i64 s11] 24)).cell? ⟨w.heap.size, 1, none⟩ = some (.int .i64 s1) := hX.cell 1
  have c2 : (w.alloc (.cells #[.int .i64 s0, .int .i64 s1, .int .i64 s2, .int .i64 s3, .int .i64 s4, .int .i64 s5, .int .i64 s6, .int .i64 s7, .int .i64 s8, .int .i64 s9, .int .i64 s10, .int .i64 s11] 24)).cell? ⟨w.heap.size, 2, none⟩ = some (.int .i64 s2) := hX.cell 2
  have c3 : (w.alloc (.cells #[.int .i64 s0, .int .i64 s1, .int .i64 s2, .int .i64 s3, .int .i64 s4, .int .i64 s5, .int .i64 s6, .int .i64 s7, .int .i64 s8, .int .i64 s9, .int .i64 s10, .int .i64 s11] 24)).cell? ⟨w.heap.size, 3, none⟩ = some (.int .i64 s3) := hX.cell 3
  have c4 : (w.alloc (.cells #[.int .i64 s0, .int .i64 s1, .int .i64 s2, .int .i64 s3, .int .i64 s4, .int .i64 s5, .int .i64 s6, .int .i64 s7, .int .i64 s8, .int .i64 s9, .int .i64 s10, .int .i64 s11] 24)).cell? ⟨w.heap.size, 4, none⟩ = some (.int .i64 s4) := hX.cell 4
  have c5 : (w.alloc (.cells #[.int .i64 s0, .int .i64 s1, .int .i64 s2, .int .i64 s3, .int .i64 s4, .int .i64 s5, .int .i64 s6, .int .i64 s7, .int .i64 s8, .int .i64 s9, .int .i64 s10, .int .i64 s11] 24)).cell? ⟨w.heap.size, 5, none⟩ = some (.int .i64 s5) := hX.cell 5
  have c6 : (w.alloc (.cells #[.int .i64 s0, .int .i64 s1, .int .i64 s2, .int .i64 s3, .int .i64 s4, .int .i64 s5, .int .i64 s6, .int .i64 s7, .int .i64 s8, .int .i64 s9, .int .i64 s10, .int .i64 s11] 24)).cell? ⟨w.heap.size, 6, none⟩ = some (.int .i64 s6) := hX.cell 6
  have c7 : (w.alloc (.cells #[.int .i64 s0, .int .i64 s1, .int .i64 s2, .int .i64 s3, .int .i64 s4, .int .i64 s5, .int .i64 s6, .int .i64 s7, .int .i64 s8, .int .i64 s9, .int .i64 s10, .int .i64 s11] 24)).cell? ⟨w.heap.size, 7, none⟩ = some (.int .i64 s7) := hX.cell 7
  have c8 : (w.alloc (.cells #[.int .i64 s0, .int .i64 s1, .int .i64 s2, .int .i64 s3, .int .i64 s4, .int .i64 s5, .int .i64 s6, .int .i64 s7, .int .i64 s8, .int .i64 s9, .int .i64 s10, .int .i64 s11] 24)).cell? ⟨w.heap.size, 8, none⟩ = some (.int .i64 s8) := hX.cell 8
  have c9 : (w.alloc (.cells #[.int .i64 s0, .int .i64 s1, .int .i64 s2, .int .i64 s3, .int .i64 s4, .int .i64 s5, .int .i64 s6, .int .i64 s7, .int .i64 s8, .int .i64 s9, .int .i64 s10, .int .i64 s11] 24)).cell? ⟨w.heap.size, 9, none⟩ = some (.int .i64 s9) := hX.cell 9
  have c10 : (w.alloc (.cells #[.int .i64 s0, .int .i64 s1, .int .i64 s2, .int .i64 s3, .int .i64 s4, .int .i64 s5, .int .i64 s6, .int .i64 s7, .int .i64 s8, .int .i64 s9, .int .i64 s10, .int .i64 s11] 24)).cell? ⟨w.heap.size, 10, none⟩ = some (.int .i64 s10) := hX.cell 10
  have c11 : (w.alloc (.cells #[.int .i64 s0, .int .i64 s1, .int .i64 s2, .int .i64 s3, .int .i64 s4, .int .i64 s5, .int .i64 s6, .int .i64 s7, .int .i64 s8, .int .i64 s9, .int .i64 s10, .int .i64 s11] 24)).cell? ⟨w.heap.size, 11, none⟩ = some (.int .i64 s11) := hX.cell 11
  go_enter Tryd.func9, Tryd.ntmps9
  go_wp2_with fail
  clear c0 c1 c2 c3 c4 c5 c6 c7 c8 c9 c10 c11
  refine (enter_bad2 s0 s1 s2 s3 s4 s5 s6 s7 s8 s9 s10 s11 n HC HN _ _ _ (Blk.reads (xs := [n]) (blk_newN 3 _ (by simp)))).mono ?_
  rintro e w4 ⟨rfl, hb4⟩
  have hB4 : Below w.heap.size w w4 := ((((Below.refl _ _).alloc (Nat.le_refl _) _).alloc (by simp) _).trans (hb4.mono (by simp; omega)))
  clear hb4 hX
  have HI13 := Lib.hid (show (Tryd.prog.info? 84).map (·.size) = some (#[.int .i64 0, .int .i64 0, .int .i64 0, .int .i64 0, .int .i64 0, .int .i64 0, .int .i64 0, .int .i64 0, .int .i64 0, .int .i64 0, .int .i64 0, .int .i64 0, .map none] : Array Value).size from info_circle)
  have HZ := Lib.hid (show Blk (w4.alloc (.cells #[.int .i64 0, .int .i64 0, .int .i64 0, .int .i64 0, .int .i64 0, .int .i64 0, .int .i64 0, .int .i64 0, .int .i64 0, .int .i64 0, .int .i64 0, .int .i64 0, .map none] 84)) w4.heap.size 84 #[.int .i64 0, .int .i64 0, .int .i64 0, .int .i64 0, .int .i64 0, .int .i64 0, .int .i64 0, .int .i64 0, .int .i64 0, .int .i64 0, .int .i64 0, .int .i64 0, .map none] from blk_newN _ _ rfl)
  go_wp2_with (first
    | (refine wpList_store_row rfl 84 (.tmp 7) (.tmp 13) rfl w4.heap.size #[.int .i64 0, .int .i64 0, .int .i64 0, .int .i64 0, .int .i64 0, .int .i64 0, .int .i64 0, .int .i64 0, .int .i64 0, .int .i64 0, .int .i64 0, .int .i64 0, .map none] rfl rfl 84 _ HZ.out HI13.out rfl (by simp [Value.oneCell']) ?_) | fail)
  first | go_ret2 | go_returns
  exact ⟨rfl, below_setRow (hB4.alloc hB4.size _) hB4.size _⟩
end Go.Proofs.YtdnccdobnhbpeaaDoor

namespace Go.Proofs.YtdnccdobnhbpeaaDoor
open Go Go.RowKit
set_option linter.unusedVariables false

set_option maxRecDepth 100000 in
set_option maxHeartbeats 8000000 in
theorem partner_ok (s0 s1 s2 s3 s4 s5 s6 s7 s8 s9 s10 s11 : Int) (k : Nat) (hk : k < 12) (HC : Hid (chkF [s0, s1, s2, s3, s4, s5, s6, s7, s8, s9, s10, s11] = 0)) (HN : Hid (chkH [(k : Int) + 1] = 0)) (w : World) (h7 : 6 ≤ w.heap.size) (hr : Rul w) :
    Calls Tryd.prog 9 #[.agg #[.int .i64 s0, .int .i64 s1, .int .i64 s2, .int .i64 s3, .int .i64 s4, .int .i64 s5, .int .i64 s6, .int .i64 s7, .int .i64 s8, .int .i64 s9, .int .i64 s10, .int .i64 s11], .int .i64 ((k : Int) + 1)] w fun e w' => e = .returned (.tuple #[.int .i64 (partN (k + 1) : Nat), .int .i64 (Int.ofNat (compN (nth [s0, s1, s2, s3, s4, s5, s6, s7, s8, s9, s10, s11] k).toNat (nth [s0, s1, s2, s3, s4, s5, s6, s7, s8, s9, s10, s11] (partN (k + 1) - 1)).toNat)), .int .i64 0]) ∧ Below w.heap.size w w' := by
  have hX : Blk (w.alloc (.cells #[.int .i64 s0, .int .i64 s1, .int .i64 s2, .int .i64 s3, .int .i64 s4, .int .i64 s5, .int .i64 s6, .int .i64 s7, .int .i64 s8, .int .i64 s9, .int .i64 s10, .int .i64 s11] 24)) w.heap.size 24 #[.int .i64 s0, .int .i64 s1, .int .i64 s2, .int .i64 s3, .int .i64 s4, .int .i64 s5, .int .i64 s6, .int .i64 s7, .int .i64 s8, .int .i64 s9, .int .i64 s10, .int .i64 s11] := blk_newN _ _ rfl
  have c0 : (w.alloc (.cells #[.int .i64 s0, .int .i64 s1, .int .i64 s2, .int .i64 s3, .int .i64 s4, .int .i64 s5, .int .i64 s6, .int .i64 s7, .int .i64 s8, .int .i64 s9, .int .i64 s10, .int .i64 s11] 24)).cell? ⟨w.heap.size, 0, none⟩ = some (.int .i64 s0) := hX.cell 0
  have c1 : (w.alloc (.cells #[.int .i64 s0, .int .i64 s1, .int .i64 s2, .int .i64 s3, .int .i64 s4, .int .i64 s5, .int .i64 s6, .int .i64 s7, .int .i64 s8, .int .i64 s9, .int .i64 s10, .int .i64 s11] 24)).cell? ⟨w.heap.size, 1, none⟩ = some (.int .i64 s1) := hX.cell 1
  have c2 : (w.alloc (.cells #[.int .i64 s0, .int .i64 s1, .int .i64 s2, .int .i64 s3, .int .i64 s4, .int .i64 s5, .int .i64 s6, .int .i64 s7, .int .i64 s8, .int .i64 s9, .int .i64 s10, .int .i64 s11] 24)).cell? ⟨w.heap.size, 2, none⟩ = some (.int .i64 s2) := hX.cell 2
  have c3 : (w.alloc (.cells #[.int .i64 s0, .int .i64 s1, .int .i64 s2, .int .i64 s3, .int .i64 s4, .int .i64 s5, .int .i64 s6, .int .i64 s7, .int .i64 s8, .int .i64 s9, .int .i64 s10, .int .i64 s11] 24)).cell? ⟨w.heap.size, 3, none⟩ = some (.int .i64 s3) := hX.cell 3
  have c4 : (w.alloc (.cells #[.int .i64 s0, .int .i64 s1, .int .i64 s2, .int .i64 s3, .int .i64 s4, .int .i64 s5, .int .i64 s6, .int .i64 s7, .int .i64 s8, .int .i64 s9, .int .i64 s10, .int .i64 s11] 24)).cell? ⟨w.heap.size, 4, none⟩ = some (.int .i64 s4) := hX.cell 4
  have c5 : (w.alloc (.cells #[.int .i64 s0, .int .i64 s1, .int .i64 s2, .int .i64 s3, .int .i64 s4, .int .i64 s5, .int .i64 s6, .int .i64 s7, .int .i64 s8, .int .i64 s9, .int .i64 s10, .int .i64 s11] 24)).cell? ⟨w.heap.size, 5, none⟩ = some (.int .i64 s5) := hX.cell 5
  have c6 : (w.alloc (.cells #[.int .i64 s0, .int .i64 s1, .int .i64 s2, .int .i64 s3, .int .i64 s4, .int .i64 s5, .int .i64 s6, .int .i64 s7, .int .i64 s8, .int .i64 s9, .int .i64 s10, .int .i64 s11] 24)).cell? ⟨w.heap.size, 6, none⟩ = some (.int .i64 s6) := hX.cell 6
  have c7 : (w.alloc (.cells #[.int .i64 s0, .int .i64 s1, .int .i64 s2, .int .i64 s3, .int .i64 s4, .int .i64 s5, .int .i64 s6, .int .i64 s7, .int .i64 s8, .int .i64 s9, .int .i64 s10, .int .i64 s11] 24)).cell? ⟨w.heap.size, 7, none⟩ = some (.int .i64 s7) := hX.cell 7
  have c8 : (w.alloc (.cells #[.int .i64 s0, .int .i64 s1, .int .i64 s2, .int .i64 s3, .int .i64 s4, .int .i64 s5, .int .i64 s6, .int .i64 s7, .int .i64 s8, .int .i64 s9, .int .i64 s10, .int .i64 s11] 24)).cell? ⟨w.heap.size, 8, none⟩ = some (.int .i64 s8) := hX.cell 8
  have c9 : (w.alloc (.cells #[.int .i64 s0, .int .i64 s1, .int .i64 s2, .int .i64 s3, .int .i64 s4, .int .i64 s5, .int .i64 s6, .int .i64 s7, .int .i64 s8, .int .i64 s9, .int .i64 s10, .int .i64 s11] 24)).cell? ⟨w.heap.size, 9, none⟩ = some (.int .i64 s9) := hX.cell 9
  have c10 : (w.alloc (.cells #[.int .i64 s0, .int .i64 s1, .int .i64 s2, .int .i64 s3, .int .i64 s4, .int .i64 s5, .int .i64 s6, .int .i64 s7, .int .i64 s8, .int .i64 s9, .int .i64 s10, .int .i64 s11] 24)).cell? ⟨w.heap.size, 10, none⟩ = some (.int .i64 s10) := hX.cell 10
  have c11 : (w.alloc (.cells #[.int .i64 s0, .int .i64 s1, .int .i64 s2, .int .i64 s3, .int .i64 s4, .int .i64 s5, .int .i64 s6, .int .i64 s7, .int .i64 s8, .int .i64 s9, .int .i64 s10, .int .i64 s11] 24)).cell? ⟨w.heap.size, 11, none⟩ = some (.int .i64 s11) := hX.cell 11
  go_enter Tryd.func9, Tryd.ntmps9
  go_wp2_with fail
  clear c0 c1 c2 c3 c4 c5 c6 c7 c8 c9 c10 c11
  refine (enter_ok s0 s1 s2 s3 s4 s5 s6 s7 s8 s9 s10 s11 ((k : Int) + 1) HC HN _ _ _ (Blk.reads (xs := [(k : Int) + 1]) (blk_newN 3 _ (by simp)))).mono ?_
  rintro e w4 ⟨base, mb, D, rfl, hmb, hog, hat, hb4⟩
  have hB4 : Below w.heap.size w w4 := ((((Below.refl _ _).alloc (Nat.le_refl _) _).alloc (by simp) _).trans (hb4.mono (by simp; omega)))
  clear hb4 hX
  have HI13 := Lib.hid (show (Tryd.prog.info? 84).map (·.size) = some (#[.int .i64 s0, .int .i64 s1, .int .i64 s2, .int .i64 s3, .int .i64 s4, .int .i64 s5, .int .i64 s6, .int .i64 s7, .int .i64 s8, .int .i64 s9, .int .i64 s10, .int .i64 s11, .map (some mb)] : Array Value).size from info_circle)
  have HZ := Lib.hid (show Blk (w4.alloc (.cells #[.int .i64 0, .int .i64 0, .int .i64 0, .int .i64 0, .int .i64 0, .int .i64 0, .int .i64 0, .int .i64 0, .int .i64 0, .int .i64 0, .int .i64 0, .int .i64 0, .map none] 84)) w4.heap.size 84 #[.int .i64 0, .int .i64 0, .int .i64 0, .int .i64 0, .int .i64 0, .int .i64 0, .int .i64 0, .int .i64 0, .int .i64 0, .int .i64 0, .int .i64 0, .int .i64 0, .map none] from blk_newN _ _ rfl)
  have e1 : IntKind.i64.wrap ((k : Int) + 1 - 1) = (k : Int) := by
    rw [Int.add_sub_cancel]
    exact IntWalk.i64_in _ (by omega)
  by_cases hp : ((k : Int) + 1) % 2 = 1
  · have hq : (((k : Int) + 1) % 2 == 1) = true := by simp [hp]
    have e2 : IntKind.i64.wrap (((k : Int) + 1) % 2) = 1 := by rw [hp]; rfl
    go_wp2_with (first
      | (refine wpList_store_row rfl 84 (.tmp 7) (.tmp 13) rfl w4.heap.size #[.int .i64 s0, .int .i64 s1, .int .i64 s2, .int .i64 s3, .int .i64 s4, .int .i64 s5, .int .i64 s6, .int .i64 s7, .int .i64 s8, .int .i64 s9, .int .i64 s10, .int .i64 s11, .map (some mb)] rfl rfl 84 _ HZ.out HI13.out rfl (by simp [Value.oneCell']) ?_) | fail)
    generalize hW5 : World.setRow _ _ _ = W5
    have hst : Blk W5 w4.heap.size 84 #[.int .i64 s0, .int .i64 s1, .int .i64 s2, .int .i64 s3, .int .i64 s4, .int .i64 s5, .int .i64 s6, .int .i64 s7, .int .i64 s8, .int .i64 s9, .int .i64 s10, .int .i64 s11, .map (some mb)] := by rw [← hW5]; exact HZ.out.row _
    have hB5 : Below w.heap.size w W5 := by rw [← hW5]; exact below_setRow (hB4.alloc hB4.size _) hB4.size _
    clear hW5 HZ hog hat hB4
    have hF := fun j (hj : j < 12) => chkF_zero HC.out j hj
    refine partner_region _ _ _ _ _ _ _ _ _ _ _ _ _ _ _ _ _ _ _ _ _ _ _ _ _ _ _ _ _ _ s0 s1 s2 s3 s4 s5 s6 s7 s8 s9 s10 s11 (some mb) k (k + 1) w4.heap.size _ _ _ hk (by omega) rfl rfl (hF _ hk) (hF _ (by omega)) rfl W5 (Nat.le_trans h7 hB5.size) (hr.below hB5 (Nat.le_refl _)) hst ?_
    intro V1 hb
    have hB6 := tr hB5 hb
    have HPN := Lib.hid (show partN (k + 1) = (k + 1) + 1 by unfold partN; split <;> omega)
    go_wp2
    first | go_ret2 | go_returns
    exact ⟨by rw [HPN.out]; rfl, hB6⟩
  · obtain ⟨j, rfl⟩ : ∃ j, k = j + 1 := ⟨k - 1, by omega⟩
    have hq : ((((j + 1 : Nat) : Int) + 1) % 2 == 1) = false := by simp; omega
    have hq0 : (((j + 1 : Nat) : Int) + 1) % 2 = 0 := by omega
    go_wp2_with (first
      | (refine wpList_store_row rfl 84 (.tmp 7) (.tmp 13) rfl w4.heap.size #[.int .i64 s0, .int .i64 s1, .int .i64 s2, .int .i64 s3, .int .i64 s4, .int .i64 s5, .int .i64 s6, .int .i64 s7, .int .i64 s8, .int .i64 s9, .int .i64 s10, .int .i64 s11, .map (some mb)] rfl rfl 84 _ HZ.out HI13.out rfl (by simp [Value.oneCell']) ?_) | fail)
    generalize hW5 : World.setRow _ _ _ = W5
    have hst : Blk W5 w4.heap.size 84 #[.int .i64 s0, .int .i64 s1, .int .i64 s2, .int .i64 s3, .int .i64 s4, .int .i64 s5, .int .i64 s6, .int .i64 s7, .int .i64 s8, .int .i64 s9, .int .i64 s10, .int .i64 s11, .map (some mb)] := by rw [← hW5]; exact HZ.out.row _
    have hB5 : Below w.heap.size w W5 := by rw [← hW5]; exact below_setRow (hB4.alloc hB4.size _) hB4.size _
    clear hW5 HZ hog hat hB4
    have hF := fun j (hj : j < 12) => chkF_zero HC.out j hj
    refine partner_region _ _ _ _ _ _ _ _ _ _ _ _ _ _ _ _ _ _ _ _ _ _ _ _ _ _ _ _ _ _ s0 s1 s2 s3 s4 s5 s6 s7 s8 s9 s10 s11 (some mb) (j + 1) j w4.heap.size _ _ _ hk (by omega) rfl rfl (hF _ hk) (hF _ (by omega)) rfl W5 (Nat.le_trans h7 hB5.size) (hr.below hB5 (Nat.le_refl _)) hst ?_
    intro V1 hb
    have hB6 := tr hB5 hb
    have HPN := Lib.hid (show partN ((j + 1) + 1) = j + 1 by unfold partN; split <;> omega)
    go_wp2
    first | go_ret2 | go_returns
    exact ⟨by rw [HPN.out]; rfl, hB6⟩
end Go.Proofs.YtdnccdobnhbpeaaDoor

