/-
  How two figures go together: all pairs, by runs: figures 0 to 5.
-/
import Derived.Test.YtdnccdobnhbpeaaDoorHoG0
namespace Go.Proofs.YtdnccdobnhbpeaaDoor
open Go Go.RowKit
set_option linter.unusedVariables false

theorem comp_run0 : ((List.range 16).all fun g => isI (Int.ofNat (compN 0 g)) (Ev.lstartT Tryd.prog 6 [rulT] 4000 35 [.int .i64 (Int.ofNat 0), .int .i64 (Int.ofNat g)])) = true := by kernel_rfl
theorem refComp_run0 : ((List.range 16).all fun g => isI (Int.ofNat (compN 0 g)) (Ev.lstartT Tryd.prog 6 [] 4000 16 [.int .i64 (Int.ofNat 0), .int .i64 (Int.ofNat g)])) = true := by kernel_rfl
theorem comp_run1 : ((List.range 16).all fun g => isI (Int.ofNat (compN 1 g)) (Ev.lstartT Tryd.prog 6 [rulT] 4000 35 [.int .i64 (Int.ofNat 1), .int .i64 (Int.ofNat g)])) = true := by kernel_rfl
theorem refComp_run1 : ((List.range 16).all fun g => isI (Int.ofNat (compN 1 g)) (Ev.lstartT Tryd.prog 6 [] 4000 16 [.int .i64 (Int.ofNat 1), .int .i64 (Int.ofNat g)])) = true := by kernel_rfl
theorem comp_run2 : ((List.range 16).all fun g => isI (Int.ofNat (compN 2 g)) (Ev.lstartT Tryd.prog 6 [rulT] 4000 35 [.int .i64 (Int.ofNat 2), .int .i64 (Int.ofNat g)])) = true := by kernel_rfl
theorem refComp_run2 : ((List.range 16).all fun g => isI (Int.ofNat (compN 2 g)) (Ev.lstartT Tryd.prog 6 [] 4000 16 [.int .i64 (Int.ofNat 2), .int .i64 (Int.ofNat g)])) = true := by kernel_rfl
theorem comp_run3 : ((List.range 16).all fun g => isI (Int.ofNat (compN 3 g)) (Ev.lstartT Tryd.prog 6 [rulT] 4000 35 [.int .i64 (Int.ofNat 3), .int .i64 (Int.ofNat g)])) = true := by kernel_rfl
theorem refComp_run3 : ((List.range 16).all fun g => isI (Int.ofNat (compN 3 g)) (Ev.lstartT Tryd.prog 6 [] 4000 16 [.int .i64 (Int.ofNat 3), .int .i64 (Int.ofNat g)])) = true := by kernel_rfl
theorem comp_run4 : ((List.range 16).all fun g => isI (Int.ofNat (compN 4 g)) (Ev.lstartT Tryd.prog 6 [rulT] 4000 35 [.int .i64 (Int.ofNat 4), .int .i64 (Int.ofNat g)])) = true := by kernel_rfl
theorem refComp_run4 : ((List.range 16).all fun g => isI (Int.ofNat (compN 4 g)) (Ev.lstartT Tryd.prog 6 [] 4000 16 [.int .i64 (Int.ofNat 4), .int .i64 (Int.ofNat g)])) = true := by kernel_rfl
theorem comp_run5 : ((List.range 16).all fun g => isI (Int.ofNat (compN 5 g)) (Ev.lstartT Tryd.prog 6 [rulT] 4000 35 [.int .i64 (Int.ofNat 5), .int .i64 (Int.ofNat g)])) = true := by kernel_rfl
theorem refComp_run5 : ((List.range 16).all fun g => isI (Int.ofNat (compN 5 g)) (Ev.lstartT Tryd.prog 6 [] 4000 16 [.int .i64 (Int.ofNat 5), .int .i64 (Int.ofNat g)])) = true := by kernel_rfl
end Go.Proofs.YtdnccdobnhbpeaaDoor
