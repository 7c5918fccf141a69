/-
  How two figures go together: all pairs, by runs: figures 11 to 15.
-/
import Derived.Test.YtdnccdobnhbpeaaDoorHoG0
namespace Go.Proofs.YtdnccdobnhbpeaaDoor
open Go Go.RowKit
set_option linter.unusedVariables false

theorem comp_run11 : ((List.range 16).all fun g => isI (Int.ofNat (compN 11 g)) (Ev.lstartT Tryd.prog 6 [rulT] 4000 35 [.int .i64 (Int.ofNat 11), .int .i64 (Int.ofNat g)])) = true := by kernel_rfl
theorem refComp_run11 : ((List.range 16).all fun g => isI (Int.ofNat (compN 11 g)) (Ev.lstartT Tryd.prog 6 [] 4000 16 [.int .i64 (Int.ofNat 11), .int .i64 (Int.ofNat g)])) = true := by kernel_rfl
theorem comp_run12 : ((List.range 16).all fun g => isI (Int.ofNat (compN 12 g)) (Ev.lstartT Tryd.prog 6 [rulT] 4000 35 [.int .i64 (Int.ofNat 12), .int .i64 (Int.ofNat g)])) = true := by kernel_rfl
theorem refComp_run12 : ((List.range 16).all fun g => isI (Int.ofNat (compN 12 g)) (Ev.lstartT Tryd.prog 6 [] 4000 16 [.int .i64 (Int.ofNat 12), .int .i64 (Int.ofNat g)])) = true := by kernel_rfl
theorem comp_run13 : ((List.range 16).all fun g => isI (Int.ofNat (compN 13 g)) (Ev.lstartT Tryd.prog 6 [rulT] 4000 35 [.int .i64 (Int.ofNat 13), .int .i64 (Int.ofNat g)])) = true := by kernel_rfl
theorem refComp_run13 : ((List.range 16).all fun g => isI (Int.ofNat (compN 13 g)) (Ev.lstartT Tryd.prog 6 [] 4000 16 [.int .i64 (Int.ofNat 13), .int .i64 (Int.ofNat g)])) = true := by kernel_rfl
theorem comp_run14 : ((List.range 16).all fun g => isI (Int.ofNat (compN 14 g)) (Ev.lstartT Tryd.prog 6 [rulT] 4000 35 [.int .i64 (Int.ofNat 14), .int .i64 (Int.ofNat g)])) = true := by kernel_rfl
theorem refComp_run14 : ((List.range 16).all fun g => isI (Int.ofNat (compN 14 g)) (Ev.lstartT Tryd.prog 6 [] 4000 16 [.int .i64 (Int.ofNat 14), .int .i64 (Int.ofNat g)])) = true := by kernel_rfl
theorem comp_run15 : ((List.range 16).all fun g => isI (Int.ofNat (compN 15 g)) (Ev.lstartT Tryd.prog 6 [rulT] 4000 35 [.int .i64 (Int.ofNat 15), .int .i64 (Int.ofNat g)])) = true := by kernel_rfl
theorem refComp_run15 : ((List.range 16).all fun g => isI (Int.ofNat (compN 15 g)) (Ev.lstartT Tryd.prog 6 [] 4000 16 [.int .i64 (Int.ofNat 15), .int .i64 (Int.ofNat g)])) = true := by kernel_rfl
end Go.Proofs.YtdnccdobnhbpeaaDoor
