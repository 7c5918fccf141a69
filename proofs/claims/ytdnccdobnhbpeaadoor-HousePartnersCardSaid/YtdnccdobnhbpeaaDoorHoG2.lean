/-
  How two figures go together: all pairs, by runs: figures 6 to 10.
-/
import Derived.Test.YtdnccdobnhbpeaaDoorHoG0
namespace Go.Proofs.YtdnccdobnhbpeaaDoor
open Go Go.RowKit
set_option linter.unusedVariables false

theorem comp_run6 : ((List.range 16).all fun g => isI (Int.ofNat (compN 6 g)) (Ev.lstartT Tryd.prog 6 [rulT] 4000 35 [.int .i64 (Int.ofNat 6), .int .i64 (Int.ofNat g)])) = true := by kernel_rfl
theorem refComp_run6 : ((List.range 16).all fun g => isI (Int.ofNat (compN 6 g)) (Ev.lstartT Tryd.prog 6 [] 4000 16 [.int .i64 (Int.ofNat 6), .int .i64 (Int.ofNat g)])) = true := by kernel_rfl
theorem comp_run7 : ((List.range 16).all fun g => isI (Int.ofNat (compN 7 g)) (Ev.lstartT Tryd.prog 6 [rulT] 4000 35 [.int .i64 (Int.ofNat 7), .int .i64 (Int.ofNat g)])) = true := by kernel_rfl
theorem refComp_run7 : ((List.range 16).all fun g => isI (Int.ofNat (compN 7 g)) (Ev.lstartT Tryd.prog 6 [] 4000 16 [.int .i64 (Int.ofNat 7), .int .i64 (Int.ofNat g)])) = true := by kernel_rfl
theorem comp_run8 : ((List.range 16).all fun g => isI (Int.ofNat (compN 8 g)) (Ev.lstartT Tryd.prog 6 [rulT] 4000 35 [.int .i64 (Int.ofNat 8), .int .i64 (Int.ofNat g)])) = true := by kernel_rfl
theorem refComp_run8 : ((List.range 16).all fun g => isI (Int.ofNat (compN 8 g)) (Ev.lstartT Tryd.prog 6 [] 4000 16 [.int .i64 (Int.ofNat 8), .int .i64 (Int.ofNat g)])) = true := by kernel_rfl
theorem comp_run9 : ((List.range 16).all fun g => isI (Int.ofNat (compN 9 g)) (Ev.lstartT Tryd.prog 6 [rulT] 4000 35 [.int .i64 (Int.ofNat 9), .int .i64 (Int.ofNat g)])) = true := by kernel_rfl
theorem refComp_run9 : ((List.range 16).all fun g => isI (Int.ofNat (compN 9 g)) (Ev.lstartT Tryd.prog 6 [] 4000 16 [.int .i64 (Int.ofNat 9), .int .i64 (Int.ofNat g)])) = true := by kernel_rfl
theorem comp_run10 : ((List.range 16).all fun g => isI (Int.ofNat (compN 10 g)) (Ev.lstartT Tryd.prog 6 [rulT] 4000 35 [.int .i64 (Int.ofNat 10), .int .i64 (Int.ofNat g)])) = true := by kernel_rfl
theorem refComp_run10 : ((List.range 16).all fun g => isI (Int.ofNat (compN 10 g)) (Ev.lstartT Tryd.prog 6 [] 4000 16 [.int .i64 (Int.ofNat 10), .int .i64 (Int.ofNat g)])) = true := by kernel_rfl
end Go.Proofs.YtdnccdobnhbpeaaDoor
