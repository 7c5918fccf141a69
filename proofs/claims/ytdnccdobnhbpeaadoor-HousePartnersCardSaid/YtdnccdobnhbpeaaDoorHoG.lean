/-
  How two figures go together: all pairs, by runs: the contracts.
-/
import Derived.Test.YtdnccdobnhbpeaaDoorHoG1
import Derived.Test.YtdnccdobnhbpeaaDoorHoG2
import Derived.Test.YtdnccdobnhbpeaaDoorHoG3
namespace Go.Proofs.YtdnccdobnhbpeaaDoor
open Go Go.RowKit
set_option linter.unusedVariables false


theorem comp_all : ∀ f, f < 16 → ((List.range 16).all fun g => isI (Int.ofNat (compN f g)) (Ev.lstartT Tryd.prog 6 [rulT] 4000 35 [.int .i64 (Int.ofNat f), .int .i64 (Int.ofNat g)])) = true := fun f hf => by
  have : f = 0 ∨ f = 1 ∨ f = 2 ∨ f = 3 ∨ f = 4 ∨ f = 5 ∨ f = 6 ∨ f = 7 ∨ f = 8 ∨ f = 9 ∨ f = 10 ∨ f = 11 ∨ f = 12 ∨ f = 13 ∨ f = 14 ∨ f = 15 := by omega
  rcases this with rfl | rfl | rfl | rfl | rfl | rfl | rfl | rfl | rfl | rfl | rfl | rfl | rfl | rfl | rfl | rfl
  · exact comp_run0
  · exact comp_run1
  · exact comp_run2
  · exact comp_run3
  · exact comp_run4
  · exact comp_run5
  · exact comp_run6
  · exact comp_run7
  · exact comp_run8
  · exact comp_run9
  · exact comp_run10
  · exact comp_run11
  · exact comp_run12
  · exact comp_run13
  · exact comp_run14
  · exact comp_run15
theorem refComp_all : ∀ f, f < 16 → ((List.range 16).all fun g => isI (Int.ofNat (compN f g)) (Ev.lstartT Tryd.prog 6 [] 4000 16 [.int .i64 (Int.ofNat f), .int .i64 (Int.ofNat g)])) = true := fun f hf => by
  have : f = 0 ∨ f = 1 ∨ f = 2 ∨ f = 3 ∨ f = 4 ∨ f = 5 ∨ f = 6 ∨ f = 7 ∨ f = 8 ∨ f = 9 ∨ f = 10 ∨ f = 11 ∨ f = 12 ∨ f = 13 ∨ f = 14 ∨ f = 15 := by omega
  rcases this with rfl | rfl | rfl | rfl | rfl | rfl | rfl | rfl | rfl | rfl | rfl | rfl | rfl | rfl | rfl | rfl
  · exact refComp_run0
  · exact refComp_run1
  · exact refComp_run2
  · exact refComp_run3
  · exact refComp_run4
  · exact refComp_run5
  · exact refComp_run6
  · exact refComp_run7
  · exact refComp_run8
  · exact refComp_run9
  · exact refComp_run10
  · exact refComp_run11
  · exact refComp_run12
  · exact refComp_run13
  · exact refComp_run14
  · exact refComp_run15
theorem company_any (f g : Int) (hf : Fig f) (hg : Fig g) (w : World) (hw : 6 ≤ w.heap.size) (hr : Rul w) :
    Calls Tryd.prog 35 #[.int .i64 f, .int .i64 g] w fun e w' => e = .returned (.int .i64 (Int.ofNat (compN f.toNat g.toNat))) ∧ Below w.heap.size w w' := by
  obtain ⟨m, hm, rfl⟩ := fig_nat hf
  obtain ⟨n, hn, rfl⟩ := fig_nat hg
  have := comp_all m hm
  simp only [List.all_eq_true, List.mem_range] at this
  exact run_I follows_mixed (this n hn) (by decide) hw (one_tab hr)
theorem refCompany_any (f g : Int) (hf : Fig f) (hg : Fig g) (w : World) (hw : 6 ≤ w.heap.size) :
    Calls Tryd.prog 16 #[.int .i64 f, .int .i64 g] w fun e w' => e = .returned (.int .i64 (Int.ofNat (compN f.toNat g.toNat))) ∧ Below w.heap.size w w' := by
  obtain ⟨m, hm, rfl⟩ := fig_nat hf
  obtain ⟨n, hn, rfl⟩ := fig_nat hg
  have := refComp_all m hm
  simp only [List.all_eq_true, List.mem_range] at this
  exact run_I follows_mixed (this n hn) (by decide) hw no_tabs
end Go.Proofs.YtdnccdobnhbpeaaDoor
