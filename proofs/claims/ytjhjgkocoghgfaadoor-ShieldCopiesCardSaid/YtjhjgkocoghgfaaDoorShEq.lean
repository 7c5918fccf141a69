/-
  Repairs, compared.
-/
import Derived.Test.YtjhjgkocoghgfaaDoorShMd
import Derived.Test.YtjhjgkocoghgfaaDoorShQ
import Derived.Laws.StructEq
namespace Go.Proofs.YtjhjgkocoghgfaaDoor
open Go Go.RowKit
set_option linter.unusedVariables false

theorem guard_rep : Tryd.prog.eqGuardType Tryd.prog.depth 30 = false := by kernel_rfl
set_option maxRecDepth 100000 in
set_option maxHeartbeats 2000000 in
theorem eq_rep (a b c0 c1 c2 c3 c4 c5 c6 c7 c8 c9 c10 c11 c12 c13 c14 c15 : Int) (w : World) :
    (Op.equalIn 10000 30 (.agg (arr [a, b, c0, c1, c2, c3, c4, c5, c6, c7, c8, c9, c10, c11, c12, c13, c14, c15])) (.agg (arr [a, b, c0, c1, c2, c3, c4, c5, c6, c7, c8, c9, c10, c11, c12, c13, c14, c15]))).run Tryd.prog w = .ok true w := by
  have ht : Tryd.prog.underlying 30 = some (.struct (Tryd.prog.fieldsOf 30)) := by kernel_rfl
  have hp : Tryd.prog.stoodInHeld 30 = false := by kernel_rfl
  rw [run_equalIn_struct w 9999 30 _ _ ht hp]
  have hp1 : ((Tryd.prog.fieldsOf 30).toList.map fun f => (f.type, f.offset, f.name == "_")) = [(3, 0, false), (3, 1, false), (24, 2, false)] := by kernel_rfl
  generalize (Tryd.prog.fieldsOf 30).toList = fs at hp1 ⊢
  obtain ⟨f0, f1, f2, rfl⟩ : ∃ f0 f1 f2, fs = [f0, f1, f2] := by
    have h3 := congrArg List.length hp1
    simp only [List.length_map, List.length_cons, List.length_nil] at h3
    match fs, h3 with
    | [a, b, c], _ => exact ⟨a, b, c, rfl⟩
  simp only [List.map_cons, List.map_nil, List.cons.injEq, Prod.mk.injEq, and_true] at hp1
  obtain ⟨⟨a1, a2, a3⟩, ⟨b1, b2, b3⟩, ⟨d1, d2, d3⟩⟩ := hp1
  have x0 := run_equalIn_int w 9998 3 .i64 .i64 a a (P := Tryd.prog) (by kernel_rfl)
  have x1 := run_equalIn_int w 9998 3 .i64 .i64 b b (P := Tryd.prog) (by kernel_rfl)
  have x2 := run_equalIn_ints w 9997 24 22 16 Tryd.underlying24 Tryd.underlying22 info_fig [c0, c1, c2, c3, c4, c5, c6, c7, c8, c9, c10, c11, c12, c13, c14, c15] [c0, c1, c2, c3, c4, c5, c6, c7, c8, c9, c10, c11, c12, c13, c14, c15] rfl rfl
  have p0 : ∀ W, (part 3 (arr [a, b, c0, c1, c2, c3, c4, c5, c6, c7, c8, c9, c10, c11, c12, c13, c14, c15]) 0).run Tryd.prog W = .ok (.int .i64 a) W := fun W => by
    simp [part, isAgg, run_underlying (show Tryd.prog.underlying 3 = some (.int .i64) by kernel_rfl), Sem.run_bind, arr]
  have p1 : ∀ W, (part 3 (arr [a, b, c0, c1, c2, c3, c4, c5, c6, c7, c8, c9, c10, c11, c12, c13, c14, c15]) 1).run Tryd.prog W = .ok (.int .i64 b) W := fun W => by
    simp [part, isAgg, run_underlying (show Tryd.prog.underlying 3 = some (.int .i64) by kernel_rfl), Sem.run_bind, arr]
  have p2 : ∀ W, (part 24 (arr [a, b, c0, c1, c2, c3, c4, c5, c6, c7, c8, c9, c10, c11, c12, c13, c14, c15]) 2).run Tryd.prog W = .ok (.agg (arr [c0, c1, c2, c3, c4, c5, c6, c7, c8, c9, c10, c11, c12, c13, c14, c15])) W := fun W => by
    simp [part, isAgg, run_underlying Tryd.underlying24, Sem.run_bind]
    rfl
  have n0 : f0.name ≠ "_" := by simpa using a3
  have n1 : f1.name ≠ "_" := by simpa using b3
  have n2 : f2.name ≠ "_" := by simpa using d3
  simp only [Op.eqFields, a1, a2, b1, b2, d1, d2, Sem.run_bind, Sem.run_ite, p0, p1, p2, x0, x1, x2, Result.andThen_ok, if_pos n0, if_pos n1, if_pos n2]
  simp
end Go.Proofs.YtjhjgkocoghgfaaDoor
