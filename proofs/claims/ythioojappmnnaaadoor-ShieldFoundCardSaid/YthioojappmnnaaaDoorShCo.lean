/-
  Package shield: Count.
-/
import Derived.Test.YthioojappmnnaaaDoorShCn
namespace Go.Proofs.YthioojappmnnaaaDoor
open Go Go.RowKit Go.Shelf
set_option linter.unusedVariables false
attribute [local go_sem] Oper.semAt_some

/-- What the iterator yields. -/
def encC (x : Nat) : Array Value := #[Value.agg (arr (nibs x)), Value.agg (arr (chV x))]
theorem charts_stops' (n : Nat) (hn : 1 ≤ n) (n₀ : Nat) (w : World) (hn₀ : n₀ ≤ w.heap.size) (hg : ∀ W', Below n₀ w W' → Par W') :
    SeqStopsK Fence.wide n Tryd.prog 20 #[] encC (Below n₀) (fun ys => ys = upto id 65536) (fun pre => ∃ k, k ≤ 65536 ∧ pre = upto id k) 65536 w :=
  charts_stops n hn n₀ w hn₀ hg
theorem blk_kept {W W' : World} {B : Nat} {t : TypeId} {cs : Array Value} {row : Option Nat} (h : W.heap[B]? = some (.cells cs t (0, 0))) (hg : W.grownBy W' row) (hr : ∀ r, row = some r → ∃ o : Obj, W.heap[r]? = some o ∧ o.isCells = false) : W'.heap[B]? = some (.cells cs t (0, 0)) :=
  (hg.block B (Array.getElem?_eq_some_iff.1 h).1 (fun e => by
    obtain ⟨o, ho, hc⟩ := hr B e.symm
    rw [h] at ho
    cases ho
    cases hc)).trans h
theorem blk_rowFar {w : World} {g : Nat} {t : TypeId} {cs : Array Value} {b : Nat} (h : w.heap[g]? = some (.cells cs t (0, 0))) (hb : g ≠ b) (ds : Array Value) : (w.setRow b ds).heap[g]? = some (.cells cs t (0, 0)) := by
  simp only [World.setRow]
  rw [Array.getElem?_modify, if_neg (Ne.symm hb)]
  exact h
theorem keeps_row {U : World} {g : Nat} {cs ds : Array Value} {t : TypeId} (h : Blk U g t cs) : KeepsOthers U (U.setRow g ds) := ⟨by simp [World.setRow], fun k o hk ho => by
  by_cases e : k = g
  · subst e
    rw [show U.heap[k]? = _ from h] at hk
    cases hk
    cases ho
  · simp only [World.setRow]
    rw [Array.getElem?_modify, if_neg (Ne.symm e)]
    exact hk⟩
theorem keeps_cell {U : World} {g : Nat} {cs : Array Value} {t : TypeId} (h : Blk U g t cs) (i : Nat) (v : Value) : KeepsOthers U (U.setCell ⟨g, i, none⟩ v) := ⟨by simp [World.setCell], fun k o hk ho => by
  by_cases e : k = g
  · subst e
    rw [show U.heap[k]? = _ from h] at hk
    cases hk
    cases ho
  · exact (Below.heap_setCell U ⟨g, i, none⟩ v k e).trans hk⟩
theorem chV_figs' (x : Nat) : Figs (chV x) := dP_figs rfl fun k hk => by
  have e : k = 0 ∨ k = 1 ∨ k = 2 ∨ k = 3 := by omega
  rcases e with rfl | rfl | rfl | rfl
  · show Fig ((x : Int) / 4096 % 16); exact ⟨by omega, by omega⟩
  · show Fig ((x : Int) / 256 % 16); exact ⟨by omega, by omega⟩
  · show Fig ((x : Int) / 16 % 16); exact ⟨by omega, by omega⟩
  · show Fig ((x : Int) % 16); exact ⟨by omega, by omega⟩
theorem wpListIn_load_row {F : Fence} {nF : Nat} {P : Program} {ops : Array Oper} {rest : List Oper} {o : Oper} {a : Act} {w : World} {Q : Exit → Act → World → Prop} (hgd : o.guard = none) (ty : TypeId) (x : Operand) (ho : o.op = .load ty x)
    (g : Nat) (hx : a.eval x = .pointer (some ⟨g, 0, none⟩)) (t : TypeId) (cs : Array Value) (fr : Nat × Nat) (d : TypeDesc) (hg : w.heap[g]? = some (.cells cs t fr))
    (hu : P.underlying ty = some d) (hd : (match d with | .struct _ | .array _ _ => true | _ => false) = true) (hi : (P.info? ty).map (·.size) = some cs.size)
    (h : wpListIn F nF P ops Q rest (a.put o.dst (.agg cs)) w) : wpListIn F nF P ops Q (o :: rest) a w :=
  wpListIn_plain hgd fun K' hK' => operIn_load_row ty x ho g hx t cs fr d hg hu hd hi (hK' _ _ h)
theorem operIn_store_row {F : Fence} {n : Nat} {P : Program} {o : Oper} {a : Act} {w : World} {K : Act → World → Prop} {Q : Exit → Act → World → Prop} (ty : TypeId) (x y : Operand) (ho : o.op = .store ty x y)
    (g : Nat) (cells : Array Value) (hx : a.eval x = .pointer (some ⟨g, 0, none⟩)) (hy : a.eval y = .agg cells)
    (t : TypeId) (old : Array Value) (hg : w.heap[g]? = some (.cells old t (0, 0))) (hi : (P.info? ty).map (·.size) = some cells.size)
    (hold : old.size = cells.size) (h1 : cells.all (·.oneCell') = true)
    (h : K (a.put o.dst undef) (w.setRow g cells)) : Oper.wpIn F n P o a w K Q := by
  unfold Oper.wpIn
  refine ⟨by simp [Oper.about, ho], ?_⟩
  rw [Oper.semAt_plain F _ _ (by rw [ho]; intro c hc'; cases hc')]
  unfold execOp
  simp only [ho, hx, hy, Instr.storeAt, Instr.sureAddr, Sem.run_bind, Sem.run_pure, Result.andThen_ok, run_storeVar_row w g t ty old cells hg hi hold h1]
  exact h
theorem results_mid {P : Program} {fn : Func} {r p q : Tmp} {ty : TypeId} (h : fn.results = #[.tmp r, .cell p ty, .tmp q]) (tmps : Array Value) (w : World) (g : Nat) (t : TypeId) (cs : Array Value) (fr : Nat × Nat) (d : TypeDesc)
    (hp : tmps.getD p undef = .pointer (some ⟨g, 0, none⟩)) (hg : w.heap[g]? = some (.cells cs t fr))
    (hu : P.underlying ty = some d) (hd : (match d with | .struct _ | .array _ _ => true | _ => false) = true) (hi : (P.info? ty).map (·.size) = some cs.size) (u v : Value) (hr : tmps.getD r undef = u) (hv : tmps.getD q undef = v) :
    (results fn tmps).run P w = .ok (.tuple #[u, .agg cs, v]) w := by
  have hp' : tmps[p]?.getD undef = .pointer (some ⟨g, 0, none⟩) := by simpa using hp
  have hv' : tmps[q]?.getD undef = v := by simpa using hv
  have hr' : tmps[r]?.getD undef = u := by simpa using hr
  simp [results, h, hp', hv', hr', asAddr, run_loadVar_row w g t ty cs fr d hg hu hd hi]
theorem keepsFrom_below {B : Nat} {V V' : World} (h : Below V.heap.size V V') : KeepsFrom B V V' := ⟨h.size, fun k o _ hk _ => (h.block k (Array.getElem?_eq_some_iff.1 hk).1).trans hk⟩

end Go.Proofs.YthioojappmnnaaaDoor
