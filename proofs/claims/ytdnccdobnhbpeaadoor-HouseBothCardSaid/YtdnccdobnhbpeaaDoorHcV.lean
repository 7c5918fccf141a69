/-
  The law's input: twelve figures and two houses of fourteen bytes.
  Two ties compared, in a region that only reads.
-/
import Derived.Test.YtdnccdobnhbpeaaDoorHcR
import Derived.Test.YtdnccdobnhbpeaaDoorHcO
import Derived.Laws.StructEq
namespace Go.Proofs.YtdnccdobnhbpeaaDoor
open Go Go.RowKit Go.Shelf Go.Maps Go.ChangeShapes
set_option linter.unusedVariables false
set_option linter.unusedSimpArgs false

def bys (xs : List Int) : Array Value := (xs.map (Value.int .u8)).toArray
theorem bys_get {xs : List Int} {k : Nat} (h : k < xs.length) : (bys xs)[k]? = some (.int .u8 (nth xs k)) := by simp [bys, nth_eq h, h]
def skyTo (zs : List Int) (k : Nat) : List Int := (List.range 12).map fun j => if j < k then nth zs j % 16 else 0
theorem skyTo_len (zs : List Int) (k : Nat) : (skyTo zs k).length = 12 := by simp [skyTo]
theorem skyTo_set (zs : List Int) (k : Nat) (hk : k < 12) : (skyTo zs k).set k (nth zs k % 16) = skyTo zs (k + 1) := by
  apply List.ext_getElem
  · simp [skyTo]
  · intro i h1 h2
    simp only [skyTo, List.getElem_set, List.getElem_map, List.getElem_range]
    by_cases e : k = i
    · subst e; simp
    · rw [if_neg e]
      by_cases h : i < k
      · rw [if_pos h, if_pos (by omega)]
      · rw [if_neg h, if_neg (by omega)]
def skyA (zs : List Int) : Int := nth zs 12 % 12 + 1
def skyB (zs : List Int) : Int := (nth zs 12 % 12 + 1 + nth zs 13 % 11) % 12 + 1
theorem results_cell_slot2 {P : Program} {fn : Func} {p q r : Tmp} {ty : TypeId} (h : fn.results = #[.cell p ty, .tmp q, .tmp r]) (tmps : Array Value) (w : World) (g : Nat) (t : TypeId) (cs : Array Value) (fr : Nat × Nat) (d : TypeDesc)
    (hp : tmps.getD p undef = .pointer (some ⟨g, 0, none⟩)) (hg : w.heap[g]? = some (.cells cs t fr))
    (hu : P.underlying ty = some d) (hd : (match d with | .struct _ | .array _ _ => true | _ => false) = true) (hi : (P.info? ty).map (·.size) = some cs.size) (v : Value) (hv : tmps.getD q undef = v) (u : Value) (hw : tmps.getD r undef = u) :
    (results fn tmps).run P w = .ok (.tuple #[.agg cs, v, u]) w := by
  have hp' : tmps[p]?.getD undef = .pointer (some ⟨g, 0, none⟩) := by simpa using hp
  have hv' : tmps[q]?.getD undef = v := by simpa using hv
  have hw' : tmps[r]?.getD undef = u := by simpa using hw
  simp [results, h, hp', hv', hw', asAddr, run_loadVar_row w g t ty cs fr d hg hu hd hi]
theorem info_sky : (Tryd.prog.info? 61).map (·.size) = some 14 := by kernel_rfl
set_option maxRecDepth 100000 in
set_option maxHeartbeats 4000000 in
theorem sky_any (zs : List Int) (hz : zs.length = 14) (hb : ∀ k, k < 14 → 0 ≤ nth zs k ∧ nth zs k < 256) (w : World) :
    Calls Tryd.prog 27 #[.agg (bys zs)] w fun e w' => e = .returned (.tuple #[.agg (arr (skyTo zs 12)), .int .i64 (skyA zs), .int .i64 (skyB zs)]) ∧ Below w.heap.size w w' := by
  have hX := Blk.new w 61 (bys zs)
  have hB0 := below1 w (.cells (bys zs) 61)
  go_enter Tryd.func27, Tryd.ntmps27
  go_wp2
  go_loopw [6] (fun i wr => ∃ k : Nat, k ≤ 12 ∧ i = .int .i64 k ∧ Blk wr w.heap.size 61 (bys zs) ∧ Blk wr (w.heap.size + 1 + 1) 24 (arr (skyTo zs k)) ∧ Below w.heap.size w wr ∧ (∃ c0 : Array Value, c0.size = 12 ∧ Blk wr (w.heap.size + 1) 24 c0)) (fun i _ => 12 - (intOf i).toNat)
  case atStart =>
    refine ⟨0, by omega, rfl, ?_, ?_, ?_, ?_⟩
    · exact (hX.alloc _).alloc _
    · have h := newAt (W := (w.alloc (.cells (bys zs) 61)).alloc (.cells #[.int .i64 0, .int .i64 0, .int .i64 0, .int .i64 0, .int .i64 0, .int .i64 0, .int .i64 0, .int .i64 0, .int .i64 0, .int .i64 0, .int .i64 0, .int .i64 0] 24)) (o := .cells #[.int .i64 0, .int .i64 0, .int .i64 0, .int .i64 0, .int .i64 0, .int .i64 0, .int .i64 0, .int .i64 0, .int .i64 0, .int .i64 0, .int .i64 0, .int .i64 0] 24) (n := w.heap.size + 1 + 1) (by simp)
      exact h
    · exact (hB0.alloc (by simp) _).alloc (by simp; omega) _
    · refine ⟨#[.int .i64 0, .int .i64 0, .int .i64 0, .int .i64 0, .int .i64 0, .int .i64 0, .int .i64 0, .int .i64 0, .int .i64 0, .int .i64 0, .int .i64 0, .int .i64 0], rfl, ?_⟩
      have h : Blk ((w.alloc (.cells (bys zs) 61)).alloc (.cells #[.int .i64 0, .int .i64 0, .int .i64 0, .int .i64 0, .int .i64 0, .int .i64 0, .int .i64 0, .int .i64 0, .int .i64 0, .int .i64 0, .int .i64 0, .int .i64 0] 24)) (w.heap.size + 1) 24 #[.int .i64 0, .int .i64 0, .int .i64 0, .int .i64 0, .int .i64 0, .int .i64 0, .int .i64 0, .int .i64 0, .int .i64 0, .int .i64 0, .int .i64 0, .int .i64 0] := newAt (by simp)
      exact h.alloc _
  case round =>
    obtain ⟨k, hk, rfl, hX2, hH, hB, c0, hc0, hR⟩ := hrel
    by_cases hlt : k < 12
    · have hc1 := hX2.cell k
      rw [bys_get (by omega)] at hc1
      have hc2 := hH.cell k
      rw [arr_get (by rw [skyTo_len]; exact hlt)] at hc2
      have hf2 := hH.frozen k
      obtain ⟨b1, b2⟩ := hb k (by omega)
      go_wp2
      go_roundw
      case rel =>
        refine ⟨k + 1, by omega, by go_num, hX2.far (by simp; omega) _, ?_, ?_, c0, hc0, hR.far (by simp) _⟩
        · have h9 := hH.set_ k (.int .i64 (nth zs k % 16))
          rw [arr_set, skyTo_set zs k hlt] at h9
          exact h9
        · exact hB.setCell (by simp; omega) _
      case measure => simp [intOf]; omega
    · obtain rfl : k = 12 := by omega
      have hc1 := hX2.cell 12
      rw [bys_get (by omega)] at hc1
      have hc2 := hX2.cell 13
      rw [bys_get (by omega)] at hc2
      obtain ⟨b1, b2⟩ := hb 12 (by omega)
      obtain ⟨b3, b4⟩ := hb 13 (by omega)
      have hm1 : 0 ≤ nth zs 12 % 12 ∧ nth zs 12 % 12 < 12 := ⟨by omega, by omega⟩
      have hm2 : 0 ≤ nth zs 13 % 11 ∧ nth zs 13 % 11 < 11 := ⟨by omega, by omega⟩
      have hm3 : 0 ≤ (nth zs 12 % 12 + 1 + nth zs 13 % 11) % 12 ∧ (nth zs 12 % 12 + 1 + nth zs 13 % 11) % 12 < 12 := ⟨by omega, by omega⟩
      have HRr := Lib.hid hR
      have HRh := Lib.hid hH
      have HIh := Lib.hid (show (Tryd.prog.info? 24).map (·.size) = some (arr (skyTo zs 12)).size by rw [arr_size, skyTo_len]; exact info_houses)
      have HIz := Lib.hid (show c0.size = (arr (skyTo zs 12)).size by rw [arr_size, skyTo_len]; exact hc0)
      clear hR hH hX hB0
      go_wp2_with (first | (refine wpList_load_row rfl 24 (.tmp 5) rfl (w.heap.size + 1 + 1) rfl 24 (arr (skyTo zs 12)) (0, 0) _ HRh.out Tryd.underlying24 rfl HIh.out ?_) | (refine wpList_store_row rfl 24 (.tmp 2) (.tmp 34) rfl (w.heap.size + 1) (arr (skyTo zs 12)) rfl rfl 24 _ HRr.out HIh.out HIz.out (arr_one _) ?_))
      exact bodyPost_ret (v := .tuple #[.agg (arr (skyTo zs 12)), .int .i64 (skyA zs), .int .i64 (skyB zs)]) (results_cell_slot2 Tryd.results27 _ _ (w.heap.size + 1) 24 _ (0, 0) _ rfl (HRr.out.row _) Tryd.underlying24 rfl HIh.out _ rfl _ rfl) rfl ⟨rfl, below_setRow hB (by omega) _⟩
end Go.Proofs.YtdnccdobnhbpeaaDoor

namespace Go.Proofs.YtdnccdobnhbpeaaDoor
open Go Go.RowKit
set_option linter.unusedVariables false
set_option linter.unusedSimpArgs false
attribute [local go_sem] Oper.semAt_some

set_option maxRecDepth 100000 in
theorem eql_tie (a b c d e f : Int) (w : World) : (binOp .eql 66 (.agg #[.int .i64 a, .int .i64 b, .int .i64 c]) (.agg #[.int .i64 d, .int .i64 e, .int .i64 f])).run Tryd.prog w = .ok (.bool (decide ((a, b, c) = (d, e, f)))) w := by
  have ht : Tryd.prog.underlying 66 = some (.struct (Tryd.prog.fieldsOf 66)) := by unfold Program.fieldsOf; rw [Tryd.underlying66]
  have hp : Tryd.prog.stoodInHeld 66 = false := by kernel_rfl
  rw [run_eql_struct, show (10000 : Nat) = 9999 + 1 from rfl, run_equalIn_struct w 9999 _ _ _ ht hp]
  unfold Program.fieldsOf
  rw [Tryd.underlying66]
  have p : ∀ (t : TypeId) (x y z : Int) (k : Nat) (v : Value), (#[Value.int .i64 x, .int .i64 y, .int .i64 z] : Array Value)[k]? = some v → Tryd.prog.underlying t = some (.int .i64) → (part t #[.int .i64 x, .int .i64 y, .int .i64 z] k).run Tryd.prog w = .ok v w := fun t x y z k v h h2 => by
    simp [part, isAgg, run_underlying h2, Sem.run_bind, h]
  have p0 : ∀ x y z : Int, (part 64 #[.int .i64 x, .int .i64 y, .int .i64 z] 0).run Tryd.prog w = .ok (.int .i64 x) w := fun x y z => p _ x y z 0 _ rfl Tryd.underlying64
  have p1 : ∀ x y z : Int, (part 3 #[.int .i64 x, .int .i64 y, .int .i64 z] 1).run Tryd.prog w = .ok (.int .i64 y) w := fun x y z => p _ x y z 1 _ rfl Tryd.underlying3
  have p2 : ∀ x y z : Int, (part 3 #[.int .i64 x, .int .i64 y, .int .i64 z] 2).run Tryd.prog w = .ok (.int .i64 z) w := fun x y z => p _ x y z 2 _ rfl Tryd.underlying3
  have q0 : ∀ x y : Int, (Op.equalIn 9999 64 (.int .i64 x) (.int .i64 y)).run Tryd.prog w = .ok (x == y) w := fun x y => run_equalIn_int w 9998 _ .i64 .i64 x y Tryd.underlying64
  have q1 : ∀ x y : Int, (Op.equalIn 9999 3 (.int .i64 x) (.int .i64 y)).run Tryd.prog w = .ok (x == y) w := fun x y => run_equalIn_int w 9998 _ .i64 .i64 x y Tryd.underlying3
  simp only [Op.eqFields, Sem.run_bind, p0, p1, p2, q0, q1, Result.andThen_ok, Sem.run_ite, Sem.run_pure]
  by_cases h1 : a = d
  · by_cases h2 : b = e
    · by_cases h3 : c = f
      · simp [h1, h2, h3, Op.eqFields, p0, p1, p2, q0, q1]
      · simp [h1, h2, h3, Op.eqFields, p0, p1, p2, q0, q1]
    · simp [h1, h2, Op.eqFields, p0, p1, p2, q0, q1]
  · simp [h1, Op.eqFields, p0, p1, p2, q0, q1]
section
variable {P : Program} {o : Oper} {a : Act} {C : World → Prop} {K : Act → Prop}
theorem quiet_eql_tie (x y : Operand) (ho : o.op = .binOp .eql 66 x y 66) (b c d e f g : Int) (hx : a.eval x = .agg #[.int .i64 b, .int .i64 c, .int .i64 d]) (hy : a.eval y = .agg #[.int .i64 e, .int .i64 f, .int .i64 g]) (hk : K (a.put o.dst (.bool (decide ((b, c, d) = (e, f, g)))))) : o.quiet Tryd.prog a C K :=
  ⟨_, fun w hw => by
    unfold Oper.quietAt execOp
    have hm : Tryd.prog.eqGuardType Tryd.prog.depth 66 = false := by kernel_rfl
    simp only [ho, hx, hy, Sem.run_bind, run_eqGuard_agg w .eql _ x y _ _ hm, eql_tie, Result.andThen_ok]
    exact ⟨rfl, rfl⟩, hk⟩
theorem run_index_h (a : Addr) (i : Int) (w : World) (h0 : 0 ≤ i) (h1 : i < 12) : (Instr.indexAt 24 (.pointer (some a)) (.int .i64 i)).run Tryd.prog w = .ok (.pointer (some (a.add i.toNat))) w := by
  have h : Tryd.prog.underlying 24 = some (.array 12 22) := Tryd.underlying24
  have hn : (sizeOf 22).run Tryd.prog w = .ok 1 w := by
    have := info_fig
    simp only [Option.map_eq_some_iff] at this
    obtain ⟨i, hi, hs⟩ := this
    simp [sizeOf, typeInfo, hi, hs]
  simp [Instr.indexAt, Sem.run_bind, asIntOf, run_underlying h, Instr.sureAddr, hn, h0, h1]
theorem quiet_index_h (x y : Operand) (ho : o.op = .indexAddr 24 x y) (g : Nat) (i : Int) (hx : a.eval x = .pointer (some ⟨g, 0, none⟩)) (hy : a.eval y = .int .i64 i) (h0 : 0 ≤ i) (h1 : i < 12) (hk : K (a.put o.dst (.pointer (some ⟨g, i.toNat, none⟩)))) : o.quiet Tryd.prog a C K :=
  ⟨_, fun w hw => by
    unfold Oper.quietAt execOp
    simp only [ho, hx, hy, Sem.run_bind, run_index_h ⟨g, 0, none⟩ i w h0 h1, Result.andThen_ok]
    have e : (⟨g, 0, none⟩ : Addr).add i.toNat = ⟨g, i.toNat, none⟩ := by simp [Addr.add]; omega
    rw [e]
    exact ⟨rfl, rfl⟩, hk⟩
end
end Go.Proofs.YtdnccdobnhbpeaaDoor

