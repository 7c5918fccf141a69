/-
  The circle of houses: conjunctions.
-/
import Derived.Test.YtdnccdobnhbpeaaDoorHcA
import Derived.RangeFuncWrites
namespace Go.Proofs.YtdnccdobnhbpeaaDoor
open Go Go.RowKit Go.Shelf
set_option linter.unusedVariables false
set_option linter.unusedSimpArgs false

theorem operIn_load_row {F : Fence} {n : Nat} {P : Program} {o : Oper} {a : Act} {w : World} {K : Act → World → Prop} {Q : Exit → Act → World → Prop} (ty : TypeId) (x : Operand) (ho : o.op = .load ty x)
    (g : Nat) (hx : a.eval x = .pointer (some ⟨g, 0, none⟩)) (t : TypeId) (cs : Array Value) (fr : Nat × Nat) (d : TypeDesc) (hg : w.heap[g]? = some (.cells cs t fr))
    (hu : P.underlying ty = some d) (hd : (match d with | .struct _ | .array _ _ => true | _ => false) = true) (hi : (P.info? ty).map (·.size) = some cs.size)
    (h : K (a.put o.dst (.agg cs)) w) : Oper.wpIn F n P o a w K Q := by
  unfold Oper.wpIn
  refine ⟨by simp [Oper.about, ho], ?_⟩
  rw [Oper.semAt_plain F _ _ (by rw [ho]; intro c hc'; cases hc')]
  unfold execOp
  simp only [ho, hx, Instr.loadAt, Instr.sureAddr, Sem.run_bind, Sem.run_pure, Result.andThen_ok, run_loadVar_row w g t ty cs fr d hg hu hd hi]
  exact h
theorem boxed_below {V V' : World} {B : Nat} {t : TypeId} {v : Value} (h : Boxed V B t v) (hb : Below V.heap.size V V') : Boxed V' B t v := (hb.block B h.lt).trans h
/-- A tie: its kind, and the two houses. -/
abbrev T3 := Int × Int × Int
def encT (t : T3) : List Value := [.int .i64 t.1, .int .i64 t.2.1, .int .i64 t.2.2]
def rowT (ts : List T3) : List Value := ts.flatMap encT
theorem rowT_snoc (ts : List T3) (t : T3) : rowT (ts ++ [t]) = rowT ts ++ encT t := by simp [rowT]
theorem info_tie : (Tryd.prog.info? 66).map (fun i => (i.zero, i.size, i.bytes)) = some (some (.agg #[.int .i64 0, .int .i64 0, .int .i64 0]), 3, 24) := by kernel_rfl
theorem follows_mixedB : Tryd.prog.follows .mixedOrders = true := by kernel_rfl
theorem circ_info {cs : Array Value} {s : List Int} {m : Option Nat} (h : Circ cs s m) : (Tryd.prog.info? 84).map (·.size) = some cs.size := by rw [h.size]; exact info_circle
theorem cell_three_new (w : World) (x y z : Value) (t : TypeId) : ∀ j u, [x, y, z][j]? = some u → (w.alloc (.cells #[x, y, z] t)).cell? ((⟨w.heap.size, 0, none⟩ : Addr).add j) = some u := by
  intro j u h
  rcases j with _ | _ | _ | j
  · simp at h; subst h; simp [Addr.add]
  · simp at h; subst h; simp [Addr.add]
  · simp at h; subst h; simp [Addr.add]
  · simp at h
theorem blk_not_row {W : World} {B : Nat} {t e : TypeId} {cs : Array Value} (h : Blk W B t cs) (hte : t ≠ e) {base size k : Nat} {v : Value} {xs : List Value} (hr : W.ownsRow base e size v k xs) : some B ≠ v.ownBlock := by
  rcases hr.2 with ⟨rfl, _⟩ | ⟨g, cap, cur, rfl, _, hgb, _⟩
  · simp [Value.ownBlock]
  · intro e'
    obtain rfl : B = g := by simpa [Value.ownBlock] using e'
    have := (show W.heap[B]? = _ from h).symm.trans hgb
    simp at this
    exact hte this.2
theorem def_not_row {W : World} {D : Nat} {ds : Option (List Deferred)} (h : W.heap[D]? = some (.deferred ds)) {base size k e : Nat} {v : Value} {xs : List Value} (hr : W.ownsRow base e size v k xs) : some D ≠ v.ownBlock := by
  rcases hr.2 with ⟨rfl, _⟩ | ⟨g, cap, cur, rfl, _, hgb, _⟩
  · simp [Value.ownBlock]
  · intro e'
    obtain rfl : D = g := by simpa [Value.ownBlock] using e'
    rw [h] at hgb
    cases hgb
/-- What a loop that gathers ties holds: the circle, two houses, and the ties so far. -/
structure Cj (w : World) (n₀ B3 B4 B5 B7 : Nat) (cs : Array Value) (a b : Int) (ts : List T3) (W : World) : Prop where
  c3 : Blk W B3 84 cs
  c4 : Boxed W B4 3 (.int .i64 a)
  c5 : Boxed W B5 3 (.int .i64 b)
  tb : ∃ v, Boxed W B7 40 v ∧ W.ownsRow n₀ 66 3 v ts.length (rowT ts)
  bl : Below n₀ w W
theorem not_row_cells {W W' : World} {row : Option Nat} {B : Nat} {t : TypeId} {cs : Array Value} (h : W.heap[B]? = some (.cells cs t (0, 0))) (hr : ∀ r, row = some r → ∃ o : Obj, W.heap[r]? = some o ∧ o.isCells = false) : some B ≠ row := fun e => by
  obtain ⟨o, ho, hc⟩ := hr B e.symm
  rw [h] at ho
  cases ho
  cases hc
theorem ownsRow_keptB {W W' : World} {row : Option Nat} {base : Nat} {e : TypeId} {size n : Nat} {v : Value} {xs : List Value} (h : W.ownsRow base e size v n xs) (hg : W.grownBy W' row) (hr : ∀ r, row = some r → ∃ o : Obj, W.heap[r]? = some o ∧ o.isCells = false) : W'.ownsRow base e size v n xs := by
  refine h.kept hg ?_
  rcases h.2 with ⟨rfl, _⟩ | ⟨g, cap, cur, rfl, _, hgb, _⟩
  · exact .inl rfl
  · refine .inr fun e' => ?_
    obtain ⟨o, ho, hc⟩ := hr g (by simpa [Value.ownBlock] using e'.symm)
    rw [hgb] at ho; cases ho; cases hc
theorem Cj.kept {w : World} {n₀ B3 B4 B5 B7 : Nat} {cs : Array Value} {a b : Int} {ts : List T3} {W W' : World} (h : Cj w n₀ B3 B4 B5 B7 cs a b ts W) {row : Option Nat} (hg : W.grownBy W' row) (hr : ∀ r, row = some r → ∃ o : Obj, W.heap[r]? = some o ∧ o.isCells = false) (hb : Below n₀ w W') : Cj w n₀ B3 B4 B5 B7 cs a b ts W' := by
  obtain ⟨v, hv, hrw⟩ := h.tb
  exact ⟨(hg.block B3 h.c3.lt (not_row_cells (W' := W') h.c3 hr)).trans h.c3, h.c4.kept hg (not_row_cells (W' := W') h.c4 hr), h.c5.kept hg (not_row_cells (W' := W') h.c5 hr), ⟨v, hv.kept hg (not_row_cells (W' := W') hv hr), ownsRow_keptB hrw hg hr⟩, hb⟩
theorem Cj.own {w : World} {n₀ B3 B4 B5 B7 B : Nat} {cs : Array Value} {a b : Int} {β : Type} {f : β → List T3} (hB : n₀ ≤ B) (hw : n₀ ≤ w.heap.size) : OwnFrom B (fun (s : β) W => Cj w n₀ B3 B4 B5 B7 cs a b (f s) W) := fun s X Y row h hg hr =>
  h.kept hg (fun r e => (hr r e).2) (h.bl.grown hg (Nat.le_trans hw h.bl.size) (fun k e => Nat.le_trans hB (hr k e).1))
theorem grown_of_below {w w' : World} (h : Below w.heap.size w w') : w.grownBy w' none := ⟨h.os, h.tape, h.output, h.size, fun k hk _ => h.block k hk⟩
theorem Cj.below {w : World} {n₀ B3 B4 B5 B7 : Nat} {cs : Array Value} {a b : Int} {ts : List T3} {W W' : World} (h : Cj w n₀ B3 B4 B5 B7 cs a b ts W) (hb : Below W.heap.size W W') (hn : n₀ ≤ w.heap.size) : Cj w n₀ B3 B4 B5 B7 cs a b ts W' :=
  h.kept (grown_of_below hb) (fun r e => by cases e) (h.bl.trans (hb.mono (Nat.le_trans hn h.bl.size)))
theorem keepsFrom_below {B : Nat} {V V' : World} (h : Below V.heap.size V V') : KeepsFrom B V V' := ⟨h.size, fun k o _ hk _ => (h.block k (Array.getElem?_eq_some_iff.1 hk).1).trans hk⟩
theorem KpN.below {B : Nat} {V V' : World} (h : Below V.heap.size V V') (hB : B < V.heap.size) : KpN B V V' := ⟨h.size, h.block _ hB⟩
theorem far_block {V w1 : World} {tmp : Obj} {row : Option Nat} {B B7 : Nat} (hlt : B < V.heap.size) (hne : some B ≠ row) (h7 : B ≠ B7) (hg : (V.alloc tmp).grownBy w1 row) (v' : Value) : (w1.setCell ⟨B7, 0, none⟩ v').heap[B]? = V.heap[B]? :=
  (Below.heap_setCell w1 ⟨B7, 0, none⟩ v' B h7).trans ((hg.block B (by simp; omega) hne).trans (Below.heap_alloc V tmp B hlt))
theorem Cj.appended {w : World} {n₀ B3 B4 B5 B7 : Nat} {cs : Array Value} {a b : Int} {ts : List T3} {t : T3} {V w1 : World} {tmp : Obj} {v v' : Value} (J3 : Blk V B3 84 cs) (J4 : Boxed V B4 3 (.int .i64 a)) (J5 : Boxed V B5 3 (.int .i64 b)) (JB : Below n₀ w V)
    (hrw : V.ownsRow n₀ 66 3 v ts.length (rowT ts)) (hg : (V.alloc tmp).grownBy w1 v.ownBlock) (hv3 : Boxed (w1.setCell ⟨B7, 0, none⟩ v') B7 40 v') (hr3 : (w1.setCell ⟨B7, 0, none⟩ v').ownsRow n₀ 66 3 v' (ts.length + 1) (rowT ts ++ encT t)) (hb3 : Below n₀ V (w1.setCell ⟨B7, 0, none⟩ v'))
    (h37 : B3 ≠ B7) (h47 : B4 ≠ B7) (h57 : B5 ≠ B7) : Cj w n₀ B3 B4 B5 B7 cs a b (ts ++ [t]) (w1.setCell ⟨B7, 0, none⟩ v') :=
  ⟨(far_block J3.lt (blk_not_row J3 (by decide) hrw) h37 hg v').trans J3, (far_block J4.lt (J4.not_row (by decide) hrw) h47 hg v').trans J4, (far_block J5.lt (J5.not_row (by decide) hrw) h57 hg v').trans J5, ⟨v', hv3, by rw [rowT_snoc, List.length_append]; exact hr3⟩, JB.trans hb3⟩
/-- The ties by the figure of the one house next to the other one. -/
def cj1 (s : List Int) (a b : Int) (l : List Int) : List T3 := (l.filter fun x => decide (x ≠ a) && (fg s x == fg s a)).map fun x => (2, x, b)
def cj2 (s : List Int) (a b : Int) (l : List Int) : List T3 := (l.filter fun x => decide (x ≠ b) && (fg s x == fg s b)).map fun x => (2, a, x)
theorem cj1_yes {s : List Int} {a b x : Int} {l : List Int} (h1 : x ≠ a) (h2 : (fg s x == fg s a) = true) : cj1 s a b (l ++ [x]) = cj1 s a b l ++ [(2, x, b)] := by simp only [cj1, List.filter_append, List.map_append, List.filter_cons, List.filter_nil]; simp [h1, h2]
theorem cj1_no {s : List Int} {a b x : Int} {l : List Int} (h : x = a ∨ (fg s x == fg s a) = false) : cj1 s a b (l ++ [x]) = cj1 s a b l := by
  have : (decide (x ≠ a) && (fg s x == fg s a)) = false := by rcases h with h | h <;> simp [h]
  simp only [cj1, List.filter_append, List.map_append, List.filter_cons, List.filter_nil, this]; simp
theorem cj2_yes {s : List Int} {a b x : Int} {l : List Int} (h1 : x ≠ b) (h2 : (fg s x == fg s b) = true) : cj2 s a b (l ++ [x]) = cj2 s a b l ++ [(2, a, x)] := by simp only [cj2, List.filter_append, List.map_append, List.filter_cons, List.filter_nil]; simp [h1, h2]
theorem cj2_no {s : List Int} {a b x : Int} {l : List Int} (h : x = b ∨ (fg s x == fg s b) = false) : cj2 s a b (l ++ [x]) = cj2 s a b l := by
  have : (decide (x ≠ b) && (fg s x == fg s b)) = false := by rcases h with h | h <;> simp [h]
  simp only [cj2, List.filter_append, List.map_append, List.filter_cons, List.filter_nil, this]; simp
theorem cj1_len (s : List Int) (a b : Int) (l : List Int) : (cj1 s a b l).length ≤ l.length := by simp only [cj1, List.length_map]; exact List.length_filter_le _ _
theorem cj2_len (s : List Int) (a b : Int) (l : List Int) : (cj2 s a b l).length ≤ l.length := by simp only [cj2, List.length_map]; exact List.length_filter_le _ _
attribute [local go_sem] Oper.semAt_some

set_option maxRecDepth 100000 in
set_option maxHeartbeats 8000000 in
theorem conj_in (cs : Array Value) (s : List Int) (m : Option Nat) (hC : Circ cs s m) (a b : Int) (ha : Hou a) (hb : Hou b) (w : World) :
    CallsIn Fence.wide 6 Tryd.prog 58 #[.agg cs, .int .i64 a, .int .i64 b] w fun e W' => ∃ v, e = .returned v ∧ W'.ownsRow w.heap.size 66 3 v (cj1 s a b (nbs b) ++ cj2 s a b (nbs a)).length (rowT (cj1 s a b (nbs b) ++ cj2 s a b (nbs a))) ∧ Below w.heap.size w W' := by
  obtain ⟨i0, hi, hz0, hz1, hz2⟩ := info_parts info_tie
  refine callsIn_of_wp_marks Tryd.func58 rfl trivial ?_ rfl
  simp only [Tryd.ntmps58, List.size_toArray, List.length_cons, List.length_nil, Nat.reduceAdd, Nat.reduceSub, Array.replicate_succ, Array.replicate_zero, List.push_toArray, List.append_toArray, List.nil_append, List.cons_append]
  gi_wp2_with fail
  refine ⟨trivial, ?_⟩
  refine (callsIn_wide.2 (beside_any b _)).mono ?_
  rintro e w1 ⟨rfl, rfl⟩
  gi_wp2_with fail
  have hcj : Cj w w.heap.size w.heap.size (w.heap.size + 1) (w.heap.size + 1 + 1) (w.heap.size + 1 + 1 + 1) cs a b (cj1 s a b []) (((((w.alloc (.cells cs 84)).alloc (.cells #[.int .i64 a] 3)).alloc (.cells #[.int .i64 b] 3)).alloc (.cells #[.slice none 0 0] 40)).alloc (.cells #[.int .i64 b] 3)) := by
    have e1 : (w.alloc (.cells cs 84)).heap.size = w.heap.size + 1 := by simp
    have e2 : ((w.alloc (.cells cs 84)).alloc (.cells #[.int .i64 a] 3)).heap.size = w.heap.size + 1 + 1 := by simp
    have e3 : (((w.alloc (.cells cs 84)).alloc (.cells #[.int .i64 a] 3)).alloc (.cells #[.int .i64 b] 3)).heap.size = w.heap.size + 1 + 1 + 1 := by simp
    have e4 : ((((w.alloc (.cells cs 84)).alloc (.cells #[.int .i64 a] 3)).alloc (.cells #[.int .i64 b] 3)).alloc (.cells #[.slice none 0 0] 40)).heap.size = w.heap.size + 1 + 1 + 1 + 1 := by simp
    refine ⟨((((Blk.new w 84 cs).alloc _).alloc _).alloc _).alloc _, ?_, ?_, ⟨_, ?_, World.ownsRow_nil _ _ _ _⟩, (((((Below.refl _ _).alloc (Nat.le_refl _) _).alloc (by omega) _).alloc (by omega) _).alloc (by omega) _).alloc (by omega) _⟩
    · rw [← e1]; exact (((Boxed.new _ _ _).alloc _).alloc _).alloc _
    · rw [← e2]; exact ((Boxed.new _ _ _).alloc _).alloc _
    · rw [← e3]; exact (Boxed.new _ _ _).alloc _
  have hbc : Boxed (((((w.alloc (.cells cs 84)).alloc (.cells #[.int .i64 a] 3)).alloc (.cells #[.int .i64 b] 3)).alloc (.cells #[.slice none 0 0] 40)).alloc (.cells #[.int .i64 b] 3)) (w.heap.size + 1 + 1 + 1 + 1) 3 (.int .i64 b) := by
    have e4 : ((((w.alloc (.cells cs 84)).alloc (.cells #[.int .i64 a] 3)).alloc (.cells #[.int .i64 b] 3)).alloc (.cells #[.slice none 0 0] 40)).heap.size = w.heap.size + 1 + 1 + 1 + 1 := by simp
    rw [← e4]; exact Boxed.new _ _ _
  have hB3 : w.heap.size ≤ w.heap.size + 1 + 1 + 1 := by omega
  generalize (((((w.alloc (.cells cs 84)).alloc (.cells #[.int .i64 a] 3)).alloc (.cells #[.int .i64 b] 3)).alloc (.cells #[.slice none 0 0] 40)).alloc (.cells #[.int .i64 b] 3)) = W1 at hcj hbc ⊢
  have hsz1 : w.heap.size + 1 + 1 + 1 + 1 < W1.heap.size := hbc.lt
  obtain ⟨Bc, hBce⟩ : ∃ B, w.heap.size + 1 + 1 + 1 + 1 = B := ⟨_, rfl⟩
  rw [hBce] at hbc hsz1 ⊢
  obtain ⟨B7, hB7e⟩ : ∃ B, w.heap.size + 1 + 1 + 1 = B := ⟨_, rfl⟩
  rw [hB7e] at hcj hB3 ⊢
  obtain ⟨B5, hB5e⟩ : ∃ B, w.heap.size + 1 + 1 = B := ⟨_, rfl⟩
  rw [hB5e] at hcj ⊢
  obtain ⟨B4, hB4e⟩ : ∃ B, w.heap.size + 1 = B := ⟨_, rfl⟩
  rw [hB4e] at hcj ⊢
  have hBB : w.heap.size < B4 ∧ B4 < B5 ∧ B5 < B7 ∧ B7 < Bc := by omega
  clear hBce hB7e hB5e hB4e
  have HN := Lib.hid (nb_hou (h := b))
  refine wpIn_rangeFunc_ownG (F := Fence.wide) rfl (by omega) (gf := 93) (lb := #[.pointer (some ⟨Bc, 0, none⟩)]) rfl trivial (enters_of Tryd.func93 (by kernel_rfl) rfl)
    (beside_stops Fence.wide (6 - 1) trivial rfl (by omega) Bc b hb W1 hbc.cell) KpN.trans (KpN.put hsz1) (Below.refl _ _) (fun _ => rfl)
    (fun pre W => Cj w w.heap.size w.heap.size B4 B5 B7 cs a b (cj1 s a b (pre.map (nbI b))) W ∧ Boxed W Bc 3 (.int .i64 b))
    (fun _ _ _ => False)
    (fun pre X Y row h hg hr => ⟨Cj.own (f := fun p : List Nat => cj1 s a b (p.map (nbI b))) (by omega) (Nat.le_refl _) pre X Y row h.1 hg hr, h.2.kept hg (not_row_cells (W' := Y) h.2 (fun r e => (hr r e).2))⟩)
    (fun _ _ _ _ _ hs _ _ => hs)
    ⟨hcj, hbc⟩
    (fun x => { tmps := #[.agg cs, .int .i64 a, .int .i64 b, .pointer (some ⟨w.heap.size, 0, none⟩), .pointer (some ⟨B4, 0, none⟩), .pointer (some ⟨B5, 0, none⟩), .slice none 0 0, .pointer (some ⟨B7, 0, none⟩), .int .i64 (nbI b x), undef, .int .i64 b, .func (.func 93) #[] #[.pointer (some ⟨Bc, 0, none⟩)], .int .i64 (nbI b x), undef, undef, undef, undef, undef, undef, undef, undef, undef, undef, undef, undef, undef, undef, undef, undef, undef, undef, undef, undef, undef, undef, undef, undef, undef, undef, undef, undef, undef, undef, undef, undef, undef, undef, undef, undef, undef, undef, undef, undef], defers := [] }) ?assign ?body ?done ?stop
  case assign =>
    intro l x W K hK
    unfold encN
    gi_wp2
    exact hK
  case body =>
    rintro l pre0 x0 W ⟨HJ, hbx⟩ hlen
    have hxh : Hou (nbI b x0) := nbI_hou
    have hch := ha
    have hm0 : (pre0 ++ [x0]).map (nbI b) = pre0.map (nbI b) ++ [nbI b x0] := by simp
    have hpl : (pre0.map (nbI b)).length < 2 := by simpa using hlen
    obtain ⟨pre, hpre⟩ : ∃ l, pre0.map (nbI b) = l := ⟨_, rfl⟩
    obtain ⟨x, hx⟩ : ∃ y, nbI b x0 = y := ⟨_, rfl⟩
    rw [hpre] at HJ hm0 hpl
    rw [hx] at hxh hm0 ⊢
    have HM := Lib.hid hm0
    clear hpre hx hlen hm0
    have hbnd : (cj1 s a b pre).length ≤ 99 := by have := cj1_len s a b pre; omega
    obtain ⟨T, hT⟩ : ∃ T, cj1 s a b pre = T := ⟨_, rfl⟩
    rw [hT] at HJ hbnd
    have HT := Lib.hid hT
    clear hT
    obtain ⟨J3, J4b, J5b, ⟨v, hv, hrw⟩, JB⟩ := HJ
    have J4 := J4b.cell
    have J5 := J5b.cell
    have HJ2 : Cj w w.heap.size w.heap.size B4 B5 B7 cs a b T W := ⟨J3, J4b, J5b, ⟨v, hv, hrw⟩, JB⟩
    obtain ⟨ca, hca⟩ : ∃ y, fg s a = y := ⟨_, rfl⟩
    obtain ⟨fx, hfx⟩ : ∃ y, fg s x = y := ⟨_, rfl⟩
    have HCA := Lib.hid hca
    have HFX := Lib.hid hfx
    clear hca hfx
    have hbcl : Bc < W.heap.size := hbx.lt
    have hsz := JB.size
    cases hxd : (x != a)
    · gi_wp2_with fail
      refine wpIn_region_vals follows_mixedB [some 13, some 14, some 15, some 16, some 17, some 18, some 19, some 20, some 21, some 22, some 23, some 24] (by kernel_rfl) [(.int .i64 x), (.int .i64 a), (.bool false), (.bool false), undef, undef, undef, undef, undef, undef, undef, (.bool false)] rfl ?step ?fin
      case step =>
        intro i hi a1 V FD
        have hi : i < 12 := hi
        have e : i = 0 ∨ i = 1 ∨ i = 2 ∨ i = 3 ∨ i = 4 ∨ i = 5 ∨ i = 6 ∨ i = 7 ∨ i = 8 ∨ i = 9 ∨ i = 10 ∨ i = 11 := by omega
        clear hi
        rcases e with rfl | rfl | rfl | rfl | rfl | rfl | rfl | rfl | rfl | rfl | rfl | rfl
        · have e8 : a1.tmps[8]?.getD undef = (.int .i64 x) := (FD.kept 8 (by kernel_rfl)).trans rfl
          refine wpOpIn_step rfl (fun K hK => ?_)
          refine Eq.mpr (if_pos (by rfl)) ?_
          go_simp
          exact hK _ _ ⟨rfl, Below.refl _ _⟩
        · have e4 : a1.tmps[4]?.getD undef = (.pointer (some ⟨B4, 0, none⟩)) := (FD.kept 4 (by kernel_rfl)).trans rfl
          refine wpOpIn_step rfl (fun K hK => ?_)
          refine Eq.mpr (if_pos (by rfl)) ?_
          have hc1 := cell_tr FD.below J4
          go_simp
          exact hK _ _ ⟨rfl, Below.refl _ _⟩
        · have e13 : a1.tmps[13]?.getD undef = (.int .i64 x) := FD.dep 0 13 (by kernel_rfl) rfl
          have e14 : a1.tmps[14]?.getD undef = (.int .i64 a) := FD.dep 1 14 (by kernel_rfl) rfl
          refine wpOpIn_step rfl (fun K hK => ?_)
          refine Eq.mpr (if_pos (by rfl)) ?_
          go_simp
          exact hK _ _ ⟨rfl, Below.refl _ _⟩
        · have e15 : a1.tmps[15]?.getD undef = (.bool false) := FD.dep 2 15 (by kernel_rfl) rfl
          refine wpOpIn_step rfl (fun K hK => ?_)
          refine Eq.mpr (if_pos (by rfl)) ?_
          go_simp
          exact hK _ _ ⟨rfl, Below.refl _ _⟩
        · have e3 : a1.tmps[3]?.getD undef = (.pointer (some ⟨w.heap.size, 0, none⟩)) := (FD.kept 3 (by kernel_rfl)).trans rfl
          have e16 : a1.tmps[16]?.getD undef = (.bool false) := FD.dep 3 16 (by kernel_rfl) rfl
          refine wpOpIn_step rfl (fun K hK => ?_)
          refine Eq.mpr (if_neg (unwanted_of rfl rfl e16 (by decide))) ?_
          exact ⟨fun _ _ => trivial, hK _ _ ⟨rfl, Below.refl _ _⟩⟩
        · have e8 : a1.tmps[8]?.getD undef = (.int .i64 x) := (FD.kept 8 (by kernel_rfl)).trans rfl
          have e16 : a1.tmps[16]?.getD undef = (.bool false) := FD.dep 3 16 (by kernel_rfl) rfl
          refine wpOpIn_step rfl (fun K hK => ?_)
          refine Eq.mpr (if_neg (unwanted_of rfl rfl e16 (by decide))) ?_
          exact ⟨fun _ _ => trivial, hK _ _ ⟨rfl, Below.refl _ _⟩⟩
        · have e17 : a1.tmps[17]?.getD undef = undef := FD.dep 4 17 (by kernel_rfl) rfl
          have e18 : a1.tmps[18]?.getD undef = undef := FD.dep 5 18 (by kernel_rfl) rfl
          have e16 : a1.tmps[16]?.getD undef = (.bool false) := FD.dep 3 16 (by kernel_rfl) rfl
          refine wpOpIn_step rfl (fun K hK => ?_)
          refine Eq.mpr (if_neg (unwanted_of rfl rfl e16 (by decide))) ?_
          exact ⟨fun _ _ => trivial, hK _ _ ⟨rfl, Below.refl _ _⟩⟩
        · have e3 : a1.tmps[3]?.getD undef = (.pointer (some ⟨w.heap.size, 0, none⟩)) := (FD.kept 3 (by kernel_rfl)).trans rfl
          have e16 : a1.tmps[16]?.getD undef = (.bool false) := FD.dep 3 16 (by kernel_rfl) rfl
          refine wpOpIn_step rfl (fun K hK => ?_)
          refine Eq.mpr (if_neg (unwanted_of rfl rfl e16 (by decide))) ?_
          exact ⟨fun _ _ => trivial, hK _ _ ⟨rfl, Below.refl _ _⟩⟩
        · have e4 : a1.tmps[4]?.getD undef = (.pointer (some ⟨B4, 0, none⟩)) := (FD.kept 4 (by kernel_rfl)).trans rfl
          have e16 : a1.tmps[16]?.getD undef = (.bool false) := FD.dep 3 16 (by kernel_rfl) rfl
          refine wpOpIn_step rfl (fun K hK => ?_)
          refine Eq.mpr (if_neg (unwanted_of rfl rfl e16 (by decide))) ?_
          exact ⟨fun _ _ => trivial, hK _ _ ⟨rfl, Below.refl _ _⟩⟩
        · have e20 : a1.tmps[20]?.getD undef = undef := FD.dep 7 20 (by kernel_rfl) rfl
          have e21 : a1.tmps[21]?.getD undef = undef := FD.dep 8 21 (by kernel_rfl) rfl
          have e16 : a1.tmps[16]?.getD undef = (.bool false) := FD.dep 3 16 (by kernel_rfl) rfl
          refine wpOpIn_step rfl (fun K hK => ?_)
          refine Eq.mpr (if_neg (unwanted_of rfl rfl e16 (by decide))) ?_
          exact ⟨fun _ _ => trivial, hK _ _ ⟨rfl, Below.refl _ _⟩⟩
        · have e19 : a1.tmps[19]?.getD undef = undef := FD.dep 6 19 (by kernel_rfl) rfl
          have e22 : a1.tmps[22]?.getD undef = undef := FD.dep 9 22 (by kernel_rfl) rfl
          have e16 : a1.tmps[16]?.getD undef = (.bool false) := FD.dep 3 16 (by kernel_rfl) rfl
          refine wpOpIn_step rfl (fun K hK => ?_)
          refine Eq.mpr (if_neg (unwanted_of rfl rfl e16 (by decide))) ?_
          exact ⟨fun _ _ => trivial, hK _ _ ⟨rfl, Below.refl _ _⟩⟩
        · have e16 : a1.tmps[16]?.getD undef = (.bool false) := FD.dep 3 16 (by kernel_rfl) rfl
          have e23 : a1.tmps[23]?.getD undef = undef := FD.dep 10 23 (by kernel_rfl) rfl
          refine wpOpIn_step rfl (fun K hK => ?_)
          refine Eq.mpr (if_pos (by rfl)) ?_
          go_simp
          exact hK _ _ ⟨rfl, Below.refl _ _⟩
      case fin =>
        intro V hb
        simp only [finV, List.set_cons_succ, List.set_cons_zero]
        have HJ3 := HJ2.below hb (Nat.le_refl _)
        have HN := Lib.hid (show cj1 s a b (pre ++ [x]) = cj1 s a b pre from cj1_no (.inl (by simpa using hxd)))
        gi_wp2
        exact ⟨keepsFrom_below hb, KpN.below hb hbcl, by rw [HM.out, HN.out, HT.out]; exact HJ3, boxed_below hbx hb⟩
    · gi_wp2_with fail
      refine wpIn_region_vals follows_mixedB [some 13, some 14, some 15, some 16, some 17, some 18, some 19, some 20, some 21, some 22, some 23, some 24] (by kernel_rfl) [(.int .i64 x), (.int .i64 a), (.bool true), (.bool true), (.agg cs), (.int .i64 x), (.int .i64 fx), (.agg cs), (.int .i64 a), (.int .i64 ca), (.bool (fx == ca)), (.bool (fx == ca))] rfl ?step ?fin
      case step =>
        intro i hi a1 V FD
        have hi : i < 12 := hi
        have e : i = 0 ∨ i = 1 ∨ i = 2 ∨ i = 3 ∨ i = 4 ∨ i = 5 ∨ i = 6 ∨ i = 7 ∨ i = 8 ∨ i = 9 ∨ i = 10 ∨ i = 11 := by omega
        clear hi
        rcases e with rfl | rfl | rfl | rfl | rfl | rfl | rfl | rfl | rfl | rfl | rfl | rfl
        · have e8 : a1.tmps[8]?.getD undef = (.int .i64 x) := (FD.kept 8 (by kernel_rfl)).trans rfl
          refine wpOpIn_step rfl (fun K hK => ?_)
          refine Eq.mpr (if_pos (by rfl)) ?_
          go_simp
          exact hK _ _ ⟨rfl, Below.refl _ _⟩
        · have e4 : a1.tmps[4]?.getD undef = (.pointer (some ⟨B4, 0, none⟩)) := (FD.kept 4 (by kernel_rfl)).trans rfl
          refine wpOpIn_step rfl (fun K hK => ?_)
          refine Eq.mpr (if_pos (by rfl)) ?_
          have hc1 := cell_tr FD.below J4
          go_simp
          exact hK _ _ ⟨rfl, Below.refl _ _⟩
        · have e13 : a1.tmps[13]?.getD undef = (.int .i64 x) := FD.dep 0 13 (by kernel_rfl) rfl
          have e14 : a1.tmps[14]?.getD undef = (.int .i64 a) := FD.dep 1 14 (by kernel_rfl) rfl
          refine wpOpIn_step rfl (fun K hK => ?_)
          refine Eq.mpr (if_pos (by rfl)) ?_
          go_simp
          exact hK _ _ ⟨rfl, Below.refl _ _⟩
        · have e15 : a1.tmps[15]?.getD undef = (.bool true) := FD.dep 2 15 (by kernel_rfl) rfl
          refine wpOpIn_step rfl (fun K hK => ?_)
          refine Eq.mpr (if_pos (by rfl)) ?_
          go_simp
          exact hK _ _ ⟨rfl, Below.refl _ _⟩
        · have e3 : a1.tmps[3]?.getD undef = (.pointer (some ⟨w.heap.size, 0, none⟩)) := (FD.kept 3 (by kernel_rfl)).trans rfl
          have e16 : a1.tmps[16]?.getD undef = (.bool true) := FD.dep 3 16 (by kernel_rfl) rfl
          refine wpOpIn_step rfl (fun K hK => ?_)
          refine Eq.mpr (if_pos (wanted_of rfl rfl e16)) ?_
          exact operIn_load_row 84 (.tmp 3) rfl w.heap.size (eval_tmp e3) 84 cs (0, 0) _ (J3.below FD.below J3.lt) Tryd.underlying84 rfl (circ_info hC) (hK _ _ ⟨rfl, Below.refl _ _⟩)
        · have e8 : a1.tmps[8]?.getD undef = (.int .i64 x) := (FD.kept 8 (by kernel_rfl)).trans rfl
          have e16 : a1.tmps[16]?.getD undef = (.bool true) := FD.dep 3 16 (by kernel_rfl) rfl
          refine wpOpIn_step rfl (fun K hK => ?_)
          refine Eq.mpr (if_pos (wanted_of rfl rfl e16)) ?_
          go_simp
          exact hK _ _ ⟨rfl, Below.refl _ _⟩
        · have e17 : a1.tmps[17]?.getD undef = (.agg cs) := FD.dep 4 17 (by kernel_rfl) rfl
          have e18 : a1.tmps[18]?.getD undef = (.int .i64 x) := FD.dep 5 18 (by kernel_rfl) rfl
          have e16 : a1.tmps[16]?.getD undef = (.bool true) := FD.dep 3 16 (by kernel_rfl) rfl
          refine wpOpIn_step rfl (fun K hK => ?_)
          refine Eq.mpr (if_pos (wanted_of rfl rfl e16)) ?_
          go_simp
          gi_wp2_with fail
          refine ⟨trivial, ?_⟩
          refine (CallsIn.inRound l (callsIn_wide.2 (figureC_any cs s m hC _ hxh _))).mono ?_
          rintro e V2 ⟨rfl, hb2⟩
          rw [HFX.out]
          exact hK _ _ ⟨rfl, hb2⟩
        · have e3 : a1.tmps[3]?.getD undef = (.pointer (some ⟨w.heap.size, 0, none⟩)) := (FD.kept 3 (by kernel_rfl)).trans rfl
          have e16 : a1.tmps[16]?.getD undef = (.bool true) := FD.dep 3 16 (by kernel_rfl) rfl
          refine wpOpIn_step rfl (fun K hK => ?_)
          refine Eq.mpr (if_pos (wanted_of rfl rfl e16)) ?_
          exact operIn_load_row 84 (.tmp 3) rfl w.heap.size (eval_tmp e3) 84 cs (0, 0) _ (J3.below FD.below J3.lt) Tryd.underlying84 rfl (circ_info hC) (hK _ _ ⟨rfl, Below.refl _ _⟩)
        · have e4 : a1.tmps[4]?.getD undef = (.pointer (some ⟨B4, 0, none⟩)) := (FD.kept 4 (by kernel_rfl)).trans rfl
          have e16 : a1.tmps[16]?.getD undef = (.bool true) := FD.dep 3 16 (by kernel_rfl) rfl
          refine wpOpIn_step rfl (fun K hK => ?_)
          refine Eq.mpr (if_pos (wanted_of rfl rfl e16)) ?_
          have hc1 := cell_tr FD.below J4
          go_simp
          exact hK _ _ ⟨rfl, Below.refl _ _⟩
        · have e20 : a1.tmps[20]?.getD undef = (.agg cs) := FD.dep 7 20 (by kernel_rfl) rfl
          have e21 : a1.tmps[21]?.getD undef = (.int .i64 a) := FD.dep 8 21 (by kernel_rfl) rfl
          have e16 : a1.tmps[16]?.getD undef = (.bool true) := FD.dep 3 16 (by kernel_rfl) rfl
          refine wpOpIn_step rfl (fun K hK => ?_)
          refine Eq.mpr (if_pos (wanted_of rfl rfl e16)) ?_
          go_simp
          gi_wp2_with fail
          refine ⟨trivial, ?_⟩
          refine (CallsIn.inRound l (callsIn_wide.2 (figureC_any cs s m hC _ hch _))).mono ?_
          rintro e V2 ⟨rfl, hb2⟩
          rw [HCA.out]
          exact hK _ _ ⟨rfl, hb2⟩
        · have e19 : a1.tmps[19]?.getD undef = (.int .i64 fx) := FD.dep 6 19 (by kernel_rfl) rfl
          have e22 : a1.tmps[22]?.getD undef = (.int .i64 ca) := FD.dep 9 22 (by kernel_rfl) rfl
          have e16 : a1.tmps[16]?.getD undef = (.bool true) := FD.dep 3 16 (by kernel_rfl) rfl
          refine wpOpIn_step rfl (fun K hK => ?_)
          refine Eq.mpr (if_pos (wanted_of rfl rfl e16)) ?_
          go_simp
          exact hK _ _ ⟨rfl, Below.refl _ _⟩
        · have e16 : a1.tmps[16]?.getD undef = (.bool true) := FD.dep 3 16 (by kernel_rfl) rfl
          have e23 : a1.tmps[23]?.getD undef = (.bool (fx == ca)) := FD.dep 10 23 (by kernel_rfl) rfl
          refine wpOpIn_step rfl (fun K hK => ?_)
          refine Eq.mpr (if_pos (by rfl)) ?_
          go_simp
          exact hK _ _ ⟨rfl, Below.refl _ _⟩
      case fin =>
        intro V hb
        simp only [finV, List.set_cons_succ, List.set_cons_zero]
        have HJ3 := HJ2.below hb (Nat.le_refl _)
        have hbx3 := boxed_below hbx hb
        cases hq : (fx == ca)
        · have HN := Lib.hid (show cj1 s a b (pre ++ [x]) = cj1 s a b pre from cj1_no (.inr (by rw [HFX.out, HCA.out]; exact hq)))
          gi_wp2
          exact ⟨keepsFrom_below hb, KpN.below hb hbcl, by rw [HM.out, HN.out, HT.out]; exact HJ3, hbx3⟩
        · have HN := Lib.hid (show cj1 s a b (pre ++ [x]) = cj1 s a b pre ++ [(2, x, b)] from cj1_yes (by simpa using hxd) (by rw [HFX.out, HCA.out]; exact hq))
          clear HJ2 hv hrw J3 J4b J5b J4 J5 JB
          obtain ⟨J3, J4b, J5b, ⟨v, hv, hrw⟩, JB⟩ := HJ3
          have J4 := J4b.cell
          have J5 := J5b.cell
          have hcv := hv.cell
          have hcf := hv.frozen
          have hsz3 := JB.size
          gi_wp2_with (gi_at_builtin; refine wpListIn_append_own _ rfl _ _ 40 rfl w.heap.size 66 i0 (.agg #[.int .i64 0, .int .i64 0, .int .i64 0]) 3 24 Tryd.underlying40 hi hz0 hz1 hz2 rfl (by decide) _ _ _ rfl (hrw.alloc _) ⟨V.heap.size, 0, none⟩ 1 1 [.int .i64 2, .int .i64 x, .int .i64 b] rfl rfl (cell_three_new _ _ _ _ _) (by simp [Value.oneCell']) (by unfold maxLen; omega) (by omega) (by simp; omega) ?_; intro v' w1 hown' hgrow _; obtain ⟨g', cap', rfl⟩ := ownsRow_succ hown'; obtain ⟨hv1, hv3, hr3, hk3, hb3⟩ := hv.appended (by decide) hrw (by omega) (by omega) hown' hgrow; have hc1 := hv1.cell; have hf1 := hv1.frozen)
          refine ⟨(keepsFrom_below hb).trans (hk3.from _), ⟨Nat.le_trans hb.size hb3.size, (far_block hbx3.lt (hbx3.not_row (by decide) hrw) (by omega) hgrow _).trans (hb.block _ hbcl)⟩, ?_, (far_block hbx3.lt (hbx3.not_row (by decide) hrw) (by omega) hgrow _).trans hbx3⟩
          rw [HM.out, HN.out]
          rw [HT.out]
          exact Cj.appended J3 J4b J5b JB hrw hgrow hv3 hr3 hb3 (by omega) (by omega) (by omega)

  case done =>
    rintro D ys W5 hD rfl ⟨HJ, hbx⟩ hK
    rw [nbI_all] at HJ
    have J4 := HJ.c4.cell
    have hDl : D < W5.heap.size := (Array.getElem?_eq_some_iff.1 hK).1
    gi_wp2_with fail
    refine ⟨trivial, ?_⟩
    refine (callsIn_wide.2 (beside_any a _)).mono ?_
    rintro e w1 ⟨rfl, rfl⟩
    gi_wp2_with fail
    have hb5 : Below W5.heap.size W5 (W5.alloc (.cells #[.int .i64 a] 3)) := below1 _ _
    have HJ6 := HJ.below hb5 (Nat.le_refl _)
    have hbc6 : Boxed (W5.alloc (.cells #[.int .i64 a] 3)) W5.heap.size 3 (.int .i64 a) := Boxed.new _ _ _
    have hK6 := (hb5.block D hDl).trans hK
    have hsz6 : W5.heap.size < (W5.alloc (.cells #[.int .i64 a] 3)).heap.size := by simp
    have hC7 : B7 < W5.heap.size := by
      obtain ⟨v, hv, _⟩ := HJ.tb
      exact hv.lt
    have hDB : B7 < D := by omega
    clear HJ hbx hK J4 hcj hbc hsz1
    generalize (W5.alloc (.cells #[.int .i64 a] 3)) = W6 at hb5 HJ6 hbc6 hK6 hsz6 ⊢
    obtain ⟨Bc2, hBc2⟩ : ∃ B, W5.heap.size = B := ⟨_, rfl⟩
    rw [hBc2] at hbc6 hsz6 hC7 hDl ⊢
    clear hb5 hBc2 hD HN
    refine wpIn_rangeFunc_ownG (F := Fence.wide) rfl (by omega) (gf := 93) (lb := #[.pointer (some ⟨Bc2, 0, none⟩)]) rfl trivial (enters_of Tryd.func93 (by kernel_rfl) rfl)
      (beside_stops Fence.wide (6 - 1) trivial rfl (by omega) Bc2 a ha W6 hbc6.cell) KpN.trans (KpN.put hsz6) (Below.refl _ _) (fun _ => rfl)
      (fun pre W => Cj w w.heap.size w.heap.size B4 B5 B7 cs a b (cj1 s a b (nbs b) ++ cj2 s a b (pre.map (nbI a))) W ∧ Boxed W Bc2 3 (.int .i64 a) ∧ W.heap[D]? = some (.deferred (some [])))
      (fun _ _ _ => False)
      (fun pre X Y row h hg hr => ⟨Cj.own (f := fun p : List Nat => cj1 s a b (nbs b) ++ cj2 s a b (p.map (nbI a))) (by have := HJ6.bl.size; omega) (Nat.le_refl _) pre X Y row h.1 hg hr, h.2.1.kept hg (not_row_cells (W' := Y) h.2.1 (fun r e => (hr r e).2)), (hg.block D (Array.getElem?_eq_some_iff.1 h.2.2).1 (fun e => by have := (hr D e.symm).1; omega)).trans h.2.2⟩)
      (fun _ _ _ _ _ hs _ _ => hs)
      ⟨by simpa [cj2] using HJ6, hbc6, hK6⟩
      (fun x => { tmps := #[.agg cs, .int .i64 a, .int .i64 b, .pointer (some ⟨w.heap.size, 0, none⟩), .pointer (some ⟨B4, 0, none⟩), .pointer (some ⟨B5, 0, none⟩), .slice none 0 0, .pointer (some ⟨B7, 0, none⟩), undef, .int .i64 (nbI a x), .int .i64 b, .func (.func 93) #[] #[.pointer (some ⟨Bc, 0, none⟩)], undef, undef, undef, undef, undef, undef, undef, undef, undef, undef, undef, undef, undef, undef, undef, undef, undef, undef, undef, .int .i64 a, .func (.func 93) #[] #[.pointer (some ⟨Bc2, 0, none⟩)], .int .i64 (nbI a x), undef, undef, undef, undef, undef, undef, undef, undef, undef, undef, undef, undef, undef, undef, undef, undef, undef, undef, undef], defers := [] }) ?assign2 ?body2 ?done2 ?stop2
    case assign2 =>
      intro l x W K hK
      unfold encN
      gi_wp2
      exact hK
    case body2 =>
      rintro l pre0 x0 W ⟨HJ, hbx, hDk⟩ hlen
      have hDl : D < W.heap.size := (Array.getElem?_eq_some_iff.1 hDk).1
      have hxh : Hou (nbI a x0) := nbI_hou
      have hch := hb
      have hm0 : (pre0 ++ [x0]).map (nbI a) = pre0.map (nbI a) ++ [nbI a x0] := by simp
      have hpl : (pre0.map (nbI a)).length < 2 := by simpa using hlen
      obtain ⟨pre, hpre⟩ : ∃ l, pre0.map (nbI a) = l := ⟨_, rfl⟩
      obtain ⟨x, hx⟩ : ∃ y, nbI a x0 = y := ⟨_, rfl⟩
      rw [hpre] at HJ hm0 hpl
      rw [hx] at hxh hm0 ⊢
      have HM := Lib.hid hm0
      clear hpre hx hlen hm0
      obtain ⟨Bc, hBcc⟩ : ∃ B, B = Bc2 := ⟨_, rfl⟩
      rw [← hBcc] at hbx hC7 ⊢
      have hbnd : (cj1 s a b (nbs b) ++ cj2 s a b pre).length ≤ 99 := by have := cj1_len s a b (nbs b); have := cj2_len s a b pre; simp only [List.length_append]; simp only [nbs, List.length_cons, List.length_nil] at *; omega
      obtain ⟨T, hT⟩ : ∃ T, cj1 s a b (nbs b) ++ cj2 s a b pre = T := ⟨_, rfl⟩
      rw [hT] at HJ hbnd
      have HT := Lib.hid hT
      clear hT
      obtain ⟨J3, J4b, J5b, ⟨v, hv, hrw⟩, JB⟩ := HJ
      have J4 := J4b.cell
      have J5 := J5b.cell
      have HJ2 : Cj w w.heap.size w.heap.size B4 B5 B7 cs a b T W := ⟨J3, J4b, J5b, ⟨v, hv, hrw⟩, JB⟩
      obtain ⟨ca, hca⟩ : ∃ y, fg s b = y := ⟨_, rfl⟩
      obtain ⟨fx, hfx⟩ : ∃ y, fg s x = y := ⟨_, rfl⟩
      have HCA := Lib.hid hca
      have HFX := Lib.hid hfx
      clear hca hfx
      have hbcl : Bc < W.heap.size := hbx.lt
      have hsz := JB.size
      cases hxd : (x != b)
      · gi_wp2_with fail
        refine wpIn_region_vals follows_mixedB [some 34, some 35, some 36, some 37, some 38, some 39, some 40, some 41, some 42, some 43, some 44, some 45] (by kernel_rfl) [(.int .i64 x), (.int .i64 b), (.bool false), (.bool false), undef, undef, undef, undef, undef, undef, undef, (.bool false)] rfl ?step ?fin
        case step =>
          intro i hi a1 V FD
          have hi : i < 12 := hi
          have e : i = 0 ∨ i = 1 ∨ i = 2 ∨ i = 3 ∨ i = 4 ∨ i = 5 ∨ i = 6 ∨ i = 7 ∨ i = 8 ∨ i = 9 ∨ i = 10 ∨ i = 11 := by omega
          clear hi
          rcases e with rfl | rfl | rfl | rfl | rfl | rfl | rfl | rfl | rfl | rfl | rfl | rfl
          · have e9 : a1.tmps[9]?.getD undef = (.int .i64 x) := (FD.kept 9 (by kernel_rfl)).trans rfl
            refine wpOpIn_step rfl (fun K hK => ?_)
            refine Eq.mpr (if_pos (by rfl)) ?_
            go_simp
            exact hK _ _ ⟨rfl, Below.refl _ _⟩
          · have e5 : a1.tmps[5]?.getD undef = (.pointer (some ⟨B5, 0, none⟩)) := (FD.kept 5 (by kernel_rfl)).trans rfl
            refine wpOpIn_step rfl (fun K hK => ?_)
            refine Eq.mpr (if_pos (by rfl)) ?_
            have hc1 := cell_tr FD.below J5
            go_simp
            exact hK _ _ ⟨rfl, Below.refl _ _⟩
          · have e34 : a1.tmps[34]?.getD undef = (.int .i64 x) := FD.dep 0 34 (by kernel_rfl) rfl
            have e35 : a1.tmps[35]?.getD undef = (.int .i64 b) := FD.dep 1 35 (by kernel_rfl) rfl
            refine wpOpIn_step rfl (fun K hK => ?_)
            refine Eq.mpr (if_pos (by rfl)) ?_
            go_simp
            exact hK _ _ ⟨rfl, Below.refl _ _⟩
          · have e36 : a1.tmps[36]?.getD undef = (.bool false) := FD.dep 2 36 (by kernel_rfl) rfl
            refine wpOpIn_step rfl (fun K hK => ?_)
            refine Eq.mpr (if_pos (by rfl)) ?_
            go_simp
            exact hK _ _ ⟨rfl, Below.refl _ _⟩
          · have e3 : a1.tmps[3]?.getD undef = (.pointer (some ⟨w.heap.size, 0, none⟩)) := (FD.kept 3 (by kernel_rfl)).trans rfl
            have e37 : a1.tmps[37]?.getD undef = (.bool false) := FD.dep 3 37 (by kernel_rfl) rfl
            refine wpOpIn_step rfl (fun K hK => ?_)
            refine Eq.mpr (if_neg (unwanted_of rfl rfl e37 (by decide))) ?_
            exact ⟨fun _ _ => trivial, hK _ _ ⟨rfl, Below.refl _ _⟩⟩
          · have e9 : a1.tmps[9]?.getD undef = (.int .i64 x) := (FD.kept 9 (by kernel_rfl)).trans rfl
            have e37 : a1.tmps[37]?.getD undef = (.bool false) := FD.dep 3 37 (by kernel_rfl) rfl
            refine wpOpIn_step rfl (fun K hK => ?_)
            refine Eq.mpr (if_neg (unwanted_of rfl rfl e37 (by decide))) ?_
            exact ⟨fun _ _ => trivial, hK _ _ ⟨rfl, Below.refl _ _⟩⟩
          · have e38 : a1.tmps[38]?.getD undef = undef := FD.dep 4 38 (by kernel_rfl) rfl
            have e39 : a1.tmps[39]?.getD undef = undef := FD.dep 5 39 (by kernel_rfl) rfl
            have e37 : a1.tmps[37]?.getD undef = (.bool false) := FD.dep 3 37 (by kernel_rfl) rfl
            refine wpOpIn_step rfl (fun K hK => ?_)
            refine Eq.mpr (if_neg (unwanted_of rfl rfl e37 (by decide))) ?_
            exact ⟨fun _ _ => trivial, hK _ _ ⟨rfl, Below.refl _ _⟩⟩
          · have e3 : a1.tmps[3]?.getD undef = (.pointer (some ⟨w.heap.size, 0, none⟩)) := (FD.kept 3 (by kernel_rfl)).trans rfl
            have e37 : a1.tmps[37]?.getD undef = (.bool false) := FD.dep 3 37 (by kernel_rfl) rfl
            refine wpOpIn_step rfl (fun K hK => ?_)
            refine Eq.mpr (if_neg (unwanted_of rfl rfl e37 (by decide))) ?_
            exact ⟨fun _ _ => trivial, hK _ _ ⟨rfl, Below.refl _ _⟩⟩
          · have e5 : a1.tmps[5]?.getD undef = (.pointer (some ⟨B5, 0, none⟩)) := (FD.kept 5 (by kernel_rfl)).trans rfl
            have e37 : a1.tmps[37]?.getD undef = (.bool false) := FD.dep 3 37 (by kernel_rfl) rfl
            refine wpOpIn_step rfl (fun K hK => ?_)
            refine Eq.mpr (if_neg (unwanted_of rfl rfl e37 (by decide))) ?_
            exact ⟨fun _ _ => trivial, hK _ _ ⟨rfl, Below.refl _ _⟩⟩
          · have e41 : a1.tmps[41]?.getD undef = undef := FD.dep 7 41 (by kernel_rfl) rfl
            have e42 : a1.tmps[42]?.getD undef = undef := FD.dep 8 42 (by kernel_rfl) rfl
            have e37 : a1.tmps[37]?.getD undef = (.bool false) := FD.dep 3 37 (by kernel_rfl) rfl
            refine wpOpIn_step rfl (fun K hK => ?_)
            refine Eq.mpr (if_neg (unwanted_of rfl rfl e37 (by decide))) ?_
            exact ⟨fun _ _ => trivial, hK _ _ ⟨rfl, Below.refl _ _⟩⟩
          · have e40 : a1.tmps[40]?.getD undef = undef := FD.dep 6 40 (by kernel_rfl) rfl
            have e43 : a1.tmps[43]?.getD undef = undef := FD.dep 9 43 (by kernel_rfl) rfl
            have e37 : a1.tmps[37]?.getD undef = (.bool false) := FD.dep 3 37 (by kernel_rfl) rfl
            refine wpOpIn_step rfl (fun K hK => ?_)
            refine Eq.mpr (if_neg (unwanted_of rfl rfl e37 (by decide))) ?_
            exact ⟨fun _ _ => trivial, hK _ _ ⟨rfl, Below.refl _ _⟩⟩
          · have e37 : a1.tmps[37]?.getD undef = (.bool false) := FD.dep 3 37 (by kernel_rfl) rfl
            have e44 : a1.tmps[44]?.getD undef = undef := FD.dep 10 44 (by kernel_rfl) rfl
            refine wpOpIn_step rfl (fun K hK => ?_)
            refine Eq.mpr (if_pos (by rfl)) ?_
            go_simp
            exact hK _ _ ⟨rfl, Below.refl _ _⟩
        case fin =>
          intro V hb
          simp only [finV, List.set_cons_succ, List.set_cons_zero]
          have HJ3 := HJ2.below hb (Nat.le_refl _)
          have HN := Lib.hid (show cj2 s a b (pre ++ [x]) = cj2 s a b pre from cj2_no (.inl (by simpa using hxd)))
          gi_wp2
          exact ⟨keepsFrom_below hb, KpN.below hb hbcl, by rw [HM.out, HN.out, HT.out]; exact HJ3, boxed_below hbx hb, (hb.block D hDl).trans hDk⟩
      · gi_wp2_with fail
        refine wpIn_region_vals follows_mixedB [some 34, some 35, some 36, some 37, some 38, some 39, some 40, some 41, some 42, some 43, some 44, some 45] (by kernel_rfl) [(.int .i64 x), (.int .i64 b), (.bool true), (.bool true), (.agg cs), (.int .i64 x), (.int .i64 fx), (.agg cs), (.int .i64 b), (.int .i64 ca), (.bool (fx == ca)), (.bool (fx == ca))] rfl ?step ?fin
        case step =>
          intro i hi a1 V FD
          have hi : i < 12 := hi
          have e : i = 0 ∨ i = 1 ∨ i = 2 ∨ i = 3 ∨ i = 4 ∨ i = 5 ∨ i = 6 ∨ i = 7 ∨ i = 8 ∨ i = 9 ∨ i = 10 ∨ i = 11 := by omega
          clear hi
          rcases e with rfl | rfl | rfl | rfl | rfl | rfl | rfl | rfl | rfl | rfl | rfl | rfl
          · have e9 : a1.tmps[9]?.getD undef = (.int .i64 x) := (FD.kept 9 (by kernel_rfl)).trans rfl
            refine wpOpIn_step rfl (fun K hK => ?_)
            refine Eq.mpr (if_pos (by rfl)) ?_
            go_simp
            exact hK _ _ ⟨rfl, Below.refl _ _⟩
          · have e5 : a1.tmps[5]?.getD undef = (.pointer (some ⟨B5, 0, none⟩)) := (FD.kept 5 (by kernel_rfl)).trans rfl
            refine wpOpIn_step rfl (fun K hK => ?_)
            refine Eq.mpr (if_pos (by rfl)) ?_
            have hc1 := cell_tr FD.below J5
            go_simp
            exact hK _ _ ⟨rfl, Below.refl _ _⟩
          · have e34 : a1.tmps[34]?.getD undef = (.int .i64 x) := FD.dep 0 34 (by kernel_rfl) rfl
            have e35 : a1.tmps[35]?.getD undef = (.int .i64 b) := FD.dep 1 35 (by kernel_rfl) rfl
            refine wpOpIn_step rfl (fun K hK => ?_)
            refine Eq.mpr (if_pos (by rfl)) ?_
            go_simp
            exact hK _ _ ⟨rfl, Below.refl _ _⟩
          · have e36 : a1.tmps[36]?.getD undef = (.bool true) := FD.dep 2 36 (by kernel_rfl) rfl
            refine wpOpIn_step rfl (fun K hK => ?_)
            refine Eq.mpr (if_pos (by rfl)) ?_
            go_simp
            exact hK _ _ ⟨rfl, Below.refl _ _⟩
          · have e3 : a1.tmps[3]?.getD undef = (.pointer (some ⟨w.heap.size, 0, none⟩)) := (FD.kept 3 (by kernel_rfl)).trans rfl
            have e37 : a1.tmps[37]?.getD undef = (.bool true) := FD.dep 3 37 (by kernel_rfl) rfl
            refine wpOpIn_step rfl (fun K hK => ?_)
            refine Eq.mpr (if_pos (wanted_of rfl rfl e37)) ?_
            exact operIn_load_row 84 (.tmp 3) rfl w.heap.size (eval_tmp e3) 84 cs (0, 0) _ (J3.below FD.below J3.lt) Tryd.underlying84 rfl (circ_info hC) (hK _ _ ⟨rfl, Below.refl _ _⟩)
          · have e9 : a1.tmps[9]?.getD undef = (.int .i64 x) := (FD.kept 9 (by kernel_rfl)).trans rfl
            have e37 : a1.tmps[37]?.getD undef = (.bool true) := FD.dep 3 37 (by kernel_rfl) rfl
            refine wpOpIn_step rfl (fun K hK => ?_)
            refine Eq.mpr (if_pos (wanted_of rfl rfl e37)) ?_
            go_simp
            exact hK _ _ ⟨rfl, Below.refl _ _⟩
          · have e38 : a1.tmps[38]?.getD undef = (.agg cs) := FD.dep 4 38 (by kernel_rfl) rfl
            have e39 : a1.tmps[39]?.getD undef = (.int .i64 x) := FD.dep 5 39 (by kernel_rfl) rfl
            have e37 : a1.tmps[37]?.getD undef = (.bool true) := FD.dep 3 37 (by kernel_rfl) rfl
            refine wpOpIn_step rfl (fun K hK => ?_)
            refine Eq.mpr (if_pos (wanted_of rfl rfl e37)) ?_
            go_simp
            gi_wp2_with fail
            refine ⟨trivial, ?_⟩
            refine (CallsIn.inRound l (callsIn_wide.2 (figureC_any cs s m hC _ hxh _))).mono ?_
            rintro e V2 ⟨rfl, hb2⟩
            rw [HFX.out]
            exact hK _ _ ⟨rfl, hb2⟩
          · have e3 : a1.tmps[3]?.getD undef = (.pointer (some ⟨w.heap.size, 0, none⟩)) := (FD.kept 3 (by kernel_rfl)).trans rfl
            have e37 : a1.tmps[37]?.getD undef = (.bool true) := FD.dep 3 37 (by kernel_rfl) rfl
            refine wpOpIn_step rfl (fun K hK => ?_)
            refine Eq.mpr (if_pos (wanted_of rfl rfl e37)) ?_
            exact operIn_load_row 84 (.tmp 3) rfl w.heap.size (eval_tmp e3) 84 cs (0, 0) _ (J3.below FD.below J3.lt) Tryd.underlying84 rfl (circ_info hC) (hK _ _ ⟨rfl, Below.refl _ _⟩)
          · have e5 : a1.tmps[5]?.getD undef = (.pointer (some ⟨B5, 0, none⟩)) := (FD.kept 5 (by kernel_rfl)).trans rfl
            have e37 : a1.tmps[37]?.getD undef = (.bool true) := FD.dep 3 37 (by kernel_rfl) rfl
            refine wpOpIn_step rfl (fun K hK => ?_)
            refine Eq.mpr (if_pos (wanted_of rfl rfl e37)) ?_
            have hc1 := cell_tr FD.below J5
            go_simp
            exact hK _ _ ⟨rfl, Below.refl _ _⟩
          · have e41 : a1.tmps[41]?.getD undef = (.agg cs) := FD.dep 7 41 (by kernel_rfl) rfl
            have e42 : a1.tmps[42]?.getD undef = (.int .i64 b) := FD.dep 8 42 (by kernel_rfl) rfl
            have e37 : a1.tmps[37]?.getD undef = (.bool true) := FD.dep 3 37 (by kernel_rfl) rfl
            refine wpOpIn_step rfl (fun K hK => ?_)
            refine Eq.mpr (if_pos (wanted_of rfl rfl e37)) ?_
            go_simp
            gi_wp2_with fail
            refine ⟨trivial, ?_⟩
            refine (CallsIn.inRound l (callsIn_wide.2 (figureC_any cs s m hC _ hch _))).mono ?_
            rintro e V2 ⟨rfl, hb2⟩
            rw [HCA.out]
            exact hK _ _ ⟨rfl, hb2⟩
          · have e40 : a1.tmps[40]?.getD undef = (.int .i64 fx) := FD.dep 6 40 (by kernel_rfl) rfl
            have e43 : a1.tmps[43]?.getD undef = (.int .i64 ca) := FD.dep 9 43 (by kernel_rfl) rfl
            have e37 : a1.tmps[37]?.getD undef = (.bool true) := FD.dep 3 37 (by kernel_rfl) rfl
            refine wpOpIn_step rfl (fun K hK => ?_)
            refine Eq.mpr (if_pos (wanted_of rfl rfl e37)) ?_
            go_simp
            exact hK _ _ ⟨rfl, Below.refl _ _⟩
          · have e37 : a1.tmps[37]?.getD undef = (.bool true) := FD.dep 3 37 (by kernel_rfl) rfl
            have e44 : a1.tmps[44]?.getD undef = (.bool (fx == ca)) := FD.dep 10 44 (by kernel_rfl) rfl
            refine wpOpIn_step rfl (fun K hK => ?_)
            refine Eq.mpr (if_pos (by rfl)) ?_
            go_simp
            exact hK _ _ ⟨rfl, Below.refl _ _⟩
        case fin =>
          intro V hb
          simp only [finV, List.set_cons_succ, List.set_cons_zero]
          have HJ3 := HJ2.below hb (Nat.le_refl _)
          have hbx3 := boxed_below hbx hb
          cases hq : (fx == ca)
          · have HN := Lib.hid (show cj2 s a b (pre ++ [x]) = cj2 s a b pre from cj2_no (.inr (by rw [HFX.out, HCA.out]; exact hq)))
            gi_wp2
            exact ⟨keepsFrom_below hb, KpN.below hb hbcl, by rw [HM.out, HN.out, HT.out]; exact HJ3, hbx3, (hb.block D hDl).trans hDk⟩
          · have HN := Lib.hid (show cj2 s a b (pre ++ [x]) = cj2 s a b pre ++ [(2, a, x)] from cj2_yes (by simpa using hxd) (by rw [HFX.out, HCA.out]; exact hq))
            clear HJ2 hv hrw J3 J4b J5b J4 J5 JB
            obtain ⟨J3, J4b, J5b, ⟨v, hv, hrw⟩, JB⟩ := HJ3
            have J4 := J4b.cell
            have J5 := J5b.cell
            have hcv := hv.cell
            have hcf := hv.frozen
            have hsz3 := JB.size
            gi_wp2_with (gi_at_builtin; refine wpListIn_append_own _ rfl _ _ 40 rfl w.heap.size 66 i0 (.agg #[.int .i64 0, .int .i64 0, .int .i64 0]) 3 24 Tryd.underlying40 hi hz0 hz1 hz2 rfl (by decide) _ _ _ rfl (hrw.alloc _) ⟨V.heap.size, 0, none⟩ 1 1 [.int .i64 2, .int .i64 a, .int .i64 x] rfl rfl (cell_three_new _ _ _ _ _) (by simp [Value.oneCell']) (by unfold maxLen; omega) (by omega) (by simp; omega) ?_; intro v' w1 hown' hgrow _; obtain ⟨g', cap', rfl⟩ := ownsRow_succ hown'; obtain ⟨hv1, hv3, hr3, hk3, hb3⟩ := hv.appended (by decide) hrw (by omega) (by omega) hown' hgrow; have hc1 := hv1.cell; have hf1 := hv1.frozen)
            refine ⟨(keepsFrom_below hb).trans (hk3.from _), ⟨Nat.le_trans hb.size hb3.size, (far_block hbx3.lt (hbx3.not_row (by decide) hrw) (by omega) hgrow _).trans (hb.block _ hbcl)⟩, ?_, (far_block hbx3.lt (hbx3.not_row (by decide) hrw) (by omega) hgrow _).trans hbx3, (far_block (Nat.lt_of_lt_of_le hDl hb.size) (def_not_row ((hb.block D hDl).trans hDk) hrw) (by omega) hgrow _).trans ((hb.block D hDl).trans hDk)⟩
            rw [HM.out, HN.out]
            rw [← List.append_assoc]
            rw [HT.out]
            exact Cj.appended J3 J4b J5b JB hrw hgrow hv3 hr3 hb3 (by omega) (by omega) (by omega)

    case done2 =>
      rintro D2 ys W hD2 rfl ⟨HJ, hbx, hDk⟩ hK2
      rw [nbI_all] at HJ
      obtain ⟨v, hv, hrw⟩ := HJ.tb
      have hcv := hv.cell
      have hbl := HJ.bl
      have hDl2 : D < D2 := by have := hD2; omega
      clear HJ hbx hv
      gi_wp2
      have hg2 := grownBy_putObj' W D2 (.deferred none)
      have hK3 : (W.putObj D2 (.deferred none)).heap[D]? = some (.deferred (some [])) := (World.putObj_heap_other (by omega)).trans hDk
      refine ⟨by simp, .inl ⟨_, _, rfl, run_takeDeferred hK2, by simp, .inl ⟨_, _, rfl, run_takeDeferred hK3, ?_⟩⟩⟩
      have hr2 := ownsRow_putObj hrw (.deferred none) hK2 rfl
      have hr3 := ownsRow_putObj hr2 (.deferred none) hK3 rfl
      have hg3 := grownBy_putObj' (W.putObj D2 (.deferred none)) D (.deferred none)
      exact ⟨_, results_tmp rfl _ _ _, v, rfl, hr3, (hbl.grown hg2 hbl.size (fun k e => by cases e; omega)).grown hg3 (Nat.le_trans hbl.size hg2.size) (fun k e => by cases e; omega)⟩
    case stop2 =>
      rintro D cc pre W _ _ h _
      exact h.elim
  case stop =>
    rintro D cc pre W _ _ h _
    exact h.elim
end Go.Proofs.YtdnccdobnhbpeaaDoor
