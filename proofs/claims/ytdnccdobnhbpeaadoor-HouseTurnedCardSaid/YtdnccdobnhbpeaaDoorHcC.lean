/-
  The circle of houses: mutations.
-/
import Derived.Test.YtdnccdobnhbpeaaDoorHcB
namespace Go.Proofs.YtdnccdobnhbpeaaDoor
open Go Go.RowKit Go.Shelf Go.Maps Go.ChangeShapes
set_option linter.unusedVariables false
set_option linter.unusedSimpArgs false

theorem operIn_lookup_groups {F : Fence} {nF : Nat} {P : Program} {o : Oper} {ac : Act} {w : World} {K : Act → World → Prop} {Q : Exit → Act → World → Prop} (m x : Operand) (t : TypeId) (hop : o.op = Op.lookup t m x false)
    (k E e : TypeId) (q : IntKind) (KK : Keyed P k) (ht : P.underlying t = some (.map k E)) (hz : (zeroValue E).run P w = .ok (.slice none 0 0) w) (base b n : Nat) (D : DataW Unit)
    (hm : ac.eval m = .map (some b)) (hown : w.ownsGroups P k base e q b n D) (hn : n < maxLen) (key : Value) (kl : Lit) (hx : ac.eval x = key) (hkey : keyOf P k key = some kl)
    (hK : ∀ v zs, D.atKey kl .nil = rowDatum q v zs → w.ownsInts base e q v zs → zs.length ≤ n → K (ac.put o.dst v) w) : Oper.wpIn F nF P o ac w K Q := by
  obtain ⟨v, zs, hrun, hat, hoi, hzl, hback⟩ := hown.at KK ht hz hn hkey
  unfold Oper.wpIn
  refine ⟨by simp [Oper.about, hop], ?_⟩
  rw [Oper.semAt_plain F _ _ (by rw [hop]; intro c hc'; cases hc')]
  simp [execOp, hop, hm, hx, hrun, Result.andThen]
  exact hK v zs hat hoi hzl
/-- The marks for the rounds' deferred calls. -/
def coll (D : Nat) : Deferred := { target := .collected D, args := #[] }
def Dfs (n₀ : Nat) (Ds : List Nat) (W : World) : Prop := Ds.Nodup ∧ ∀ D ∈ Ds, n₀ ≤ D ∧ W.heap[D]? = some (.deferred (some []))
theorem Dfs.kept {n₀ : Nat} {Ds : List Nat} {W W' : World} {row : Option Nat} (h : Dfs n₀ Ds W) (hg : W.grownBy W' row) (hr : ∀ D ∈ Ds, some D ≠ row) : Dfs n₀ Ds W' :=
  ⟨h.1, fun D hD => ⟨(h.2 D hD).1, (hg.block D (Array.getElem?_eq_some_iff.1 (h.2 D hD).2).1 (hr D hD)).trans (h.2 D hD).2⟩⟩
theorem Dfs.below {n₀ : Nat} {Ds : List Nat} {W W' : World} (h : Dfs n₀ Ds W) (hb : Below W.heap.size W W') : Dfs n₀ Ds W' := h.kept (grown_of_below hb) (fun D _ e => by cases e)
theorem Dfs.lt {n₀ : Nat} {Ds : List Nat} {W : World} (h : Dfs n₀ Ds W) {D : Nat} (hD : D ∈ Ds) : D < W.heap.size := (Array.getElem?_eq_some_iff.1 (h.2 D hD).2).1
theorem Dfs.appended {n₀ B7 size k e : Nat} {Ds : List Nat} {V w1 : World} {tmp : Obj} {v v' u : Value} {xs : List Value} {t7 : TypeId} (h : Dfs n₀ Ds V) (h7 : Boxed V B7 t7 u) (hrw : V.ownsRow n₀ e size v k xs) (hg : (V.alloc tmp).grownBy w1 v.ownBlock) : Dfs n₀ Ds (w1.setCell ⟨B7, 0, none⟩ v') :=
  ⟨h.1, fun D hD => ⟨(h.2 D hD).1, (far_block (h.lt hD) (def_not_row (h.2 D hD).2 hrw) (fun e' => by
    subst e'
    have h1 := (h.2 D hD).2
    rw [show V.heap[D]? = _ from h7] at h1
    cases h1) hg v').trans (h.2 D hD).2⟩⟩
theorem leaves_collected {F : Fence} {n : Nat} {P : Program} {fn : Func} {tmps : Array Value} {R : Ending → World → Prop} {n₀ : Nat} (S : World → Prop)
    (hS : ∀ W D, S W → W.heap[D]? = some (.deferred (some [])) → n₀ ≤ D → S (W.putObj D (.deferred none))) (hfin : ∀ W, S W → LeavesInM F n P fn tmps R [] .returning W) :
    ∀ (Ds : List Nat) (W : World), Dfs n₀ Ds W → S W → LeavesInM F n P fn tmps R (Ds.map coll) .returning W := by
  intro Ds
  induction Ds with
  | nil => exact fun W _ h => hfin W h
  | cons D Ds ih =>
    intro W hD h
    have h0 := hD.2 D (by simp)
    refine ⟨by simp, .inl ⟨_, _, rfl, run_takeDeferred h0.2, ih _ ⟨(List.nodup_cons.1 hD.1).2, fun E hE => ⟨(hD.2 E (by simp [hE])).1, ?_⟩⟩ (hS W D h h0.2 h0.1)⟩⟩
    have hne : D ≠ E := fun e => (List.nodup_cons.1 hD.1).1 (by rw [e]; exact hE)
    exact (World.putObj_heap_other (by omega)).trans (hD.2 E (by simp [hE])).2
/-- The ties by both figures next to each other elsewhere: at one house of the first figure. -/
def mu1 (s : List Int) (a b x : Int) (l : List Int) : List T3 := (l.filter fun y => thirdB a b x && thirdB a b y && (fg s y == fg s b)).map fun y => (3, x, y)
theorem mu1_yes {s : List Int} {a b x y : Int} {l : List Int} (h : (thirdB a b x && thirdB a b y && (fg s y == fg s b)) = true) : mu1 s a b x (l ++ [y]) = mu1 s a b x l ++ [(3, x, y)] := by
  simp only [mu1, List.filter_append, List.map_append, List.filter_cons, List.filter_nil, h]; simp
theorem mu1_no {s : List Int} {a b x y : Int} {l : List Int} (h : (thirdB a b x && thirdB a b y && (fg s y == fg s b)) = false) : mu1 s a b x (l ++ [y]) = mu1 s a b x l := by
  simp only [mu1, List.filter_append, List.map_append, List.filter_cons, List.filter_nil, h]; simp
theorem mu1_len (s : List Int) (a b x : Int) (l : List Int) : (mu1 s a b x l).length ≤ l.length := by simp only [mu1, List.length_map]; exact List.length_filter_le _ _
def muL (s : List Int) (a b : Int) (xs : List Int) : List T3 := xs.flatMap fun x => mu1 s a b x (nbs x)
theorem muL_snoc (s : List Int) (a b : Int) (xs : List Int) (x : Int) : muL s a b (xs ++ [x]) = muL s a b xs ++ mu1 s a b x (nbs x) := by simp [muL]
theorem muL_len (s : List Int) (a b : Int) (xs : List Int) : (muL s a b xs).length ≤ 2 * xs.length := by
  induction xs with
  | nil => simp [muL]
  | cons x xs ih =>
    have h1 := mu1_len s a b x (nbs x)
    have h2 : muL s a b (x :: xs) = mu1 s a b x (nbs x) ++ muL s a b xs := by simp [muL]
    rw [h2, List.length_append, List.length_cons]
    have hn : (nbs x).length = 2 := rfl
    omega
theorem own_ne {W : World} {b1 e1 s1 n1 b2 e2 s2 n2 : Nat} {v1 v2 : Value} {x1 x2 : List Value} (h1 : W.ownsRow b1 e1 s1 v1 n1 x1) (h2 : W.ownsRow b2 e2 s2 v2 n2 x2) (he : e1 ≠ e2) : v1.ownBlock = none ∨ v1.ownBlock ≠ v2.ownBlock := by
  rcases h1.2 with ⟨rfl, _⟩ | ⟨g, cap, cur, rfl, _, hgb, _⟩
  · exact .inl rfl
  · refine .inr fun e => ?_
    rcases h2.2 with ⟨rfl, _⟩ | ⟨g', cap', cur', rfl, _, hgb', _⟩
    · simp [Value.ownBlock] at e
    · obtain rfl : g = g' := by simpa [Value.ownBlock] using e
      rw [hgb] at hgb'
      cases hgb'
      exact he rfl
/-- What the loops over the houses of a figure hold. -/
structure Mj (w : World) (n₀ B3 Pa Qb B5 B7 B8 : Nat) (cs : Array Value) (a b : Int) (base : Nat) (vz : Value) (zs : List Int) (ts : List T3) (W : World) : Prop where
  cj : Cj w n₀ B3 Pa B5 B7 cs a b ts W
  qb : Boxed W Qb 3 (.int .i64 b)
  c8 : Boxed W B8 32 (.func (.func 94) #[] #[.pointer (some ⟨Pa, 0, none⟩), .pointer (some ⟨Qb, 0, none⟩)])
  vz : W.ownsRow base 3 1 vz zs.length (zs.map (Value.int .i64))
theorem Mj.kept {w : World} {n₀ B3 Pa Qb B5 B7 B8 : Nat} {cs : Array Value} {a b : Int} {base : Nat} {vz : Value} {zs : List Int} {ts : List T3} {W W' : World} (h : Mj w n₀ B3 Pa Qb B5 B7 B8 cs a b base vz zs ts W) {row : Option Nat} (hg : W.grownBy W' row) (hr : ∀ r, row = some r → ∃ o : Obj, W.heap[r]? = some o ∧ o.isCells = false) (hb : Below n₀ w W') : Mj w n₀ B3 Pa Qb B5 B7 B8 cs a b base vz zs ts W' :=
  ⟨h.cj.kept hg hr hb, h.qb.kept hg (not_row_cells (W' := W') h.qb hr), h.c8.kept hg (not_row_cells (W' := W') h.c8 hr), ownsRow_keptB h.vz hg hr⟩
theorem Mj.own {w : World} {n₀ B3 Pa Qb B5 B7 B8 B : Nat} {cs : Array Value} {a b : Int} {base : Nat} {vz : Value} {zs : List Int} {β : Type} {f : β → List T3} (hB : n₀ ≤ B) (hw : n₀ ≤ w.heap.size) : OwnFrom B (fun (s : β) W => Mj w n₀ B3 Pa Qb B5 B7 B8 cs a b base vz zs (f s) W) := fun s X Y row h hg hr =>
  h.kept hg (fun r e => (hr r e).2) (h.cj.bl.grown hg (Nat.le_trans hw h.cj.bl.size) (fun k e => Nat.le_trans hB (hr k e).1))
theorem Mj.below {w : World} {n₀ B3 Pa Qb B5 B7 B8 : Nat} {cs : Array Value} {a b : Int} {base : Nat} {vz : Value} {zs : List Int} {ts : List T3} {W W' : World} (h : Mj w n₀ B3 Pa Qb B5 B7 B8 cs a b base vz zs ts W) (hb : Below W.heap.size W W') (hn : n₀ ≤ w.heap.size) : Mj w n₀ B3 Pa Qb B5 B7 B8 cs a b base vz zs ts W' :=
  h.kept (grown_of_below hb) (fun r e => by cases e) (h.cj.bl.trans (hb.mono (Nat.le_trans hn h.cj.bl.size)))
theorem Mj.appended {w : World} {n₀ B3 Pa Qb B5 B7 B8 : Nat} {cs : Array Value} {a b : Int} {base : Nat} {vz : Value} {zs : List Int} {ts : List T3} {t : T3} {V w1 : World} {tmp : Obj} {v v' : Value} (J : Mj w n₀ B3 Pa Qb B5 B7 B8 cs a b base vz zs ts V) (hv : Boxed V B7 40 v)
    (hrw : V.ownsRow n₀ 66 3 v ts.length (rowT ts)) (hg : (V.alloc tmp).grownBy w1 v.ownBlock) (hv1 : Boxed w1 B7 40 v) (hv3 : Boxed (w1.setCell ⟨B7, 0, none⟩ v') B7 40 v') (hr3 : (w1.setCell ⟨B7, 0, none⟩ v').ownsRow n₀ 66 3 v' (ts.length + 1) (rowT ts ++ encT t)) (hb3 : Below n₀ V (w1.setCell ⟨B7, 0, none⟩ v'))
    (h37 : B3 ≠ B7) (h47 : Pa ≠ B7) (h57 : B5 ≠ B7) (hq7 : Qb ≠ B7) (h87 : B8 ≠ B7) : Mj w n₀ B3 Pa Qb B5 B7 B8 cs a b base vz zs (ts ++ [t]) (w1.setCell ⟨B7, 0, none⟩ v') := by
  refine ⟨Cj.appended J.cj.c3 J.cj.c4 J.cj.c5 J.cj.bl hrw hg hv3 hr3 hb3 h37 h47 h57, (far_block J.qb.lt (J.qb.not_row (by decide) hrw) hq7 hg v').trans J.qb, (far_block J.c8.lt (J.c8.not_row (by decide) hrw) h87 hg v').trans J.c8, ?_⟩
  have h1 := (J.vz.alloc tmp).kept hg (own_ne J.vz hrw (by decide))
  exact h1.kept (grownBy_setCell' w1 B7 v') (.inr (hv1.not_row (by decide) h1).symm)
theorem standL_len (s : List Int) (f : Int) (k : Nat) : (standL s f k).length ≤ k := by
  unfold standL
  rw [List.length_map]
  exact Nat.le_trans (List.length_filter_le _ _) (by simp)
theorem standL_hou (s : List Int) (f : Int) : ∀ k, k < (standL s f 12).length → Hou (nth (standL s f 12) k) := fun k hk => by
  have hm := nth_mem hk
  unfold standL at hm
  obtain ⟨j, hj, e⟩ := List.mem_map.1 hm
  have := List.mem_range.1 (List.mem_filter.1 hj).1
  rw [show nth (standL s f 12) k = _ from e.symm]
  unfold Hou
  omega
/-- What the operations of the region ahead of the loop come to. -/
def MuR (B3 mb : Nat) (cs : Array Value) (a fa : Int) (base : Nat) (zs : List Int) : Nat → Value → World → Prop
  | 0, x, _ => x = .pointer (some ⟨B3, 12, none⟩)
  | 1, x, _ => x = .map (some mb)
  | 2, x, _ => x = .agg cs
  | 3, x, _ => x = .int .i64 a
  | 4, x, _ => x = .int .i64 fa
  | 5, x, V => ∃ ys, V.ownsInts base 3 .i64 x ys ∧ ys = zs
  | 6, x, _ => x = .int .i64 (zs.length : Int)
  | 7, x, _ => x = .int .i64 0
  | _, _, _ => True
theorem MuR.stab (B3 mb : Nat) (cs : Array Value) (a fa : Int) (base : Nat) (zs : List Int) (i : Nat) (x : Value) (V V' : World) (h : MuR B3 mb cs a fa base zs i x V) (hb : Below V.heap.size V V') : MuR B3 mb cs a fa base zs i x V' := by
  match i with
  | 0 => exact h
  | 1 => exact h
  | 2 => exact h
  | 3 => exact h
  | 4 => exact h
  | 5 =>
    obtain ⟨ys, h1, h2⟩ := h
    exact ⟨ys, ⟨ownsRow_keptB h1.1 (grown_of_below hb) (fun r e => by cases e), h1.2⟩, h2⟩
  | 6 => exact h
  | 7 => exact h
  | n + 8 => exact h
attribute [local go_sem] Oper.semAt_some

set_option maxRecDepth 100000 in
set_option maxHeartbeats 8000000 in
theorem mut_in (cs : Array Value) (s : List Int) (mb : Nat) (hC : Circ cs s (some mb)) (a b : Int) (ha : Hou a) (hb : Hou b) (base : Nat) (Dm : DataW Unit) (w : World) (HG : Hid (w.ownsGroups Tryd.prog 22 base 3 .i64 mb 12 Dm)) (hAt : Hid (∀ f : Int, Dm.atKey (.int .i64 f) .nil = stD s f 12)) (hF : Fig (fg s a)) :
    CallsIn Fence.wide 6 Tryd.prog 59 #[.agg cs, .int .i64 a, .int .i64 b] w fun e W' => ∃ v, e = .returned v ∧ W'.ownsRow w.heap.size 66 3 v (muL s a b (standL s (fg s a) 12)).length (rowT (muL s a b (standL s (fg s a) 12))) ∧ Below w.heap.size w W' := by
  obtain ⟨i0, hi, hz0, hz1, hz2⟩ := info_parts info_tie
  refine callsIn_of_wp_marks Tryd.func59 rfl trivial ?_ rfl
  simp only [Tryd.ntmps59, List.size_toArray, List.length_cons, List.length_nil, Nat.reduceAdd, Nat.reduceSub, Array.replicate_succ, Array.replicate_zero, List.push_toArray, List.append_toArray, List.nil_append, List.cons_append]
  gi_wp2_with fail
  refine ⟨trivial, ?_⟩
  refine (callsIn_wide.2 (thirds_any a b _)).mono ?_
  rintro e w1 ⟨rfl, rfl⟩
  have q3 : Blk ((((w.alloc (.cells cs 84)).alloc (.cells #[.int .i64 b] 3)).alloc (.cells #[.slice none 0 0] 40)).alloc (.cells #[.int .i64 a] 3)) w.heap.size 84 cs := (((Blk.new w 84 cs).alloc _).alloc _).alloc _
  have e1 : (w.alloc (.cells cs 84)).heap.size = w.heap.size + 1 := by simp
  have e2 : ((w.alloc (.cells cs 84)).alloc (.cells #[.int .i64 b] 3)).heap.size = w.heap.size + 1 + 1 := by simp
  have e3 : (((w.alloc (.cells cs 84)).alloc (.cells #[.int .i64 b] 3)).alloc (.cells #[.slice none 0 0] 40)).heap.size = w.heap.size + 1 + 1 + 1 := by simp
  have e4 : ((((w.alloc (.cells cs 84)).alloc (.cells #[.int .i64 b] 3)).alloc (.cells #[.slice none 0 0] 40)).alloc (.cells #[.int .i64 a] 3)).heap.size = w.heap.size + 1 + 1 + 1 + 1 := by simp
  have q5 : Boxed (((((w.alloc (.cells cs 84)).alloc (.cells #[.int .i64 b] 3)).alloc (.cells #[.slice none 0 0] 40)).alloc (.cells #[.int .i64 a] 3)).alloc (.cells #[.int .i64 b] 3)) (w.heap.size + 1) 3 (.int .i64 b) := by
    rw [← e1]; exact (((Boxed.new _ _ _).alloc _).alloc _).alloc _
  have q7 : Boxed (((((w.alloc (.cells cs 84)).alloc (.cells #[.int .i64 b] 3)).alloc (.cells #[.slice none 0 0] 40)).alloc (.cells #[.int .i64 a] 3)).alloc (.cells #[.int .i64 b] 3)) (w.heap.size + 1 + 1) 40 (.slice none 0 0) := by
    rw [← e2]; exact ((Boxed.new _ _ _).alloc _).alloc _
  have qa : Boxed (((((w.alloc (.cells cs 84)).alloc (.cells #[.int .i64 b] 3)).alloc (.cells #[.slice none 0 0] 40)).alloc (.cells #[.int .i64 a] 3)).alloc (.cells #[.int .i64 b] 3)) (w.heap.size + 1 + 1 + 1) 3 (.int .i64 a) := by
    rw [← e3]; exact (Boxed.new _ _ _).alloc _
  have qb : Boxed (((((w.alloc (.cells cs 84)).alloc (.cells #[.int .i64 b] 3)).alloc (.cells #[.slice none 0 0] 40)).alloc (.cells #[.int .i64 a] 3)).alloc (.cells #[.int .i64 b] 3)) (w.heap.size + 1 + 1 + 1 + 1) 3 (.int .i64 b) := by
    rw [← e4]; exact Boxed.new _ _ _
  have q3' := q3.alloc (.cells #[.int .i64 b] 3)
  have hBl : Below w.heap.size w (((((w.alloc (.cells cs 84)).alloc (.cells #[.int .i64 b] 3)).alloc (.cells #[.slice none 0 0] 40)).alloc (.cells #[.int .i64 a] 3)).alloc (.cells #[.int .i64 b] 3)) := (((((Below.refl _ _).alloc (Nat.le_refl _) _).alloc (by omega) _).alloc (by omega) _).alloc (by omega) _).alloc (by omega) _
  clear q3 e1 e2 e3 e4
  have hgr0 : w.grownBy (((((w.alloc (.cells cs 84)).alloc (.cells #[.int .i64 b] 3)).alloc (.cells #[.slice none 0 0] 40)).alloc (.cells #[.int .i64 a] 3)).alloc (.cells #[.int .i64 b] 3)) none := grown_of_below hBl
  generalize (((((w.alloc (.cells cs 84)).alloc (.cells #[.int .i64 b] 3)).alloc (.cells #[.slice none 0 0] 40)).alloc (.cells #[.int .i64 a] 3)).alloc (.cells #[.int .i64 b] 3)) = W0 at q3' q5 q7 qa qb hBl hgr0 ⊢
  have h8 : Boxed (W0.alloc (.cells #[.nilFunc] 32)) W0.heap.size 32 .nilFunc := Boxed.new _ _ _
  have h8c := h8.cell
  have h8f := h8.frozen
  have hst : (store (⟨W0.heap.size, 0, none⟩ : Addr) (.func (.func 94) #[] #[.pointer (some ⟨w.heap.size + 1 + 1 + 1, 0, none⟩), .pointer (some ⟨w.heap.size + 1 + 1 + 1 + 1, 0, none⟩)])).run Tryd.prog (W0.alloc (.cells #[.nilFunc] 32)) = .ok () ((W0.alloc (.cells #[.nilFunc] 32)).setCell ⟨W0.heap.size, 0, none⟩ (.func (.func 94) #[] #[.pointer (some ⟨w.heap.size + 1 + 1 + 1, 0, none⟩), .pointer (some ⟨w.heap.size + 1 + 1 + 1 + 1, 0, none⟩)])) := by
    rw [run_store _ _ _ _ _ rfl]
    simp [stored, h8c, h8f]
  gi_wp2_with fail
  have hcS : ∀ j, j < W0.heap.size → (W0.alloc (.cells #[.func (.func 94) #[] #[.pointer (some ⟨w.heap.size + 1 + 1 + 1, 0, none⟩), .pointer (some ⟨w.heap.size + 1 + 1 + 1 + 1, 0, none⟩)]] 32)).heap[j]? = W0.heap[j]? := fun j hj => Below.heap_alloc _ _ _ hj
  have h8' : Boxed (W0.alloc (.cells #[.func (.func 94) #[] #[.pointer (some ⟨w.heap.size + 1 + 1 + 1, 0, none⟩), .pointer (some ⟨w.heap.size + 1 + 1 + 1 + 1, 0, none⟩)]] 32)) W0.heap.size 32 (.func (.func 94) #[] #[.pointer (some ⟨w.heap.size + 1 + 1 + 1, 0, none⟩), .pointer (some ⟨w.heap.size + 1 + 1 + 1 + 1, 0, none⟩)]) := Boxed.new _ _ _
  have hB1 : Below w.heap.size w (W0.alloc (.cells #[.func (.func 94) #[] #[.pointer (some ⟨w.heap.size + 1 + 1 + 1, 0, none⟩), .pointer (some ⟨w.heap.size + 1 + 1 + 1 + 1, 0, none⟩)]] 32)) := hBl.trans ⟨rfl, rfl, rfl, by simp, fun j hj => hcS j (by have := hBl.size; omega)⟩
  have p3 : Blk (W0.alloc (.cells #[.func (.func 94) #[] #[.pointer (some ⟨w.heap.size + 1 + 1 + 1, 0, none⟩), .pointer (some ⟨w.heap.size + 1 + 1 + 1 + 1, 0, none⟩)]] 32)) w.heap.size 84 cs := (hcS _ q3'.lt).trans q3'
  have p5 : Boxed (W0.alloc (.cells #[.func (.func 94) #[] #[.pointer (some ⟨w.heap.size + 1 + 1 + 1, 0, none⟩), .pointer (some ⟨w.heap.size + 1 + 1 + 1 + 1, 0, none⟩)]] 32)) (w.heap.size + 1) 3 (.int .i64 b) := (hcS _ q5.lt).trans q5
  have p7 : Boxed (W0.alloc (.cells #[.func (.func 94) #[] #[.pointer (some ⟨w.heap.size + 1 + 1 + 1, 0, none⟩), .pointer (some ⟨w.heap.size + 1 + 1 + 1 + 1, 0, none⟩)]] 32)) (w.heap.size + 1 + 1) 40 (.slice none 0 0) := (hcS _ q7.lt).trans q7
  have pa : Boxed (W0.alloc (.cells #[.func (.func 94) #[] #[.pointer (some ⟨w.heap.size + 1 + 1 + 1, 0, none⟩), .pointer (some ⟨w.heap.size + 1 + 1 + 1 + 1, 0, none⟩)]] 32)) (w.heap.size + 1 + 1 + 1) 3 (.int .i64 a) := (hcS _ qa.lt).trans qa
  have pb : Boxed (W0.alloc (.cells #[.func (.func 94) #[] #[.pointer (some ⟨w.heap.size + 1 + 1 + 1, 0, none⟩), .pointer (some ⟨w.heap.size + 1 + 1 + 1 + 1, 0, none⟩)]] 32)) (w.heap.size + 1 + 1 + 1 + 1) 3 (.int .i64 b) := (hcS _ qb.lt).trans qb
  have hlt8 := qb.lt
  generalize (W0.alloc (.cells #[.func (.func 94) #[] #[.pointer (some ⟨w.heap.size + 1 + 1 + 1, 0, none⟩), .pointer (some ⟨w.heap.size + 1 + 1 + 1 + 1, 0, none⟩)]] 32)) = W1 at h8' hB1 p3 p5 p7 pa pb ⊢
  clear hcS q3' q5 q7 qa qb hBl h8 h8c h8f hgr0 hst
  obtain ⟨B8, hB8⟩ : ∃ B, W0.heap.size = B := ⟨_, rfl⟩
  rw [hB8] at h8' hlt8 ⊢
  obtain ⟨Qb, hQb⟩ : ∃ B, w.heap.size + 1 + 1 + 1 + 1 = B := ⟨_, rfl⟩
  rw [hQb] at h8' hlt8 pb ⊢
  obtain ⟨Pa, hPa⟩ : ∃ B, w.heap.size + 1 + 1 + 1 = B := ⟨_, rfl⟩
  rw [hPa] at h8' pa ⊢
  obtain ⟨B7, hB7⟩ : ∃ B, w.heap.size + 1 + 1 = B := ⟨_, rfl⟩
  rw [hB7] at p7 ⊢
  obtain ⟨B5, hB5⟩ : ∃ B, w.heap.size + 1 = B := ⟨_, rfl⟩
  rw [hB5] at p5 ⊢
  have hBB : w.heap.size < B5 ∧ B5 < B7 ∧ B7 < Pa ∧ Pa < Qb ∧ Qb < B8 := by omega
  clear hB8 hQb hPa hB7 hB5 hlt8
  have J3 := p3
  have HKEY := Lib.hid (show keyOf Tryd.prog 22 (.int .i64 (fg s a)) = some (.int .i64 (fg s a)) from keyOf_int_mk Tryd.underlying22 (by unfold Fig at hF; simp [Lit.wf, IntKind.min, IntKind.max, IntKind.signed, IntKind.bits]; omega))
  have HG := Lib.hid (groups_kept HG.out (grown_of_below (show Below w.heap.size w W1 from hB1)) (fun r e => by cases e))
  refine wpIn_region_mono follows_mixedB [some 15, some 16, some 17, some 18, some 19, some 20, some 21, some 22] (by kernel_rfl) (MuR w.heap.size mb cs a (fg s a) base (standL s (fg s a) 12)) (MuR.stab _ _ _ _ _ _ _) ?step ?fin
  case step =>
    intro i hi a1 V FD
    have hi : i < 8 := hi
    have e : i = 0 ∨ i = 1 ∨ i = 2 ∨ i = 3 ∨ i = 4 ∨ i = 5 ∨ i = 6 ∨ i = 7 := by omega
    clear hi
    rcases e with rfl | rfl | rfl | rfl | rfl | rfl | rfl | rfl
    · have e3 : a1.tmps[3]?.getD undef = (.pointer (some ⟨w.heap.size, 0, none⟩)) := (FD.kept 3 (by kernel_rfl)).trans rfl
      refine wpOpIn_step rfl (fun K hK => ?_)
      refine Eq.mpr (if_pos (by rfl)) ?_
      go_simp
      exact hK _ _ ⟨_, rfl, rfl, Below.refl _ _⟩
    · have e15 : a1.tmps[15]?.getD undef = (.pointer (some ⟨w.heap.size, 12, none⟩)) := by
        obtain ⟨x, hx, ht⟩ := FD.dep 0 (by kernel_rfl)
        rw [ht 15 rfl]; exact hx
      refine wpOpIn_step rfl (fun K hK => ?_)
      refine Eq.mpr (if_pos (by rfl)) ?_
      have hc12 : V.cell? ⟨w.heap.size, 12, none⟩ = some (.map (some mb)) := ((J3.below FD.below J3.lt).cell 12).trans hC.map
      go_simp
      exact hK _ _ ⟨_, rfl, rfl, Below.refl _ _⟩
    · have e3 : a1.tmps[3]?.getD undef = (.pointer (some ⟨w.heap.size, 0, none⟩)) := (FD.kept 3 (by kernel_rfl)).trans rfl
      refine wpOpIn_step rfl (fun K hK => ?_)
      refine Eq.mpr (if_pos (by rfl)) ?_
      exact operIn_load_row 84 (.tmp 3) rfl w.heap.size (eval_tmp e3) 84 cs (0, 0) _ (J3.below FD.below J3.lt) Tryd.underlying84 rfl (circ_info hC) (hK _ _ ⟨_, rfl, rfl, Below.refl _ _⟩)
    · have e1 : a1.tmps[1]?.getD undef = (.int .i64 a) := (FD.kept 1 (by kernel_rfl)).trans rfl
      refine wpOpIn_step rfl (fun K hK => ?_)
      refine Eq.mpr (if_pos (by rfl)) ?_
      go_simp
      exact hK _ _ ⟨_, rfl, rfl, Below.refl _ _⟩
    · have e17 : a1.tmps[17]?.getD undef = (.agg cs) := by
        obtain ⟨x, hx, ht⟩ := FD.dep 2 (by kernel_rfl)
        rw [ht 17 rfl]; exact hx
      have e18 : a1.tmps[18]?.getD undef = (.int .i64 a) := by
        obtain ⟨x, hx, ht⟩ := FD.dep 3 (by kernel_rfl)
        rw [ht 18 rfl]; exact hx
      refine wpOpIn_step rfl (fun K hK => ?_)
      refine Eq.mpr (if_pos (by rfl)) ?_
      go_simp
      gi_wp2_with fail
      refine ⟨trivial, ?_⟩
      refine (callsIn_wide.2 (figureC_any cs s (some mb) hC a ha _)).mono ?_
      rintro e V2 ⟨rfl, hb2⟩
      exact hK _ _ ⟨_, rfl, rfl, hb2⟩
    · have e16 : a1.tmps[16]?.getD undef = (.map (some mb)) := by
        obtain ⟨x, hx, ht⟩ := FD.dep 1 (by kernel_rfl)
        rw [ht 16 rfl]; exact hx
      have e19 : a1.tmps[19]?.getD undef = (.int .i64 (fg s a)) := by
        obtain ⟨x, hx, ht⟩ := FD.dep 4 (by kernel_rfl)
        rw [ht 19 rfl]; exact hx
      refine wpOpIn_step rfl (fun K hK => ?_)
      refine Eq.mpr (if_pos (by rfl)) ?_
      refine operIn_lookup_groups (.tmp 16) (.tmp 19) 82 rfl 22 25 3 .i64 keyedF Tryd.underlying82 (zeroSI V) base mb 12 Dm (eval_tmp e16) (groups_kept HG.out (grown_of_below FD.below) (fun r e => by cases e)) (by unfold maxLen; omega) (.int .i64 (fg s a)) (.int .i64 (fg s a)) (eval_tmp e19) HKEY.out ?_
      intro v zs hat hoi hzl
      exact hK _ _ ⟨_, rfl, ⟨zs, hoi, look_stand hoi (((hAt.out (fg s a)).symm.trans hat))⟩, Below.refl _ _⟩
    · obtain ⟨x20, ⟨zs, hoi, hzs⟩, ht20⟩ := FD.dep 5 (by kernel_rfl)
      have e20 := ht20 20 rfl
      obtain ⟨p20, c20, rfl, hr20⟩ := Got.of_owns hoi.1
      refine wpOpIn_step rfl (fun K hK => ?_)
      refine Eq.mpr (if_pos (by rfl)) ?_
      go_simp
      exact hK _ _ ⟨_, rfl, (by first | rfl | (rw [hzs]; rfl)), Below.refl _ _⟩
    · refine wpOpIn_step rfl (fun K hK => ?_)
      refine Eq.mpr (if_pos (by rfl)) ?_
      go_simp
      exact hK _ _ ⟨_, rfl, rfl, Below.refl _ _⟩
  case fin =>
    intro vv V hb3 hv
    have h0 : vv 0 = .pointer (some ⟨w.heap.size, 12, none⟩) := hv 0 (by decide)
    have h1 : vv 1 = .map (some mb) := hv 1 (by decide)
    have h2 : vv 2 = .agg cs := hv 2 (by decide)
    have h3 : vv 3 = .int .i64 a := hv 3 (by decide)
    have h4 : vv 4 = .int .i64 (fg s a) := hv 4 (by decide)
    obtain ⟨ys, hoi, hys⟩ : ∃ ys, V.ownsInts base 3 .i64 (vv 5) ys ∧ ys = standL s (fg s a) 12 := hv 5 (by decide)
    have h6 : vv 6 = .int .i64 ((standL s (fg s a) 12).length : Int) := hv 6 (by decide)
    have h7 : vv 7 = .int .i64 0 := hv 7 (by decide)
    have hzH : ∀ k, k < (standL s (fg s a) 12).length → Hou (nth (standL s (fg s a) 12) k) := standL_hou s (fg s a)
    have hzL := standL_len s (fg s a) 12
    obtain ⟨zs, hzs⟩ : ∃ zs, standL s (fg s a) 12 = zs := ⟨_, rfl⟩
    rw [hzs] at hys h6 hzH hzL
    have HZS := Lib.hid hzs
    have HZH := Lib.hid hzH
    subst hys
    have hoi1 := hoi.1
    obtain ⟨pz, cz, hvz, _⟩ := Got.of_owns hoi1
    simp only [finD, List.set_cons_succ, List.set_cons_zero, h0, h1, h2, h3, h4, h6, h7, hvz]
    rw [hvz] at hoi1
    have M0 : Mj w w.heap.size w.heap.size Pa Qb B5 B7 B8 cs a b base (.slice pz ys.length cz) ys (muL s a b (ys.take 0)) V := by
      have hBV := hB1.trans (hb3.mono hB1.size)
      exact ⟨⟨p3.below hb3 p3.lt, boxed_below pa hb3, boxed_below p5 hb3, ⟨_, boxed_below p7 hb3, by simpa [muL, rowT] using World.ownsRow_nil _ _ _ _⟩, hBV⟩, boxed_below pb hb3, boxed_below h8' hb3, hoi1⟩
    clear h0 h1 h2 h3 h4 h6 h7 hzs hoi hvz hv hb3 p3 pa p5 p7 pb h8' J3 hB1 hzH HG HKEY
    gi_wp2_with fail
    refine wpIn_loop (fun ac W => ∃ (k : Nat) (Ds : List Nat) (u10 u23 u24 u25 u26 u27 u52 : Value), k ≤ ys.length ∧ Mj w w.heap.size w.heap.size Pa Qb B5 B7 B8 cs a b base (.slice pz ys.length cz) ys (muL s a b (ys.take k)) W ∧ Dfs w.heap.size Ds W ∧ ac = { tmps := #[.agg cs, .int .i64 a, .int .i64 b, .pointer (some ⟨w.heap.size, 0, none⟩), undef, .pointer (some ⟨B5, 0, none⟩), .slice none 0 0, .pointer (some ⟨B7, 0, none⟩), .pointer (some ⟨B8, 0, none⟩), undef, u10, undef, .int .i64 a, .int .i64 b, .func (.func 94) #[] #[.pointer (some ⟨Pa, 0, none⟩), .pointer (some ⟨Qb, 0, none⟩)], .pointer (some ⟨w.heap.size, 12, none⟩), .map (some mb), .agg cs, .int .i64 a, .int .i64 (fg s a), .slice pz ys.length cz, .int .i64 (ys.length : Int), .int .i64 (k : Int), u23, u24, u25, u26, u27, undef, undef, undef, undef, undef, undef, undef, undef, undef, undef, undef, undef, undef, undef, undef, undef, undef, undef, undef, undef, undef, undef, undef, undef, u52, undef], defers := Ds.map coll }) (fun ac W => ys.length - (intOf (ac.tmps.getD 22 undef)).toNat) ?start ?round
    case start => exact ⟨0, [], undef, undef, undef, undef, undef, undef, undef, Nat.zero_le _, M0, ⟨List.nodup_nil, fun D hD => by simp at hD⟩, rfl⟩
    case round =>
      rintro ac W ⟨k, Ds, u10, u23, u24, u25, u26, u27, u52, hk, MW, hDs, rfl⟩
      obtain ⟨pz2, cz2, hvz2, hRz⟩ := Got.of_owns MW.vz
      simp only [Value.slice.injEq] at hvz2
      obtain ⟨rfl, _, rfl⟩ := hvz2
      by_cases hlt : k < ys.length
      · obtain ⟨q, o, rfl, hcz⟩ := hRz k hlt
        have hxh0 := HZH.out k hlt
        have hki : (k : Int) < (ys.length : Int) := by omega
        obtain ⟨x, hx⟩ : ∃ x, nth ys k = x := ⟨_, rfl⟩
        have HTK := Lib.hid (show ys.take (k + 1) = ys.take k ++ [x] by rw [take_succ hlt, hx])
        have hTb := muL_len s a b (ys.take k)
        rw [List.length_take] at hTb
        obtain ⟨T, hT⟩ : ∃ T, muL s a b (ys.take k) = T := ⟨_, rfl⟩
        rw [hx] at hcz hxh0
        rw [hT] at MW hTb
        have HT := Lib.hid hT
        obtain ⟨n, hn⟩ : ∃ n, ys.length = n := ⟨_, rfl⟩
        have HNL := Lib.hid hn
        rw [hn] at hki hTb hk hzL hlt MW ⊢
        clear hx hT hn hRz M0
        gi_wp2_with fail
        refine ⟨trivial, ?_⟩
        refine (callsIn_wide.2 (beside_any x _)).mono ?_
        rintro e w1 ⟨rfl, rfl⟩
        gi_wp2_with fail
        have hb6 : Below W.heap.size W ((W.alloc (.cells #[.int .i64 x] 3)).alloc (.cells #[.int .i64 x] 3)) := (below1 _ _).alloc (by simp) _
        have M6 := MW.below hb6 (Nat.le_refl _)
        have D6 := hDs.below hb6
        have h10 : Boxed ((W.alloc (.cells #[.int .i64 x] 3)).alloc (.cells #[.int .i64 x] 3)) W.heap.size 3 (.int .i64 x) := (Boxed.new _ _ _).alloc _
        have hbc : Boxed ((W.alloc (.cells #[.int .i64 x] 3)).alloc (.cells #[.int .i64 x] 3)) (W.heap.size + 1) 3 (.int .i64 x) := by
          have e1 : (W.alloc (.cells #[.int .i64 x] 3)).heap.size = W.heap.size + 1 := by simp
          rw [← e1]; exact Boxed.new _ _ _
        have hB8W : B8 < W.heap.size := MW.c8.lt
        have hWn := MW.cj.bl.size
        generalize ((W.alloc (.cells #[.int .i64 x] 3)).alloc (.cells #[.int .i64 x] 3)) = W6 at hb6 M6 D6 h10 hbc ⊢
        obtain ⟨Bc, hBc⟩ : ∃ B, W.heap.size + 1 = B := ⟨_, rfl⟩
        rw [hBc] at hbc ⊢
        obtain ⟨B10, hB10⟩ : ∃ B, W.heap.size = B := ⟨_, rfl⟩
        rw [hB10] at h10 hB8W hWn ⊢
        have hszc := hbc.lt
        have hcc : B10 < Bc := by omega
        clear hBc hB10 hb6 MW hDs hcz
        refine wpIn_rangeFunc_ownG (F := Fence.wide) rfl (by omega) (gf := 93) (lb := #[.pointer (some ⟨Bc, 0, none⟩)]) rfl trivial (enters_of Tryd.func93 (by kernel_rfl) rfl)
          (beside_stops Fence.wide (6 - 1) trivial rfl (by omega) Bc x hxh0 W6 hbc.cell) KpN.trans (KpN.put hszc) (Below.refl _ _) (fun _ => rfl)
          (fun pre W => Mj w w.heap.size w.heap.size Pa Qb B5 B7 B8 cs a b base (.slice (some ⟨q, o, none⟩) n cz) ys (T ++ mu1 s a b x (pre.map (nbI x))) W ∧ Boxed W B10 3 (.int .i64 x) ∧ Boxed W Bc 3 (.int .i64 x) ∧ Dfs w.heap.size Ds W)
          (fun _ _ _ => False)
          (fun pre X Y row h hg hr => ⟨Mj.own (f := fun p : List Nat => T ++ mu1 s a b x (p.map (nbI x))) (Nat.le_trans hWn (by omega)) (Nat.le_refl _) pre X Y row h.1 hg hr, h.2.1.kept hg (not_row_cells (W' := Y) h.2.1 (fun r e => (hr r e).2)), h.2.2.1.kept hg (not_row_cells (W' := Y) h.2.2.1 (fun r e => (hr r e).2)), h.2.2.2.kept hg (fun D hD e => by have h1 := (hr D e.symm).1; have h2 := D6.lt hD; omega)⟩)
          (fun _ _ _ _ _ hs _ _ => hs)
          ⟨by simpa [mu1] using M6, h10, hbc, D6⟩
          (fun y => { tmps := #[.agg cs, .int .i64 a, .int .i64 b, .pointer (some ⟨w.heap.size, 0, none⟩), undef, .pointer (some ⟨B5, 0, none⟩), .slice none 0 0, .pointer (some ⟨B7, 0, none⟩), .pointer (some ⟨B8, 0, none⟩), undef, .pointer (some ⟨B10, 0, none⟩), .int .i64 (nbI x y), .int .i64 a, .int .i64 b, .func (.func 94) #[] #[.pointer (some ⟨Pa, 0, none⟩), .pointer (some ⟨Qb, 0, none⟩)], .pointer (some ⟨w.heap.size, 12, none⟩), .map (some mb), .agg cs, .int .i64 a, .int .i64 (fg s a), .slice (some ⟨q, o, none⟩) n cz, .int .i64 (n : Int), .int .i64 (k : Int), .bool true, .pointer (some ⟨q, o + k, none⟩), .int .i64 x, .int .i64 x, .func (.func 93) #[] #[.pointer (some ⟨Bc, 0, none⟩)], .int .i64 (nbI x y), undef, undef, undef, undef, undef, undef, undef, undef, undef, undef, undef, undef, undef, undef, undef, undef, undef, undef, undef, undef, undef, undef, undef, u52, undef], defers := [] }) ?assign ?body ?done ?stop
        case assign =>
          intro l y W K hK
          unfold encN
          gi_wp2
          exact hK
        case body =>
          rintro l pre0 y0 W ⟨HJ, hb10, hbx, hDk⟩ hlen
          have hyh : Hou (nbI x y0) := nbI_hou
          have hm0 : (pre0 ++ [y0]).map (nbI x) = pre0.map (nbI x) ++ [nbI x y0] := by simp
          have hpl : (pre0.map (nbI x)).length < 2 := by simpa using hlen
          obtain ⟨pre, hpre⟩ : ∃ l, pre0.map (nbI x) = l := ⟨_, rfl⟩
          obtain ⟨y, hy⟩ : ∃ z, nbI x y0 = z := ⟨_, rfl⟩
          rw [hpre] at HJ hm0 hpl
          rw [hy] at hyh hm0 ⊢
          have HM := Lib.hid hm0
          have hbnd := mu1_len s a b x pre
          obtain ⟨T2, hT2⟩ : ∃ T2, T ++ mu1 s a b x pre = T2 := ⟨_, rfl⟩
          have hbnd2 : T2.length ≤ 100 := by rw [← hT2, List.length_append]; omega
          rw [hT2] at HJ
          have HT2 := Lib.hid hT2
          clear hpre hy hlen hm0 hT2 hbnd hpl
          have J3 := HJ.cj.c3
          have J5 := HJ.cj.c5.cell
          have JP := HJ.cj.c4.cell
          have JQ := HJ.qb.cell
          have J8 := HJ.c8.cell
          have J10 := hb10.cell
          have hbcl := hbx.lt
          obtain ⟨fb, hfb⟩ : ∃ z, fg s b = z := ⟨_, rfl⟩
          obtain ⟨fy, hfy⟩ : ∃ z, fg s y = z := ⟨_, rfl⟩
          obtain ⟨c1, hc1⟩ : ∃ z, thirdB a b x = z := ⟨_, rfl⟩
          obtain ⟨c2, hc2⟩ : ∃ z, thirdB a b y = z := ⟨_, rfl⟩
          have HFB := Lib.hid hfb
          have HFY := Lib.hid hfy
          have HC1 := Lib.hid hc1
          have HC2 := Lib.hid hc2
          clear hfb hfy hc1 hc2
          have HMU : Hid ((thirdB a b x && thirdB a b y && (fg s y == fg s b)) = (c1 && c2 && (fy == fb))) := by show _ = _; rw [HC1.out, HC2.out, HFY.out, HFB.out]
          cases c1
          · gi_wp2_with fail
            refine wpIn_region_vals follows_mixedB [some 29, some 30, some 31, some 32, some 33, some 34, some 35, some 36, some 37, some 38, some 39, some 40, some 41, some 42, some 43, some 44, some 45] (by kernel_rfl) [(.func (.func 94) #[] #[.pointer (some ⟨Pa, 0, none⟩), .pointer (some ⟨Qb, 0, none⟩)]), (.int .i64 x), (.bool false), (.bool false), undef, undef, undef, (.bool false), (.bool false), undef, undef, undef, undef, undef, undef, undef, (.bool false)] rfl ?step ?fin
            case step =>
              intro i hi a1 V FD
              have hi : i < 17 := hi
              have e : i = 0 ∨ i = 1 ∨ i = 2 ∨ i = 3 ∨ i = 4 ∨ i = 5 ∨ i = 6 ∨ i = 7 ∨ i = 8 ∨ i = 9 ∨ i = 10 ∨ i = 11 ∨ i = 12 ∨ i = 13 ∨ i = 14 ∨ i = 15 ∨ i = 16 := by omega
              clear hi
              rcases e with rfl | rfl | rfl | rfl | rfl | rfl | rfl | rfl | rfl | rfl | rfl | rfl | rfl | rfl | rfl | rfl | rfl
              · have e8 : a1.tmps[8]?.getD undef = (.pointer (some ⟨B8, 0, none⟩)) := (FD.kept 8 (by kernel_rfl)).trans rfl
                refine wpOpIn_step rfl (fun K hK => ?_)
                refine Eq.mpr (if_pos (by rfl)) ?_
                have hc1 := cell_tr FD.below J8
                go_simp
                exact hK _ _ ⟨rfl, Below.refl _ _⟩
              · have e10 : a1.tmps[10]?.getD undef = (.pointer (some ⟨B10, 0, none⟩)) := (FD.kept 10 (by kernel_rfl)).trans rfl
                refine wpOpIn_step rfl (fun K hK => ?_)
                refine Eq.mpr (if_pos (by rfl)) ?_
                have hc1 := cell_tr FD.below J10
                go_simp
                exact hK _ _ ⟨rfl, Below.refl _ _⟩
              · have e29 : a1.tmps[29]?.getD undef = (.func (.func 94) #[] #[.pointer (some ⟨Pa, 0, none⟩), .pointer (some ⟨Qb, 0, none⟩)]) := FD.dep 0 29 (by kernel_rfl) rfl
                have e30 : a1.tmps[30]?.getD undef = (.int .i64 x) := FD.dep 1 30 (by kernel_rfl) rfl
                refine wpOpIn_step rfl (fun K hK => ?_)
                refine Eq.mpr (if_pos (by rfl)) ?_
                go_simp
                gi_wp2_with fail
                refine ⟨trivial, ?_⟩
                refine (CallsIn.inRound l (callsIn_wide.2 (thirds1_any a b x ⟨Pa, 0, none⟩ ⟨Qb, 0, none⟩ _ (cell_tr FD.below JP) (cell_tr FD.below JQ)))).mono ?_
                rintro e V2 ⟨rfl, rfl⟩
                rw [HC1.out]
                exact hK _ _ ⟨rfl, Below.refl _ _⟩
              · have e31 : a1.tmps[31]?.getD undef = (.bool false) := FD.dep 2 31 (by kernel_rfl) rfl
                refine wpOpIn_step rfl (fun K hK => ?_)
                refine Eq.mpr (if_pos (by rfl)) ?_
                go_simp
                exact hK _ _ ⟨rfl, Below.refl _ _⟩
              · have e8 : a1.tmps[8]?.getD undef = (.pointer (some ⟨B8, 0, none⟩)) := (FD.kept 8 (by kernel_rfl)).trans rfl
                have e32 : a1.tmps[32]?.getD undef = (.bool false) := FD.dep 3 32 (by kernel_rfl) rfl
                refine wpOpIn_step rfl (fun K hK => ?_)
                refine Eq.mpr (if_neg (unwanted_of rfl rfl e32 (by decide))) ?_
                exact ⟨fun _ _ => trivial, hK _ _ ⟨rfl, Below.refl _ _⟩⟩
              · have e11 : a1.tmps[11]?.getD undef = (.int .i64 y) := (FD.kept 11 (by kernel_rfl)).trans rfl
                have e32 : a1.tmps[32]?.getD undef = (.bool false) := FD.dep 3 32 (by kernel_rfl) rfl
                refine wpOpIn_step rfl (fun K hK => ?_)
                refine Eq.mpr (if_neg (unwanted_of rfl rfl e32 (by decide))) ?_
                exact ⟨fun _ _ => trivial, hK _ _ ⟨rfl, Below.refl _ _⟩⟩
              · have e33 : a1.tmps[33]?.getD undef = undef := FD.dep 4 33 (by kernel_rfl) rfl
                have e34 : a1.tmps[34]?.getD undef = undef := FD.dep 5 34 (by kernel_rfl) rfl
                have e32 : a1.tmps[32]?.getD undef = (.bool false) := FD.dep 3 32 (by kernel_rfl) rfl
                refine wpOpIn_step rfl (fun K hK => ?_)
                refine Eq.mpr (if_neg (unwanted_of rfl rfl e32 (by decide))) ?_
                exact ⟨fun _ _ => trivial, hK _ _ ⟨rfl, Below.refl _ _⟩⟩
              · have e32 : a1.tmps[32]?.getD undef = (.bool false) := FD.dep 3 32 (by kernel_rfl) rfl
                have e35 : a1.tmps[35]?.getD undef = undef := FD.dep 6 35 (by kernel_rfl) rfl
                refine wpOpIn_step rfl (fun K hK => ?_)
                refine Eq.mpr (if_pos (by rfl)) ?_
                go_simp
                exact hK _ _ ⟨rfl, Below.refl _ _⟩
              · have e36 : a1.tmps[36]?.getD undef = (.bool false) := FD.dep 7 36 (by kernel_rfl) rfl
                refine wpOpIn_step rfl (fun K hK => ?_)
                refine Eq.mpr (if_pos (by rfl)) ?_
                go_simp
                exact hK _ _ ⟨rfl, Below.refl _ _⟩
              · have e3 : a1.tmps[3]?.getD undef = (.pointer (some ⟨w.heap.size, 0, none⟩)) := (FD.kept 3 (by kernel_rfl)).trans rfl
                have e37 : a1.tmps[37]?.getD undef = (.bool false) := FD.dep 8 37 (by kernel_rfl) rfl
                refine wpOpIn_step rfl (fun K hK => ?_)
                refine Eq.mpr (if_neg (unwanted_of rfl rfl e37 (by decide))) ?_
                exact ⟨fun _ _ => trivial, hK _ _ ⟨rfl, Below.refl _ _⟩⟩
              · have e11 : a1.tmps[11]?.getD undef = (.int .i64 y) := (FD.kept 11 (by kernel_rfl)).trans rfl
                have e37 : a1.tmps[37]?.getD undef = (.bool false) := FD.dep 8 37 (by kernel_rfl) rfl
                refine wpOpIn_step rfl (fun K hK => ?_)
                refine Eq.mpr (if_neg (unwanted_of rfl rfl e37 (by decide))) ?_
                exact ⟨fun _ _ => trivial, hK _ _ ⟨rfl, Below.refl _ _⟩⟩
              · have e38 : a1.tmps[38]?.getD undef = undef := FD.dep 9 38 (by kernel_rfl) rfl
                have e39 : a1.tmps[39]?.getD undef = undef := FD.dep 10 39 (by kernel_rfl) rfl
                have e37 : a1.tmps[37]?.getD undef = (.bool false) := FD.dep 8 37 (by kernel_rfl) rfl
                refine wpOpIn_step rfl (fun K hK => ?_)
                refine Eq.mpr (if_neg (unwanted_of rfl rfl e37 (by decide))) ?_
                exact ⟨fun _ _ => trivial, hK _ _ ⟨rfl, Below.refl _ _⟩⟩
              · have e3 : a1.tmps[3]?.getD undef = (.pointer (some ⟨w.heap.size, 0, none⟩)) := (FD.kept 3 (by kernel_rfl)).trans rfl
                have e37 : a1.tmps[37]?.getD undef = (.bool false) := FD.dep 8 37 (by kernel_rfl) rfl
                refine wpOpIn_step rfl (fun K hK => ?_)
                refine Eq.mpr (if_neg (unwanted_of rfl rfl e37 (by decide))) ?_
                exact ⟨fun _ _ => trivial, hK _ _ ⟨rfl, Below.refl _ _⟩⟩
              · have e5 : a1.tmps[5]?.getD undef = (.pointer (some ⟨B5, 0, none⟩)) := (FD.kept 5 (by kernel_rfl)).trans rfl
                have e37 : a1.tmps[37]?.getD undef = (.bool false) := FD.dep 8 37 (by kernel_rfl) rfl
                refine wpOpIn_step rfl (fun K hK => ?_)
                refine Eq.mpr (if_neg (unwanted_of rfl rfl e37 (by decide))) ?_
                exact ⟨fun _ _ => trivial, hK _ _ ⟨rfl, Below.refl _ _⟩⟩
              · have e41 : a1.tmps[41]?.getD undef = undef := FD.dep 12 41 (by kernel_rfl) rfl
                have e42 : a1.tmps[42]?.getD undef = undef := FD.dep 13 42 (by kernel_rfl) rfl
                have e37 : a1.tmps[37]?.getD undef = (.bool false) := FD.dep 8 37 (by kernel_rfl) rfl
                refine wpOpIn_step rfl (fun K hK => ?_)
                refine Eq.mpr (if_neg (unwanted_of rfl rfl e37 (by decide))) ?_
                exact ⟨fun _ _ => trivial, hK _ _ ⟨rfl, Below.refl _ _⟩⟩
              · have e40 : a1.tmps[40]?.getD undef = undef := FD.dep 11 40 (by kernel_rfl) rfl
                have e43 : a1.tmps[43]?.getD undef = undef := FD.dep 14 43 (by kernel_rfl) rfl
                have e37 : a1.tmps[37]?.getD undef = (.bool false) := FD.dep 8 37 (by kernel_rfl) rfl
                refine wpOpIn_step rfl (fun K hK => ?_)
                refine Eq.mpr (if_neg (unwanted_of rfl rfl e37 (by decide))) ?_
                exact ⟨fun _ _ => trivial, hK _ _ ⟨rfl, Below.refl _ _⟩⟩
              · have e37 : a1.tmps[37]?.getD undef = (.bool false) := FD.dep 8 37 (by kernel_rfl) rfl
                have e44 : a1.tmps[44]?.getD undef = undef := FD.dep 15 44 (by kernel_rfl) rfl
                refine wpOpIn_step rfl (fun K hK => ?_)
                refine Eq.mpr (if_pos (by rfl)) ?_
                go_simp
                exact hK _ _ ⟨rfl, Below.refl _ _⟩
            case fin =>
              intro V hbv
              simp only [finV, List.set_cons_succ, List.set_cons_zero]
              have HJ3 := HJ.below hbv (Nat.le_refl _)
              have hb103 := boxed_below hb10 hbv
              have hbx3 := boxed_below hbx hbv
              have hD3 := hDk.below hbv
              have HN := Lib.hid (show mu1 s a b x (pre ++ [y]) = mu1 s a b x pre from mu1_no (by rw [HMU.out]; rfl))
              gi_wp2
              exact ⟨keepsFrom_below hbv, KpN.below hbv hbcl, by rw [HM.out, HN.out, HT2.out]; exact HJ3, hb103, hbx3, hD3⟩
          · cases c2
            · gi_wp2_with fail
              refine wpIn_region_vals follows_mixedB [some 29, some 30, some 31, some 32, some 33, some 34, some 35, some 36, some 37, some 38, some 39, some 40, some 41, some 42, some 43, some 44, some 45] (by kernel_rfl) [(.func (.func 94) #[] #[.pointer (some ⟨Pa, 0, none⟩), .pointer (some ⟨Qb, 0, none⟩)]), (.int .i64 x), (.bool true), (.bool true), (.func (.func 94) #[] #[.pointer (some ⟨Pa, 0, none⟩), .pointer (some ⟨Qb, 0, none⟩)]), (.int .i64 y), (.bool false), (.bool false), (.bool false), undef, undef, undef, undef, undef, undef, undef, (.bool false)] rfl ?step ?fin
              case step =>
                intro i hi a1 V FD
                have hi : i < 17 := hi
                have e : i = 0 ∨ i = 1 ∨ i = 2 ∨ i = 3 ∨ i = 4 ∨ i = 5 ∨ i = 6 ∨ i = 7 ∨ i = 8 ∨ i = 9 ∨ i = 10 ∨ i = 11 ∨ i = 12 ∨ i = 13 ∨ i = 14 ∨ i = 15 ∨ i = 16 := by omega
                clear hi
                rcases e with rfl | rfl | rfl | rfl | rfl | rfl | rfl | rfl | rfl | rfl | rfl | rfl | rfl | rfl | rfl | rfl | rfl
                · have e8 : a1.tmps[8]?.getD undef = (.pointer (some ⟨B8, 0, none⟩)) := (FD.kept 8 (by kernel_rfl)).trans rfl
                  refine wpOpIn_step rfl (fun K hK => ?_)
                  refine Eq.mpr (if_pos (by rfl)) ?_
                  have hc1 := cell_tr FD.below J8
                  go_simp
                  exact hK _ _ ⟨rfl, Below.refl _ _⟩
                · have e10 : a1.tmps[10]?.getD undef = (.pointer (some ⟨B10, 0, none⟩)) := (FD.kept 10 (by kernel_rfl)).trans rfl
                  refine wpOpIn_step rfl (fun K hK => ?_)
                  refine Eq.mpr (if_pos (by rfl)) ?_
                  have hc1 := cell_tr FD.below J10
                  go_simp
                  exact hK _ _ ⟨rfl, Below.refl _ _⟩
                · have e29 : a1.tmps[29]?.getD undef = (.func (.func 94) #[] #[.pointer (some ⟨Pa, 0, none⟩), .pointer (some ⟨Qb, 0, none⟩)]) := FD.dep 0 29 (by kernel_rfl) rfl
                  have e30 : a1.tmps[30]?.getD undef = (.int .i64 x) := FD.dep 1 30 (by kernel_rfl) rfl
                  refine wpOpIn_step rfl (fun K hK => ?_)
                  refine Eq.mpr (if_pos (by rfl)) ?_
                  go_simp
                  gi_wp2_with fail
                  refine ⟨trivial, ?_⟩
                  refine (CallsIn.inRound l (callsIn_wide.2 (thirds1_any a b x ⟨Pa, 0, none⟩ ⟨Qb, 0, none⟩ _ (cell_tr FD.below JP) (cell_tr FD.below JQ)))).mono ?_
                  rintro e V2 ⟨rfl, rfl⟩
                  rw [HC1.out]
                  exact hK _ _ ⟨rfl, Below.refl _ _⟩
                · have e31 : a1.tmps[31]?.getD undef = (.bool true) := FD.dep 2 31 (by kernel_rfl) rfl
                  refine wpOpIn_step rfl (fun K hK => ?_)
                  refine Eq.mpr (if_pos (by rfl)) ?_
                  go_simp
                  exact hK _ _ ⟨rfl, Below.refl _ _⟩
                · have e8 : a1.tmps[8]?.getD undef = (.pointer (some ⟨B8, 0, none⟩)) := (FD.kept 8 (by kernel_rfl)).trans rfl
                  have e32 : a1.tmps[32]?.getD undef = (.bool true) := FD.dep 3 32 (by kernel_rfl) rfl
                  refine wpOpIn_step rfl (fun K hK => ?_)
                  refine Eq.mpr (if_pos (wanted_of rfl rfl e32)) ?_
                  have hc1 := cell_tr FD.below J8
                  go_simp
                  exact hK _ _ ⟨rfl, Below.refl _ _⟩
                · have e11 : a1.tmps[11]?.getD undef = (.int .i64 y) := (FD.kept 11 (by kernel_rfl)).trans rfl
                  have e32 : a1.tmps[32]?.getD undef = (.bool true) := FD.dep 3 32 (by kernel_rfl) rfl
                  refine wpOpIn_step rfl (fun K hK => ?_)
                  refine Eq.mpr (if_pos (wanted_of rfl rfl e32)) ?_
                  go_simp
                  exact hK _ _ ⟨rfl, Below.refl _ _⟩
                · have e33 : a1.tmps[33]?.getD undef = (.func (.func 94) #[] #[.pointer (some ⟨Pa, 0, none⟩), .pointer (some ⟨Qb, 0, none⟩)]) := FD.dep 4 33 (by kernel_rfl) rfl
                  have e34 : a1.tmps[34]?.getD undef = (.int .i64 y) := FD.dep 5 34 (by kernel_rfl) rfl
                  have e32 : a1.tmps[32]?.getD undef = (.bool true) := FD.dep 3 32 (by kernel_rfl) rfl
                  refine wpOpIn_step rfl (fun K hK => ?_)
                  refine Eq.mpr (if_pos (wanted_of rfl rfl e32)) ?_
                  go_simp
                  gi_wp2_with fail
                  refine ⟨trivial, ?_⟩
                  refine (CallsIn.inRound l (callsIn_wide.2 (thirds1_any a b y ⟨Pa, 0, none⟩ ⟨Qb, 0, none⟩ _ (cell_tr FD.below JP) (cell_tr FD.below JQ)))).mono ?_
                  rintro e V2 ⟨rfl, rfl⟩
                  rw [HC2.out]
                  exact hK _ _ ⟨rfl, Below.refl _ _⟩
                · have e32 : a1.tmps[32]?.getD undef = (.bool true) := FD.dep 3 32 (by kernel_rfl) rfl
                  have e35 : a1.tmps[35]?.getD undef = (.bool false) := FD.dep 6 35 (by kernel_rfl) rfl
                  refine wpOpIn_step rfl (fun K hK => ?_)
                  refine Eq.mpr (if_pos (by rfl)) ?_
                  go_simp
                  exact hK _ _ ⟨rfl, Below.refl _ _⟩
                · have e36 : a1.tmps[36]?.getD undef = (.bool false) := FD.dep 7 36 (by kernel_rfl) rfl
                  refine wpOpIn_step rfl (fun K hK => ?_)
                  refine Eq.mpr (if_pos (by rfl)) ?_
                  go_simp
                  exact hK _ _ ⟨rfl, Below.refl _ _⟩
                · have e3 : a1.tmps[3]?.getD undef = (.pointer (some ⟨w.heap.size, 0, none⟩)) := (FD.kept 3 (by kernel_rfl)).trans rfl
                  have e37 : a1.tmps[37]?.getD undef = (.bool false) := FD.dep 8 37 (by kernel_rfl) rfl
                  refine wpOpIn_step rfl (fun K hK => ?_)
                  refine Eq.mpr (if_neg (unwanted_of rfl rfl e37 (by decide))) ?_
                  exact ⟨fun _ _ => trivial, hK _ _ ⟨rfl, Below.refl _ _⟩⟩
                · have e11 : a1.tmps[11]?.getD undef = (.int .i64 y) := (FD.kept 11 (by kernel_rfl)).trans rfl
                  have e37 : a1.tmps[37]?.getD undef = (.bool false) := FD.dep 8 37 (by kernel_rfl) rfl
                  refine wpOpIn_step rfl (fun K hK => ?_)
                  refine Eq.mpr (if_neg (unwanted_of rfl rfl e37 (by decide))) ?_
                  exact ⟨fun _ _ => trivial, hK _ _ ⟨rfl, Below.refl _ _⟩⟩
                · have e38 : a1.tmps[38]?.getD undef = undef := FD.dep 9 38 (by kernel_rfl) rfl
                  have e39 : a1.tmps[39]?.getD undef = undef := FD.dep 10 39 (by kernel_rfl) rfl
                  have e37 : a1.tmps[37]?.getD undef = (.bool false) := FD.dep 8 37 (by kernel_rfl) rfl
                  refine wpOpIn_step rfl (fun K hK => ?_)
                  refine Eq.mpr (if_neg (unwanted_of rfl rfl e37 (by decide))) ?_
                  exact ⟨fun _ _ => trivial, hK _ _ ⟨rfl, Below.refl _ _⟩⟩
                · have e3 : a1.tmps[3]?.getD undef = (.pointer (some ⟨w.heap.size, 0, none⟩)) := (FD.kept 3 (by kernel_rfl)).trans rfl
                  have e37 : a1.tmps[37]?.getD undef = (.bool false) := FD.dep 8 37 (by kernel_rfl) rfl
                  refine wpOpIn_step rfl (fun K hK => ?_)
                  refine Eq.mpr (if_neg (unwanted_of rfl rfl e37 (by decide))) ?_
                  exact ⟨fun _ _ => trivial, hK _ _ ⟨rfl, Below.refl _ _⟩⟩
                · have e5 : a1.tmps[5]?.getD undef = (.pointer (some ⟨B5, 0, none⟩)) := (FD.kept 5 (by kernel_rfl)).trans rfl
                  have e37 : a1.tmps[37]?.getD undef = (.bool false) := FD.dep 8 37 (by kernel_rfl) rfl
                  refine wpOpIn_step rfl (fun K hK => ?_)
                  refine Eq.mpr (if_neg (unwanted_of rfl rfl e37 (by decide))) ?_
                  exact ⟨fun _ _ => trivial, hK _ _ ⟨rfl, Below.refl _ _⟩⟩
                · have e41 : a1.tmps[41]?.getD undef = undef := FD.dep 12 41 (by kernel_rfl) rfl
                  have e42 : a1.tmps[42]?.getD undef = undef := FD.dep 13 42 (by kernel_rfl) rfl
                  have e37 : a1.tmps[37]?.getD undef = (.bool false) := FD.dep 8 37 (by kernel_rfl) rfl
                  refine wpOpIn_step rfl (fun K hK => ?_)
                  refine Eq.mpr (if_neg (unwanted_of rfl rfl e37 (by decide))) ?_
                  exact ⟨fun _ _ => trivial, hK _ _ ⟨rfl, Below.refl _ _⟩⟩
                · have e40 : a1.tmps[40]?.getD undef = undef := FD.dep 11 40 (by kernel_rfl) rfl
                  have e43 : a1.tmps[43]?.getD undef = undef := FD.dep 14 43 (by kernel_rfl) rfl
                  have e37 : a1.tmps[37]?.getD undef = (.bool false) := FD.dep 8 37 (by kernel_rfl) rfl
                  refine wpOpIn_step rfl (fun K hK => ?_)
                  refine Eq.mpr (if_neg (unwanted_of rfl rfl e37 (by decide))) ?_
                  exact ⟨fun _ _ => trivial, hK _ _ ⟨rfl, Below.refl _ _⟩⟩
                · have e37 : a1.tmps[37]?.getD undef = (.bool false) := FD.dep 8 37 (by kernel_rfl) rfl
                  have e44 : a1.tmps[44]?.getD undef = undef := FD.dep 15 44 (by kernel_rfl) rfl
                  refine wpOpIn_step rfl (fun K hK => ?_)
                  refine Eq.mpr (if_pos (by rfl)) ?_
                  go_simp
                  exact hK _ _ ⟨rfl, Below.refl _ _⟩
              case fin =>
                intro V hbv
                simp only [finV, List.set_cons_succ, List.set_cons_zero]
                have HJ3 := HJ.below hbv (Nat.le_refl _)
                have hb103 := boxed_below hb10 hbv
                have hbx3 := boxed_below hbx hbv
                have hD3 := hDk.below hbv
                have HN := Lib.hid (show mu1 s a b x (pre ++ [y]) = mu1 s a b x pre from mu1_no (by rw [HMU.out]; rfl))
                gi_wp2
                exact ⟨keepsFrom_below hbv, KpN.below hbv hbcl, by rw [HM.out, HN.out, HT2.out]; exact HJ3, hb103, hbx3, hD3⟩
            · gi_wp2_with fail
              refine wpIn_region_vals follows_mixedB [some 29, some 30, some 31, some 32, some 33, some 34, some 35, some 36, some 37, some 38, some 39, some 40, some 41, some 42, some 43, some 44, some 45] (by kernel_rfl) [(.func (.func 94) #[] #[.pointer (some ⟨Pa, 0, none⟩), .pointer (some ⟨Qb, 0, none⟩)]), (.int .i64 x), (.bool true), (.bool true), (.func (.func 94) #[] #[.pointer (some ⟨Pa, 0, none⟩), .pointer (some ⟨Qb, 0, none⟩)]), (.int .i64 y), (.bool true), (.bool true), (.bool true), (.agg cs), (.int .i64 y), (.int .i64 fy), (.agg cs), (.int .i64 b), (.int .i64 fb), (.bool (fy == fb)), (.bool (fy == fb))] rfl ?step ?fin
              case step =>
                intro i hi a1 V FD
                have hi : i < 17 := hi
                have e : i = 0 ∨ i = 1 ∨ i = 2 ∨ i = 3 ∨ i = 4 ∨ i = 5 ∨ i = 6 ∨ i = 7 ∨ i = 8 ∨ i = 9 ∨ i = 10 ∨ i = 11 ∨ i = 12 ∨ i = 13 ∨ i = 14 ∨ i = 15 ∨ i = 16 := by omega
                clear hi
                rcases e with rfl | rfl | rfl | rfl | rfl | rfl | rfl | rfl | rfl | rfl | rfl | rfl | rfl | rfl | rfl | rfl | rfl
                · have e8 : a1.tmps[8]?.getD undef = (.pointer (some ⟨B8, 0, none⟩)) := (FD.kept 8 (by kernel_rfl)).trans rfl
                  refine wpOpIn_step rfl (fun K hK => ?_)
                  refine Eq.mpr (if_pos (by rfl)) ?_
                  have hc1 := cell_tr FD.below J8
                  go_simp
                  exact hK _ _ ⟨rfl, Below.refl _ _⟩
                · have e10 : a1.tmps[10]?.getD undef = (.pointer (some ⟨B10, 0, none⟩)) := (FD.kept 10 (by kernel_rfl)).trans rfl
                  refine wpOpIn_step rfl (fun K hK => ?_)
                  refine Eq.mpr (if_pos (by rfl)) ?_
                  have hc1 := cell_tr FD.below J10
                  go_simp
                  exact hK _ _ ⟨rfl, Below.refl _ _⟩
                · have e29 : a1.tmps[29]?.getD undef = (.func (.func 94) #[] #[.pointer (some ⟨Pa, 0, none⟩), .pointer (some ⟨Qb, 0, none⟩)]) := FD.dep 0 29 (by kernel_rfl) rfl
                  have e30 : a1.tmps[30]?.getD undef = (.int .i64 x) := FD.dep 1 30 (by kernel_rfl) rfl
                  refine wpOpIn_step rfl (fun K hK => ?_)
                  refine Eq.mpr (if_pos (by rfl)) ?_
                  go_simp
                  gi_wp2_with fail
                  refine ⟨trivial, ?_⟩
                  refine (CallsIn.inRound l (callsIn_wide.2 (thirds1_any a b x ⟨Pa, 0, none⟩ ⟨Qb, 0, none⟩ _ (cell_tr FD.below JP) (cell_tr FD.below JQ)))).mono ?_
                  rintro e V2 ⟨rfl, rfl⟩
                  rw [HC1.out]
                  exact hK _ _ ⟨rfl, Below.refl _ _⟩
                · have e31 : a1.tmps[31]?.getD undef = (.bool true) := FD.dep 2 31 (by kernel_rfl) rfl
                  refine wpOpIn_step rfl (fun K hK => ?_)
                  refine Eq.mpr (if_pos (by rfl)) ?_
                  go_simp
                  exact hK _ _ ⟨rfl, Below.refl _ _⟩
                · have e8 : a1.tmps[8]?.getD undef = (.pointer (some ⟨B8, 0, none⟩)) := (FD.kept 8 (by kernel_rfl)).trans rfl
                  have e32 : a1.tmps[32]?.getD undef = (.bool true) := FD.dep 3 32 (by kernel_rfl) rfl
                  refine wpOpIn_step rfl (fun K hK => ?_)
                  refine Eq.mpr (if_pos (wanted_of rfl rfl e32)) ?_
                  have hc1 := cell_tr FD.below J8
                  go_simp
                  exact hK _ _ ⟨rfl, Below.refl _ _⟩
                · have e11 : a1.tmps[11]?.getD undef = (.int .i64 y) := (FD.kept 11 (by kernel_rfl)).trans rfl
                  have e32 : a1.tmps[32]?.getD undef = (.bool true) := FD.dep 3 32 (by kernel_rfl) rfl
                  refine wpOpIn_step rfl (fun K hK => ?_)
                  refine Eq.mpr (if_pos (wanted_of rfl rfl e32)) ?_
                  go_simp
                  exact hK _ _ ⟨rfl, Below.refl _ _⟩
                · have e33 : a1.tmps[33]?.getD undef = (.func (.func 94) #[] #[.pointer (some ⟨Pa, 0, none⟩), .pointer (some ⟨Qb, 0, none⟩)]) := FD.dep 4 33 (by kernel_rfl) rfl
                  have e34 : a1.tmps[34]?.getD undef = (.int .i64 y) := FD.dep 5 34 (by kernel_rfl) rfl
                  have e32 : a1.tmps[32]?.getD undef = (.bool true) := FD.dep 3 32 (by kernel_rfl) rfl
                  refine wpOpIn_step rfl (fun K hK => ?_)
                  refine Eq.mpr (if_pos (wanted_of rfl rfl e32)) ?_
                  go_simp
                  gi_wp2_with fail
                  refine ⟨trivial, ?_⟩
                  refine (CallsIn.inRound l (callsIn_wide.2 (thirds1_any a b y ⟨Pa, 0, none⟩ ⟨Qb, 0, none⟩ _ (cell_tr FD.below JP) (cell_tr FD.below JQ)))).mono ?_
                  rintro e V2 ⟨rfl, rfl⟩
                  rw [HC2.out]
                  exact hK _ _ ⟨rfl, Below.refl _ _⟩
                · have e32 : a1.tmps[32]?.getD undef = (.bool true) := FD.dep 3 32 (by kernel_rfl) rfl
                  have e35 : a1.tmps[35]?.getD undef = (.bool true) := FD.dep 6 35 (by kernel_rfl) rfl
                  refine wpOpIn_step rfl (fun K hK => ?_)
                  refine Eq.mpr (if_pos (by rfl)) ?_
                  go_simp
                  exact hK _ _ ⟨rfl, Below.refl _ _⟩
                · have e36 : a1.tmps[36]?.getD undef = (.bool true) := FD.dep 7 36 (by kernel_rfl) rfl
                  refine wpOpIn_step rfl (fun K hK => ?_)
                  refine Eq.mpr (if_pos (by rfl)) ?_
                  go_simp
                  exact hK _ _ ⟨rfl, Below.refl _ _⟩
                · have e3 : a1.tmps[3]?.getD undef = (.pointer (some ⟨w.heap.size, 0, none⟩)) := (FD.kept 3 (by kernel_rfl)).trans rfl
                  have e37 : a1.tmps[37]?.getD undef = (.bool true) := FD.dep 8 37 (by kernel_rfl) rfl
                  refine wpOpIn_step rfl (fun K hK => ?_)
                  refine Eq.mpr (if_pos (wanted_of rfl rfl e37)) ?_
                  exact operIn_load_row 84 (.tmp 3) rfl w.heap.size (eval_tmp e3) 84 cs (0, 0) _ (J3.below FD.below J3.lt) Tryd.underlying84 rfl (circ_info hC) (hK _ _ ⟨rfl, Below.refl _ _⟩)
                · have e11 : a1.tmps[11]?.getD undef = (.int .i64 y) := (FD.kept 11 (by kernel_rfl)).trans rfl
                  have e37 : a1.tmps[37]?.getD undef = (.bool true) := FD.dep 8 37 (by kernel_rfl) rfl
                  refine wpOpIn_step rfl (fun K hK => ?_)
                  refine Eq.mpr (if_pos (wanted_of rfl rfl e37)) ?_
                  go_simp
                  exact hK _ _ ⟨rfl, Below.refl _ _⟩
                · have e38 : a1.tmps[38]?.getD undef = (.agg cs) := FD.dep 9 38 (by kernel_rfl) rfl
                  have e39 : a1.tmps[39]?.getD undef = (.int .i64 y) := FD.dep 10 39 (by kernel_rfl) rfl
                  have e37 : a1.tmps[37]?.getD undef = (.bool true) := FD.dep 8 37 (by kernel_rfl) rfl
                  refine wpOpIn_step rfl (fun K hK => ?_)
                  refine Eq.mpr (if_pos (wanted_of rfl rfl e37)) ?_
                  go_simp
                  gi_wp2_with fail
                  refine ⟨trivial, ?_⟩
                  refine (CallsIn.inRound l (callsIn_wide.2 (figureC_any cs s (some mb) hC y hyh _))).mono ?_
                  rintro e V2 ⟨rfl, hb2⟩
                  rw [HFY.out]
                  exact hK _ _ ⟨rfl, hb2⟩
                · have e3 : a1.tmps[3]?.getD undef = (.pointer (some ⟨w.heap.size, 0, none⟩)) := (FD.kept 3 (by kernel_rfl)).trans rfl
                  have e37 : a1.tmps[37]?.getD undef = (.bool true) := FD.dep 8 37 (by kernel_rfl) rfl
                  refine wpOpIn_step rfl (fun K hK => ?_)
                  refine Eq.mpr (if_pos (wanted_of rfl rfl e37)) ?_
                  exact operIn_load_row 84 (.tmp 3) rfl w.heap.size (eval_tmp e3) 84 cs (0, 0) _ (J3.below FD.below J3.lt) Tryd.underlying84 rfl (circ_info hC) (hK _ _ ⟨rfl, Below.refl _ _⟩)
                · have e5 : a1.tmps[5]?.getD undef = (.pointer (some ⟨B5, 0, none⟩)) := (FD.kept 5 (by kernel_rfl)).trans rfl
                  have e37 : a1.tmps[37]?.getD undef = (.bool true) := FD.dep 8 37 (by kernel_rfl) rfl
                  refine wpOpIn_step rfl (fun K hK => ?_)
                  refine Eq.mpr (if_pos (wanted_of rfl rfl e37)) ?_
                  have hc1 := cell_tr FD.below J5
                  go_simp
                  exact hK _ _ ⟨rfl, Below.refl _ _⟩
                · have e41 : a1.tmps[41]?.getD undef = (.agg cs) := FD.dep 12 41 (by kernel_rfl) rfl
                  have e42 : a1.tmps[42]?.getD undef = (.int .i64 b) := FD.dep 13 42 (by kernel_rfl) rfl
                  have e37 : a1.tmps[37]?.getD undef = (.bool true) := FD.dep 8 37 (by kernel_rfl) rfl
                  refine wpOpIn_step rfl (fun K hK => ?_)
                  refine Eq.mpr (if_pos (wanted_of rfl rfl e37)) ?_
                  go_simp
                  gi_wp2_with fail
                  refine ⟨trivial, ?_⟩
                  refine (CallsIn.inRound l (callsIn_wide.2 (figureC_any cs s (some mb) hC b hb _))).mono ?_
                  rintro e V2 ⟨rfl, hb2⟩
                  rw [HFB.out]
                  exact hK _ _ ⟨rfl, hb2⟩
                · have e40 : a1.tmps[40]?.getD undef = (.int .i64 fy) := FD.dep 11 40 (by kernel_rfl) rfl
                  have e43 : a1.tmps[43]?.getD undef = (.int .i64 fb) := FD.dep 14 43 (by kernel_rfl) rfl
                  have e37 : a1.tmps[37]?.getD undef = (.bool true) := FD.dep 8 37 (by kernel_rfl) rfl
                  refine wpOpIn_step rfl (fun K hK => ?_)
                  refine Eq.mpr (if_pos (wanted_of rfl rfl e37)) ?_
                  go_simp
                  exact hK _ _ ⟨rfl, Below.refl _ _⟩
                · have e37 : a1.tmps[37]?.getD undef = (.bool true) := FD.dep 8 37 (by kernel_rfl) rfl
                  have e44 : a1.tmps[44]?.getD undef = (.bool (fy == fb)) := FD.dep 15 44 (by kernel_rfl) rfl
                  refine wpOpIn_step rfl (fun K hK => ?_)
                  refine Eq.mpr (if_pos (by rfl)) ?_
                  go_simp
                  exact hK _ _ ⟨rfl, Below.refl _ _⟩
              case fin =>
                intro V hbv
                simp only [finV, List.set_cons_succ, List.set_cons_zero]
                have HJ3 := HJ.below hbv (Nat.le_refl _)
                have hb103 := boxed_below hb10 hbv
                have hbx3 := boxed_below hbx hbv
                have hD3 := hDk.below hbv
                cases hq : (fy == fb)
                · have HN := Lib.hid (show mu1 s a b x (pre ++ [y]) = mu1 s a b x pre from mu1_no (by rw [HMU.out]; rw [hq]; rfl))
                  gi_wp2
                  exact ⟨keepsFrom_below hbv, KpN.below hbv hbcl, by rw [HM.out, HN.out, HT2.out]; exact HJ3, hb103, hbx3, hD3⟩
                · have HN := Lib.hid (show mu1 s a b x (pre ++ [y]) = mu1 s a b x pre ++ [(3, x, y)] from mu1_yes (by rw [HMU.out]; rw [hq]; rfl))
                  clear HJ hb10 hbx hDk J3 J5 JP JQ J8 J10
                  obtain ⟨v, hv, hrw⟩ := HJ3.cj.tb
                  have J10 := hb103.cell
                  have hcv := hv.cell
                  have hcf := hv.frozen
                  have hsz3 := HJ3.cj.bl.size
                  gi_wp2_with (gi_at_builtin; refine wpListIn_append_own _ rfl _ _ 40 rfl w.heap.size 66 i0 (.agg #[.int .i64 0, .int .i64 0, .int .i64 0]) 3 24 Tryd.underlying40 hi hz0 hz1 hz2 rfl (by decide) _ _ _ rfl (hrw.alloc _) ⟨V.heap.size, 0, none⟩ 1 1 [.int .i64 3, .int .i64 x, .int .i64 y] rfl rfl (cell_three_new _ _ _ _ _) (by simp [Value.oneCell']) (by unfold maxLen; omega) (by omega) (by simp; omega) ?_; intro v' w1 hown' hgrow _; obtain ⟨g', cap', rfl⟩ := ownsRow_succ hown'; obtain ⟨hv1, hv3, hr3, hk3, hb3⟩ := hv.appended (by decide) hrw (by omega) (by omega) hown' hgrow; have hc1 := hv1.cell; have hf1 := hv1.frozen)
                  refine ⟨(keepsFrom_below hbv).trans (hk3.from _), ⟨Nat.le_trans hbv.size hb3.size, (far_block hbx3.lt (hbx3.not_row (by decide) hrw) (by omega) hgrow _).trans (hbv.block _ hbcl)⟩, ?_, (far_block hb103.lt (hb103.not_row (by decide) hrw) (by omega) hgrow _).trans hb103, (far_block hbx3.lt (hbx3.not_row (by decide) hrw) (by omega) hgrow _).trans hbx3, hD3.appended hv hrw hgrow⟩
                  rw [HM.out, HN.out, ← List.append_assoc, HT2.out]
                  exact Mj.appended HJ3 hv hrw hgrow hv1 hv3 hr3 hb3 (by omega) (by omega) (by omega) (by omega) (by omega)
        case done =>
          rintro D ys2 W hD rfl ⟨HJ, hb10, hbx, hDk⟩ hK
          rw [nbI_all] at HJ
          have hDn : Dfs w.heap.size (D :: Ds) W := ⟨List.nodup_cons.2 ⟨fun hm => by have := D6.lt hm; omega, hDk.1⟩, fun E hE => by
            rcases List.mem_cons.1 hE with rfl | hE
            · exact ⟨by omega, hK⟩
            · exact hDk.2 E hE⟩
          have HJ4 : Mj w w.heap.size w.heap.size Pa Qb B5 B7 B8 cs a b base (.slice (some ⟨q, o, none⟩) n cz) ys (muL s a b (ys.take (k + 1))) W := by rw [HTK.out, muL_snoc, HT.out]; exact HJ
          have hwk : IntKind.i64.wrap ((k : Int) + 1) = ((k + 1 : Nat) : Int) := IntWalk.i64_in _ (by omega)
          clear HJ hb10 hbx hDk hK M6 D6 h10 hbc
          gi_wp2
          refine ⟨⟨k + 1, D :: Ds, _, _, _, _, _, _, _, by omega, HJ4, hDn, rfl⟩, ?_⟩
          simp [intOf]; omega
        case stop =>
          rintro D cc pre W _ _ h _
          exact h.elim
      · have hkn : k = ys.length := by omega
        rw [hkn, List.take_length] at MW
        obtain ⟨v, hv, hrw⟩ := MW.cj.tb
        have hcv := hv.cell
        have hbl := MW.cj.bl
        have hki : (ys.length : Int) ≤ (k : Int) := by omega
        have HZ2 := HZS.out
        clear MW hkn hv M0 hk hlt
        gi_wp2
        refine leaves_collected (n₀ := w.heap.size) (fun X => X.ownsRow w.heap.size 66 3 v (muL s a b ys).length (rowT (muL s a b ys)) ∧ Below w.heap.size w X) (fun X D h hD hn => ⟨ownsRow_putObj h.1 _ hD rfl, h.2.grown (grownBy_putObj' X D _) h.2.size (fun k e => by cases e; exact hn)⟩) (fun X h => ?_) Ds W hDs ⟨hrw, hbl⟩
        exact ⟨_, results_tmp rfl _ _ _, v, rfl, by rw [HZ2]; exact h.1, h.2⟩
end Go.Proofs.YtdnccdobnhbpeaaDoor
