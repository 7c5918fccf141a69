/-
  Package shield: Count.
-/
import Derived.Test.YtjhjgkocoghgfaaDoorShCn
namespace Go.Proofs.YtjhjgkocoghgfaaDoor
open Go Go.RowKit Go.Shelf
set_option linter.unusedVariables false
attribute [local go_sem] Oper.semAt_some

/-- What the iterator yields. -/
def encC (x : Nat) : Array Value := #[Value.agg (arr (nibs x)), Value.agg (arr (chV x))]
theorem charts_stops' (n : Nat) (hn : 1 ≤ n) (n₀ : Nat) (w : World) (hn₀ : n₀ ≤ w.heap.size) (hg : ∀ W', Below n₀ w W' → Par W') :
    SeqStopsK Fence.wide n Tryd.prog 23 #[] encC (Below n₀) (fun ys => ys = upto id 65536) (fun pre => ∃ k, k ≤ 65536 ∧ pre = upto id k) 65536 w :=
  charts_stops n hn n₀ w hn₀ hg
/-- The state: the count's box, the first one's, the sets, the result's. -/
structure Cs (w : World) (S : List Int) (Bn Bf : Nat) (pre : List Nat) (W : World) : Prop where
  bn : Boxed W Bn 3 (.int .i64 (cntN S pre))
  bf : Blk W Bf 41 (arr (cntF S pre))
  bs : Blk W w.heap.size 39 (arr S)
  br : Blk W (w.heap.size + 1) 41 (arr [0, 0, 0, 0])
  bl : Below w.heap.size w W
theorem blk_kept {W W' : World} {B : Nat} {t : TypeId} {cs : Array Value} {row : Option Nat} (h : W.heap[B]? = some (.cells cs t (0, 0))) (hg : W.grownBy W' row) (hr : ∀ r, row = some r → ∃ o : Obj, W.heap[r]? = some o ∧ o.isCells = false) : W'.heap[B]? = some (.cells cs t (0, 0)) :=
  (hg.block B (Array.getElem?_eq_some_iff.1 h).1 (fun e => by
    obtain ⟨o, ho, hc⟩ := hr B e.symm
    rw [h] at ho
    cases ho
    cases hc)).trans h
theorem Cs.kept {w : World} {S : List Int} {Bn Bf : Nat} {pre : List Nat} {W W' : World} (h : Cs w S Bn Bf pre W) {row : Option Nat} (hg : W.grownBy W' row) (hr : ∀ r, row = some r → ∃ o : Obj, W.heap[r]? = some o ∧ o.isCells = false) (hb : Below w.heap.size w W') : Cs w S Bn Bf pre W' :=
  ⟨blk_kept h.bn hg hr, blk_kept h.bf hg hr, blk_kept h.bs hg hr, blk_kept h.br hg hr, hb⟩
theorem Cs.own {w : World} {S : List Int} {Bn Bf B : Nat} (hw : w.heap.size ≤ B) : OwnFrom B (fun s W => Cs w S Bn Bf s W) := fun s A A' row h hg hr =>
  h.kept hg (fun r e => (hr r e).2) (h.bl.grown hg h.bl.size (fun k e => Nat.le_trans hw (hr k e).1))
theorem Cs.below {w : World} {S : List Int} {Bn Bf : Nat} {pre : List Nat} {W W' : World} (h : Cs w S Bn Bf pre W) (hb : Below W.heap.size W W') : Cs w S Bn Bf pre W' :=
  h.kept (grown_of_below hb) (fun r e => by cases e) (h.bl.trans (hb.mono h.bl.size))
theorem blk_rowFar {w : World} {g : Nat} {t : TypeId} {cs : Array Value} {b : Nat} (h : w.heap[g]? = some (.cells cs t (0, 0))) (hb : g ≠ b) (ds : Array Value) : (w.setRow b ds).heap[g]? = some (.cells cs t (0, 0)) := by
  simp only [World.setRow]
  rw [Array.getElem?_modify, if_neg (Ne.symm hb)]
  exact h
theorem keeps_row {U : World} {g : Nat} {cs ds : Array Value} {t : TypeId} (h : Blk U g t cs) : KeepsOthers U (U.setRow g ds) := ⟨by simp [World.setRow], fun k o hk ho => by
  by_cases e : k = g
  · subst e
    rw [show U.heap[k]? = _ from h] at hk
    cases hk
    cases ho
  · simp only [World.setRow]
    rw [Array.getElem?_modify, if_neg (Ne.symm e)]
    exact hk⟩
theorem keeps_cell {U : World} {g : Nat} {cs : Array Value} {t : TypeId} (h : Blk U g t cs) (i : Nat) (v : Value) : KeepsOthers U (U.setCell ⟨g, i, none⟩ v) := ⟨by simp [World.setCell], fun k o hk ho => by
  by_cases e : k = g
  · subst e
    rw [show U.heap[k]? = _ from h] at hk
    cases hk
    cases ho
  · exact (Below.heap_setCell U ⟨g, i, none⟩ v k e).trans hk⟩
theorem Cs.later {w : World} {S : List Int} {Bn Bf : Nat} {pre : List Nat} {U : World} (h : Cs w S Bn Bf pre U) {x : Nat} (hx : insC S x = true) (h0 : cntN S pre ≠ 0) (hn : w.heap.size + 1 < Bn) (hnf : Bn < Bf) :
    Cs w S Bn Bf (pre ++ [x]) (U.setCell ⟨Bn, 0, none⟩ (.int .i64 ((cntN S pre : Int) + 1))) :=
  ⟨by rw [cntN_yes hx]; exact Blk.set_ (show Blk U Bn 3 #[.int .i64 (cntN S pre)] from h.bn) 0 _, by rw [cntF_later h0]; exact h.bf.far (by simp; omega) _, h.bs.far (by simp; omega) _, h.br.far (by simp; omega) _, h.bl.setCell (p := ⟨Bn, 0, none⟩) (by simp; omega) _⟩
theorem Cs.first {w : World} {S : List Int} {Bn Bf : Nat} {pre : List Nat} {U : World} (h : Cs w S Bn Bf pre U) {x : Nat} (hx : insC S x = true) (h0 : cntN S pre = 0) (hn : w.heap.size + 1 < Bn) (hnf : Bn < Bf) :
    Cs w S Bn Bf (pre ++ [x]) ((U.setRow Bf (arr (nibs x))).setCell ⟨Bn, 0, none⟩ (.int .i64 1)) :=
  ⟨by
    rw [cntN_yes hx, h0]
    exact Blk.set_ (show Blk (U.setRow Bf (arr (nibs x))) Bn 3 #[.int .i64 (cntN S pre)] from blk_rowFar h.bn (by omega) _) 0 _,
   by rw [cntF_first hx h0]; exact Blk.far (h.bf.row _) (by simp; omega) _, Blk.far (blk_rowFar h.bs (by omega) _) (by simp; omega) _, Blk.far (blk_rowFar h.br (by omega) _) (by simp; omega) _, (below_setRow h.bl (by omega) _).setCell (p := ⟨Bn, 0, none⟩) (by simp; omega) _⟩
theorem chV_figs' (x : Nat) : Figs (chV x) := dP_figs rfl fun k hk => by
  have e : k = 0 ∨ k = 1 ∨ k = 2 ∨ k = 3 := by omega
  rcases e with rfl | rfl | rfl | rfl
  · show Fig ((x : Int) / 4096 % 16); exact ⟨by omega, by omega⟩
  · show Fig ((x : Int) / 256 % 16); exact ⟨by omega, by omega⟩
  · show Fig ((x : Int) / 16 % 16); exact ⟨by omega, by omega⟩
  · show Fig ((x : Int) % 16); exact ⟨by omega, by omega⟩
theorem wpListIn_load_row {F : Fence} {nF : Nat} {P : Program} {ops : Array Oper} {rest : List Oper} {o : Oper} {a : Act} {w : World} {Q : Exit → Act → World → Prop} (hgd : o.guard = none) (ty : TypeId) (x : Operand) (ho : o.op = .load ty x)
    (g : Nat) (hx : a.eval x = .pointer (some ⟨g, 0, none⟩)) (t : TypeId) (cs : Array Value) (fr : Nat × Nat) (d : TypeDesc) (hg : w.heap[g]? = some (.cells cs t fr))
    (hu : P.underlying ty = some d) (hd : (match d with | .struct _ | .array _ _ => true | _ => false) = true) (hi : (P.info? ty).map (·.size) = some cs.size)
    (h : wpListIn F nF P ops Q rest (a.put o.dst (.agg cs)) w) : wpListIn F nF P ops Q (o :: rest) a w :=
  wpListIn_plain hgd fun K' hK' => operIn_load_row ty x ho g hx t cs fr d hg hu hd hi (hK' _ _ h)
theorem operIn_store_row {F : Fence} {n : Nat} {P : Program} {o : Oper} {a : Act} {w : World} {K : Act → World → Prop} {Q : Exit → Act → World → Prop} (ty : TypeId) (x y : Operand) (ho : o.op = .store ty x y)
    (g : Nat) (cells : Array Value) (hx : a.eval x = .pointer (some ⟨g, 0, none⟩)) (hy : a.eval y = .agg cells)
    (t : TypeId) (old : Array Value) (hg : w.heap[g]? = some (.cells old t (0, 0))) (hi : (P.info? ty).map (·.size) = some cells.size)
    (hold : old.size = cells.size) (h1 : cells.all (·.oneCell') = true)
    (h : K (a.put o.dst undef) (w.setRow g cells)) : Oper.wpIn F n P o a w K Q := by
  unfold Oper.wpIn
  refine ⟨by simp [Oper.about, ho], ?_⟩
  rw [Oper.semAt_plain F _ _ (by rw [ho]; intro c hc'; cases hc')]
  unfold execOp
  simp only [ho, hx, hy, Instr.storeAt, Instr.sureAddr, Sem.run_bind, Sem.run_pure, Result.andThen_ok, run_storeVar_row w g t ty old cells hg hi hold h1]
  exact h
theorem results_mid {P : Program} {fn : Func} {r p q : Tmp} {ty : TypeId} (h : fn.results = #[.tmp r, .cell p ty, .tmp q]) (tmps : Array Value) (w : World) (g : Nat) (t : TypeId) (cs : Array Value) (fr : Nat × Nat) (d : TypeDesc)
    (hp : tmps.getD p undef = .pointer (some ⟨g, 0, none⟩)) (hg : w.heap[g]? = some (.cells cs t fr))
    (hu : P.underlying ty = some d) (hd : (match d with | .struct _ | .array _ _ => true | _ => false) = true) (hi : (P.info? ty).map (·.size) = some cs.size) (u v : Value) (hr : tmps.getD r undef = u) (hv : tmps.getD q undef = v) :
    (results fn tmps).run P w = .ok (.tuple #[u, .agg cs, v]) w := by
  have hp' : tmps[p]?.getD undef = .pointer (some ⟨g, 0, none⟩) := by simpa using hp
  have hv' : tmps[q]?.getD undef = v := by simpa using hv
  have hr' : tmps[r]?.getD undef = u := by simpa using hr
  simp [results, h, hp', hv', hr', asAddr, run_loadVar_row w g t ty cs fr d hg hu hd hi]
theorem keepsFrom_below {B : Nat} {V V' : World} (h : Below V.heap.size V V') : KeepsFrom B V V' := ⟨h.size, fun k o _ hk _ => (h.block k (Array.getElem?_eq_some_iff.1 hk).1).trans hk⟩

set_option maxRecDepth 100000 in
set_option maxHeartbeats 4000000 in
theorem count_in (S : List Int) (hS : S.length = 16) (ha : anyB (outB 0 65535) S = false) (w : World) (hp : Par w) :
    CallsIn Fence.wide 6 Tryd.prog 14 #[.agg (arr S)] w fun e W' => e = .returned (.tuple #[.int .i64 (cntN S (upto id 65536)), .agg (arr (cntF S (upto id 65536))), .int .i64 0]) ∧ Below w.heap.size w W' := by
  refine callsIn_of_wp_marks Tryd.func14 rfl trivial ?_ rfl
  simp only [Tryd.ntmps14, List.size_toArray, List.length_cons, List.length_nil, Nat.reduceAdd, Nat.reduceSub, Array.replicate_succ, Array.replicate_zero, List.push_toArray, List.append_toArray, List.nil_append, List.cons_append]
  have HS := Lib.hid hS
  have HA := Lib.hid ha
  have HB := Lib.hid (show Blk ((w.alloc (.cells (arr S) 39)).alloc (.cells (arr [0, 0, 0, 0]) 41)) w.heap.size 39 (arr S) from (Blk.new _ _ _).alloc _)
  have HR := Lib.hid (show Blk ((w.alloc (.cells (arr S) 39)).alloc (.cells (arr [0, 0, 0, 0]) 41)) (w.heap.size + 1) 41 (arr [0, 0, 0, 0]) from newAt (by simp))
  have hB0 : Below w.heap.size w ((w.alloc (.cells (arr S) 39)).alloc (.cells (arr [0, 0, 0, 0]) 41)) := ((Below.refl _ _).alloc (Nat.le_refl _) _).alloc (by simp) _
  clear hS ha
  gi_wp2_with fail
  obtain ⟨V, hV⟩ : ∃ V, (w.alloc (.cells (arr S) 39)).alloc (.cells (arr [0, 0, 0, 0]) 41) = V := ⟨_, rfl⟩
  rw [hV] at HB HR hB0
  have e0 : (w.alloc (.cells (arr S) 39)).alloc (.cells #[.int .i64 0, .int .i64 0, .int .i64 0, .int .i64 0] 41) = V := hV
  try rw [e0]
  clear hV e0
  have hmix : Tryd.prog.follows .mixedOrders = true := by kernel_rfl
  have HO := Lib.hid (fun W => outside_anyS 0 65535 W)
  have HC := Lib.hid (fun W (a b : Addr) ha hb hr => containsFunc_outsideS 0 65535 a b W ha hb (some ⟨w.heap.size, 0, none⟩) S 16 (by rw [HS.out]; omega) hr)
  rw [HS.out, HA.out] at HC
  have hDc : (World.drew V).heap.size = V.heap.size := rfl
  have HR2 := Lib.hid (show Reads ((V.drew.alloc (.cells #[.int .i64 0] 38)).alloc (.cells #[.int .i64 65535] 38)) (some ⟨w.heap.size, 0, none⟩) S from fun i hi => ⟨w.heap.size, 0, rfl, by
    have hb : Blk V.drew w.heap.size 39 (arr S) := HB.out
    rw [Nat.zero_add, ((hb.alloc _).alloc _).cell i, arr_get hi]⟩)
  refine wpIn_cut0 (fun a' w' => a' = { tmps := #[.agg (arr S), .pointer (some ⟨w.heap.size, 0, none⟩), .int .i64 0, .pointer (some ⟨w.heap.size + 1, 0, none⟩), .int .i64 0, undef, undef, undef, undef, .slice (some ⟨w.heap.size, 0, none⟩) 16 16, .func (.func 53) #[] #[.pointer (some ⟨V.heap.size, 0, none⟩), .pointer (some ⟨V.heap.size + 1, 0, none⟩)], .bool false, undef, undef, undef, undef, undef, undef, undef, undef, undef, undef, undef, undef, undef], defers := [] } ∧ (V.drew.alloc (.cells #[.int .i64 0] 38)).alloc (.cells #[.int .i64 65535] 38) = w') ?reg ?rest
  case reg =>
    refine wpIn_region_any (by assumption) ?_
    change wpAnyIn _ _ _ _ _ _ _ _ _ (World.drew _)
    refine wpAnyIn_ready (rs := [0, 1]) (by kernel_rfl) (by simp) ?_
    refine AllReadyIn.cons rfl (fun K hK => ?_) (AllReadyIn.cons rfl (fun K hK => ?_) AllReadyIn.nil)
    · go_simp
      refine hK _ _ ?_
      clear hK K
      refine wpAnyIn_ready (rs := [1]) (by kernel_rfl) (by simp) ?_
      refine AllReadyIn.cons rfl (fun K hK => ?_) AllReadyIn.nil
      go_simp
      gi_wp2_with fail
      refine ⟨trivial, ?_⟩
      refine (callsIn_wide.2 (HO.out _)).mono ?_
      rintro e w2 ⟨rfl, hw2⟩
      refine hK _ _ ?_
      clear hK K
      refine wpAnyIn_ready (rs := [2]) (by kernel_rfl) (by simp) ?_
      refine AllReadyIn.cons rfl (fun K hK => ?_) AllReadyIn.nil
      go_simp
      gi_wp2_with fail
      refine ⟨trivial, ?_⟩
      refine (callsIn_wide.2 (HC.out _ _ _ (by subst hw2; go_cell) (by subst hw2; go_cell) (by subst hw2; exact HR2.out))).mono ?_
      rintro e w3 ⟨rfl, rfl⟩
      refine hK _ _ ?_
      clear hK K
      refine wpAnyIn_done (by kernel_rfl) ?_ _
      exact ⟨rfl, hw2⟩
    · go_simp
      gi_wp2_with fail
      refine ⟨trivial, ?_⟩
      refine (callsIn_wide.2 (HO.out _)).mono ?_
      rintro e w2 ⟨rfl, hw2⟩
      refine hK _ _ ?_
      clear hK K
      refine wpAnyIn_ready (rs := [0]) (by kernel_rfl) (by simp) ?_
      refine AllReadyIn.cons rfl (fun K hK => ?_) AllReadyIn.nil
      go_simp
      refine hK _ _ ?_
      clear hK K
      refine wpAnyIn_ready (rs := [2]) (by kernel_rfl) (by simp) ?_
      refine AllReadyIn.cons rfl (fun K hK => ?_) AllReadyIn.nil
      go_simp
      gi_wp2_with fail
      refine ⟨trivial, ?_⟩
      refine (callsIn_wide.2 (HC.out _ _ _ (by subst hw2; go_cell) (by subst hw2; go_cell) (by subst hw2; exact HR2.out))).mono ?_
      rintro e w3 ⟨rfl, rfl⟩
      refine hK _ _ ?_
      clear hK K
      refine wpAnyIn_done (by kernel_rfl) ?_ _
      exact ⟨rfl, hw2⟩
  case rest =>
    rintro a' w4 ⟨rfl, hw4⟩
    have HS4 := Lib.hid (show Blk w4 w.heap.size 39 (arr S) from by
      have hb : Blk V.drew w.heap.size 39 (arr S) := HB.out
      rw [← hw4]; exact (hb.alloc _).alloc _)
    have HR4 := Lib.hid (show Blk w4 (w.heap.size + 1) 41 (arr [0, 0, 0, 0]) from by
      have hb : Blk V.drew (w.heap.size + 1) 41 (arr [0, 0, 0, 0]) := HR.out
      rw [← hw4]; exact (hb.alloc _).alloc _)
    have hb4 : Below w.heap.size w w4 := by
      rw [← hw4]
      have h1 : Below w.heap.size w V.drew := hB0.drew
      exact (h1.alloc h1.size _).alloc (by have := h1.size; simp; omega) _
    have hsz4 := HR4.out.lt
    clear hw4 HR2 HB HR hB0 hDc HO HC
    have HN5 := Lib.hid (Blk.new (w4.alloc (.cells #[.int .i64 0] 3)) 41 (arr [0, 0, 0, 0]))
    gi_wp2_with fail
    have I0 : Cs w S w4.heap.size (w4.heap.size + 1) [] ((w4.alloc (.cells #[.int .i64 0] 3)).alloc (.cells (arr [0, 0, 0, 0]) 41)) :=
      ⟨(Boxed.new w4 3 (.int .i64 0)).alloc _, by rw [World.size_alloc] at HN5; exact HN5.out, (HS4.out.alloc _).alloc _, (HR4.out.alloc _).alloc _, (hb4.alloc hb4.size _).alloc (by have := hb4.size; simp; omega) _⟩
    obtain ⟨W5, hW5⟩ : ∃ W5, (w4.alloc (.cells #[.int .i64 0] 3)).alloc (.cells (arr [0, 0, 0, 0]) 41) = W5 := ⟨_, rfl⟩
    have hsz5 : W5.heap.size = w4.heap.size + 2 := by rw [← hW5]; simp
    have e0 : (w4.alloc (.cells #[.int .i64 0] 3)).alloc (.cells #[.int .i64 0, .int .i64 0, .int .i64 0, .int .i64 0] 41) = W5 := hW5
    rw [hW5] at I0
    rw [e0]
    clear hW5 e0 HN5 HS4 HR4 hmix
    have HI0 := Lib.hid I0
    have hb5 := I0.bl
    clear I0
    refine wpIn_rangeFunc_ownH (F := Fence.wide) rfl (by omega) (gf := 23) (lb := #[]) rfl trivial (enters_of Tryd.func23 (by kernel_rfl) rfl)
      (charts_stops' (6 - 1) (by omega) w.heap.size W5 (by omega) (fun W' h => hp.below (hb5.trans h) (Nat.le_refl _))) belowK_t (belowK_b (by omega)) (Below.refl _ _) (fun _ => rfl)
      (fun pre W => Cs w S w4.heap.size (w4.heap.size + 1) pre W)
      (fun _ _ _ => False)
      (Cs.own (by omega))
      (fun _ _ _ _ _ h _ _ => h)
      HI0.out
      (fun x a' V' => ∃ Bm Bc, (w4.heap.size + 2 ≤ Bm ∧ Blk V' Bm 41 (arr (nibs x))) ∧ Blk V' Bc 24 (arr (chV x)) ∧ a' = { tmps := #[.agg (arr S), .pointer (some ⟨w.heap.size, 0, none⟩), .int .i64 0, .pointer (some ⟨w.heap.size + 1, 0, none⟩), .int .i64 0, .pointer (some ⟨w4.heap.size, 0, none⟩), .pointer (some ⟨w4.heap.size + 1, 0, none⟩), .pointer (some ⟨Bm, 0, none⟩), .pointer (some ⟨Bc, 0, none⟩), .slice (some ⟨w.heap.size, 0, none⟩) 16 16, .func (.func 53) #[] #[.pointer (some ⟨V.heap.size, 0, none⟩), .pointer (some ⟨V.heap.size + 1, 0, none⟩)], .bool false, undef, .agg #[.int .i64 0, .int .i64 0, .int .i64 0, .int .i64 0], .agg (arr (nibs x)), .agg (arr (chV x)), undef, undef, undef, undef, undef, undef, undef, undef, undef], defers := [] })
      (fun x a' s A B row h hg hr => by
        obtain ⟨Bm, Bc, ⟨h0, h1⟩, h2, h3⟩ := h
        exact ⟨Bm, Bc, ⟨h0, blk_kept h1 hg (fun r e => (hr r e).2)⟩, blk_kept h2 hg (fun r e => (hr r e).2), h3⟩)
      ?assign ?body ?done ?stop
    case assign =>
      rintro l pre x U K hI hK
      have hCl := chV_len x
      have hMl := nibs_len (x : Int)
      obtain ⟨C, hC⟩ : ∃ C, chV x = C := ⟨_, rfl⟩
      obtain ⟨M, hM⟩ : ∃ M, nibs (x : Int) = M := ⟨_, rfl⟩
      have hE : encC x = #[.agg (arr M), .agg (arr C)] := by unfold encC; rw [hC, hM]
      rw [hC] at hCl hK
      rw [hM] at hMl hK
      rw [hE]
      have HMi := Lib.hid (show (Tryd.prog.info? 41).map (·.size) = some (arr M).size by rw [arr_size, hMl]; exact info_moth)
      have HMo := Lib.hid (show (arr [0, 0, 0, 0]).size = (arr M).size by rw [arr_size, arr_size, hMl]; rfl)
      have HIs := Lib.hid (show (Tryd.prog.info? 24).map (·.size) = some (arr C).size by rw [arr_size, hCl]; exact info_shield)
      have HOs := Lib.hid (show (arr (List.replicate 16 0)).size = (arr C).size by rw [arr_size, arr_size, hCl]; rfl)
      clear hC hM hCl hMl hE
      have HN := Lib.hid (Blk.new U 41 (arr [0, 0, 0, 0]))
      have hb1 : Below U.heap.size U ((U.alloc (.cells (arr [0, 0, 0, 0]) 41)).setRow U.heap.size (arr M)) := below_setRow (below1 _ _) (Nat.le_refl _) _
      have hbk := Lib.hid (show Blk ((U.alloc (.cells (arr [0, 0, 0, 0]) 41)).setRow U.heap.size (arr M)) U.heap.size 41 (arr M) from HN.out.row (arr M))
      have hszU := hI.bn
      have hUz : w4.heap.size + 2 ≤ U.heap.size := by have := hI.bf.lt; omega
      have HI := Lib.hid hI
      clear hszU hI
      obtain ⟨U1, hU1⟩ : ∃ U1, (U.alloc (.cells (arr [0, 0, 0, 0]) 41)).setRow U.heap.size (arr M) = U1 := ⟨_, rfl⟩
      rw [hU1] at hb1 hbk
      have e0 : (U.alloc (.cells #[.int .i64 0, .int .i64 0, .int .i64 0, .int .i64 0] 41)).setRow U.heap.size (arr M) = U1 := hU1
      have hs1 : U1.heap.size = U.heap.size + 1 := by rw [← hU1]; simp [World.setRow]
      have HN2 := Lib.hid (show Blk (U1.alloc (.cells (arr (List.replicate 16 0)) 24)) (U.heap.size + 1) 24 (arr (List.replicate 16 0)) from newAt hs1)
      have hb2 : Below U1.heap.size U1 ((U1.alloc (.cells (arr (List.replicate 16 0)) 24)).setRow (U.heap.size + 1) (arr C)) := below_setRow (below1 _ _) (by omega) _
      have hbk2 := Lib.hid (show Blk ((U1.alloc (.cells (arr (List.replicate 16 0)) 24)).setRow (U.heap.size + 1) (arr C)) (U.heap.size + 1) 24 (arr C) from HN2.out.row (arr C))
      have HB := Lib.hid (tr hb1 hb2)
      have hbk3 := Lib.hid (hbk.out.below hb2 hbk.out.lt)
      obtain ⟨U2, hU2⟩ : ∃ U2, (U1.alloc (.cells (arr (List.replicate 16 0)) 24)).setRow (U.heap.size + 1) (arr C) = U2 := ⟨_, rfl⟩
      rw [hU2] at HB hbk2 hbk3
      have e1 : (U1.alloc (.cells #[.int .i64 0, .int .i64 0, .int .i64 0, .int .i64 0, .int .i64 0, .int .i64 0, .int .i64 0, .int .i64 0, .int .i64 0, .int .i64 0, .int .i64 0, .int .i64 0, .int .i64 0, .int .i64 0, .int .i64 0, .int .i64 0] 24)).setRow (U.heap.size + 1) (arr C) = U2 := hU2
      have E0 := Lib.hid e0
      have E1 := Lib.hid e1
      clear hb1 hb2 hbk hU1 hU2 e0 e1
      gi_wp2_with (first
        | (refine wpListIn_store_row rfl 41 (.tmp 7) (.tmp 14) rfl U.heap.size (arr M) rfl rfl 41 _ HN.out HMi.out HMo.out (arr_one _) ?_; rw [E0.out])
        | (refine wpListIn_store_row rfl 24 (.tmp 8) (.tmp 15) rfl (U.heap.size + 1) (arr C) rfl rfl 24 _ HN2.out HIs.out HOs.out (arr_one _) ?_; rw [E1.out]))
      exact hK _ _ (keepsFrom_below HB.out) (HB.out.mono HI.out.bl.size) (HI.out.below HB.out) ⟨U.heap.size, U.heap.size + 1, ⟨hUz, hbk3.out⟩, hbk2.out, rfl⟩
    case body =>
      rintro l pre x a' U hl ⟨r, hr⟩ hC ⟨Bm, Bc, ⟨hBm, hM⟩, hCh, rfl⟩ hlen
      have HW := Lib.hid (show Calls Tryd.prog 36 #[.pointer (some ⟨w.heap.size, 0, none⟩), .pointer (some ⟨Bc, 0, none⟩)] U fun e w' => e = .returned (.bool (insC S x)) ∧ ∃ r, w' = U.drewN r from within_any w.heap.size Bc S (chV x) HS (Lib.hid (chV_len x)) (chV_figs' x) U hC.bs hCh)
      have hMl := nibs_len (x : Int)
      have H1 := Lib.hid (fun (h : insC S x = true) (h0 : cntN S pre = 0) (U : World) (hC : Cs w S w4.heap.size (w4.heap.size + 1) pre U) => hC.first h h0 (by omega) (by omega))
      have H2 := Lib.hid (fun (h : insC S x = true) (h0 : cntN S pre ≠ 0) (U : World) (hC : Cs w S w4.heap.size (w4.heap.size + 1) pre U) => hC.later h h0 (by omega) (by omega))
      obtain ⟨C, hCC⟩ : ∃ C, chV x = C := ⟨_, rfl⟩
      obtain ⟨M, hMM⟩ : ∃ M, nibs (x : Int) = M := ⟨_, rfl⟩
      rw [hCC] at ⊢
      rw [hMM] at hMl hM H1 ⊢
      have HMi := Lib.hid (show (Tryd.prog.info? 41).map (·.size) = some (arr M).size by rw [arr_size, hMl]; exact info_moth)
      have HMo := Lib.hid (show (arr (cntF S pre)).size = (arr M).size by rw [arr_size, arr_size, hMl, cntF_len])
      have HCs := Lib.hid hC
      have HM := Lib.hid hM
      have hn6 := cntN_le S pre
      have HN6 := Lib.hid (show cntN S pre < 65536 by omega)
      clear hC hM hCh hCC hMM hMl hn6 hlen
      cases hb : insC S x
      · have HBx := Lib.hid hb
        clear hb
        gi_wp2_with fail
        refine ⟨trivial, ?_⟩
        refine (CallsIn.inRound l (callsIn_wide.2 HW.out)).mono ?_
        rintro e w' ⟨rfl, q, rfl⟩
        rw [HBx.out]
        gi_wp2_with fail
        obtain ⟨c1, c2⟩ := cnt_no (pre := pre) HBx.out
        exact ⟨(show KeepsOthers U (U.drewN q) from ⟨Nat.le_refl _, fun _ _ h _ => h⟩).from _, below_drewN (Below.refl _ _) q, by rw [c1]; exact HCs.out.bn, by rw [c2]; exact HCs.out.bf, HCs.out.bs, HCs.out.br, below_drewN HCs.out.bl q⟩
      · have HBx := Lib.hid hb
        clear hb
        gi_wp2_with fail
        refine ⟨trivial, ?_⟩
        refine (CallsIn.inRound l (callsIn_wide.2 HW.out)).mono ?_
        rintro e w' ⟨rfl, q, rfl⟩
        rw [HBx.out]
        have hC1 : Cs w S w4.heap.size (w4.heap.size + 1) pre (U.drewN q) := ⟨HCs.out.bn, HCs.out.bf, HCs.out.bs, HCs.out.br, below_drewN HCs.out.bl q⟩
        have hk0 : KeepsOthers U (U.drewN q) := ⟨Nat.le_refl _, fun _ _ h _ => h⟩
        have hb0 : Below w.heap.size U (U.drewN q) := below_drewN (Below.refl _ _) q
        have hM1 : Blk (U.drewN q) Bm 41 (arr M) := HM.out
        generalize U.drewN q = U1 at hC1 hk0 hb0 hM1 ⊢
        have HC1 := Lib.hid hC1
        have HM1 := Lib.hid hM1
        have hcn := hC1.bn.cell
        have hfn := hC1.bn.frozen
        clear hC1 hM1 HCs HM HW
        by_cases h0 : cntN S pre = 0
        · have hst := H1.out HBx.out h0 U1 HC1.out
          rw [h0] at hcn
          have hcn2 : (U1.setRow (w4.heap.size + 1) (arr M)).cell? ⟨w4.heap.size, 0, none⟩ = some (.int .i64 0) := by
            have h1 : (U1.setRow (w4.heap.size + 1) (arr M)).heap[w4.heap.size]? = some (.cells #[.int .i64 (cntN S pre)] 3 (0, 0)) := blk_rowFar HC1.out.bn (by omega) _
            rw [h0] at h1
            exact Blk.cell (show Blk _ _ _ _ from h1) 0
          have hfn2 : (U1.setRow (w4.heap.size + 1) (arr M)).frozen? ⟨w4.heap.size, 0, none⟩ = false := by
            have h1 : (U1.setRow (w4.heap.size + 1) (arr M)).heap[w4.heap.size]? = some (.cells #[.int .i64 (cntN S pre)] 3 (0, 0)) := blk_rowFar HC1.out.bn (by omega) _
            exact Blk.frozen (show Blk _ _ _ _ from h1) 0
          have HST := Lib.hid hst
          have HK := Lib.hid (KeepsOthers.trans (keeps_row (ds := arr M) HC1.out.bf) (KeepsOthers.setCell (U1.setRow (w4.heap.size + 1) (arr M)) ⟨w4.heap.size, 0, none⟩ (.int .i64 1)))
          have HB := Lib.hid (show Below w.heap.size U1 ((U1.setRow (w4.heap.size + 1) (arr M)).setCell ⟨w4.heap.size, 0, none⟩ (.int .i64 1)) from (below_setRow (Below.refl _ _) (by omega) _).setCell (p := ⟨w4.heap.size, 0, none⟩) (by simp; omega) _)
          have hw1 : IntKind.i64.wrap (0 + 1) = 1 := by decide
          clear hst h0
          gi_wp2_with (first
            | (refine wpListIn_load_row rfl 41 (.tmp 7) rfl Bm rfl 41 (arr M) (0, 0) _ HM1.out Tryd.underlying41 rfl HMi.out ?_)
            | (refine wpListIn_store_row rfl 41 (.tmp 6) (.tmp 20) rfl (w4.heap.size + 1) (arr M) rfl rfl 41 _ HC1.out.bf HMi.out HMo.out (arr_one _) ?_))
          exact ⟨(hk0.trans HK.out).from _, hb0.trans HB.out, HST.out⟩
        · have hst := H2.out HBx.out h0 U1 HC1.out
          have HST := Lib.hid hst
          obtain ⟨m, hm⟩ : ∃ m, cntN S pre = m := ⟨_, rfl⟩
          rw [hm] at hcn h0 HST HN6
          have HN7 := HN6.out
          have hwm : IntKind.i64.wrap ((m : Int) + 1) = (m : Int) + 1 := wraps_i64_62 _ (by omega) (by omega)
          have y1 : ((m : Int) == 0) = false := by simp; omega
          have y2 : decide ((m : Int) = 0) = false := by simp; omega
          have HK := Lib.hid (KeepsOthers.setCell U1 ⟨w4.heap.size, 0, none⟩ (.int .i64 ((m : Int) + 1)))
          have HB := Lib.hid (show Below w.heap.size U1 (U1.setCell ⟨w4.heap.size, 0, none⟩ (.int .i64 ((m : Int) + 1))) from (Below.refl _ _).setCell (p := ⟨w4.heap.size, 0, none⟩) (by simp; omega) _)
          clear hst h0 hm HN7
          gi_wp2_with fail
          exact ⟨(hk0.trans HK.out).from _, hb0.trans HB.out, HST.out⟩
    case done =>
      rintro D ys U hD rfl hC hK
      have hGl := cntF_len S (upto id 65536)
      obtain ⟨N, hN⟩ : ∃ N, cntN S (upto id 65536) = N := ⟨_, rfl⟩
      obtain ⟨G, hG⟩ : ∃ G, cntF S (upto id 65536) = G := ⟨_, rfl⟩
      obtain ⟨c1, c2, c3, c4, c5⟩ := hC
      rw [hN] at c1
      rw [hG] at c2 hGl
      have HE := Lib.hid (And.intro hN hG)
      have HGi := Lib.hid (show (Tryd.prog.info? 41).map (·.size) = some (arr G).size by rw [arr_size, hGl]; exact info_moth)
      have HGo := Lib.hid (show (arr [0, 0, 0, 0]).size = (arr G).size by rw [arr_size, arr_size, hGl]; rfl)
      have HF := Lib.hid (show (World.drew U).heap[w4.heap.size + 1]? = some (.cells (arr G) 41 (0, 0)) from c2)
      have HR := Lib.hid (show (World.drew U).heap[w.heap.size + 1]? = some (.cells (arr [0, 0, 0, 0]) 41 (0, 0)) from c4)
      have hcn : (World.drew U).cell? ⟨w4.heap.size, 0, none⟩ = some (.int .i64 N) := Boxed.cell (W := World.drew U) c1
      have HB := Lib.hid (show Below w.heap.size w ((World.drew U).setRow (w.heap.size + 1) (arr G)) from below_setRow c5.drew (by omega) _)
      have HD := Lib.hid (show ((World.drew U).setRow (w.heap.size + 1) (arr G)).heap[D]? = some (.deferred (some [])) from (keeps_row (U := World.drew U) (ds := arr G) (show Blk (World.drew U) (w.heap.size + 1) 41 _ from c4)).same D _ hK rfl)
      have HX := Lib.hid (show Blk ((World.drew U).setRow (w.heap.size + 1) (arr G)) (w.heap.size + 1) 41 (arr G) from Blk.row (w := World.drew U) c4 _)
      have hmix : Tryd.prog.follows .mixedOrders = true := by kernel_rfl
      clear hN hG c1 c2 c3 c4 c5 hGl hK
      gi_wp2_with fail
      refine wpIn_cut0 (fun a' w' => a' = { tmps := #[.agg (arr S), .pointer (some ⟨w.heap.size, 0, none⟩), .int .i64 N, .pointer (some ⟨w.heap.size + 1, 0, none⟩), .int .i64 0, .pointer (some ⟨w4.heap.size, 0, none⟩), .pointer (some ⟨w4.heap.size + 1, 0, none⟩), undef, undef, .slice (some ⟨w.heap.size, 0, none⟩) 16 16, .func (.func 53) #[] #[.pointer (some ⟨V.heap.size, 0, none⟩), .pointer (some ⟨V.heap.size + 1, 0, none⟩)], .bool false, undef, .agg #[.int .i64 0, .int .i64 0, .int .i64 0, .int .i64 0], undef, undef, undef, undef, undef, undef, undef, undef, undef, .int .i64 N, .agg (arr G)], defers := [{ target := .collected D, args := #[] }] } ∧ (World.drew U).setRow (w.heap.size + 1) (arr G) = w') ?reg ?rest
      case reg =>
        refine wpIn_region_any (by assumption) ?_
        change wpAnyIn _ _ _ _ _ _ _ _ _ (World.drew _)
        refine wpAnyIn_ready (rs := [0, 1]) (by kernel_rfl) (by simp) ?_
        refine AllReadyIn.cons rfl (fun K hK => ?_) (AllReadyIn.cons rfl (fun K hK => ?_) AllReadyIn.nil)
        · go_simp
          refine hK _ _ ?_
          clear hK K
          refine wpAnyIn_ready (rs := [1, 2]) (by kernel_rfl) (by simp) ?_
          refine AllReadyIn.cons rfl (fun K hK => ?_) (AllReadyIn.cons rfl (fun K hK => ?_) AllReadyIn.nil)
          · refine Eq.mpr (if_pos (by rfl)) ?_
            refine operIn_load_row 41 (.tmp 6) rfl (w4.heap.size + 1) rfl 41 (arr G) (0, 0) _ HF.out Tryd.underlying41 rfl HGi.out (hK _ _ ?_)
            clear hK K
            refine wpAnyIn_ready (rs := [2]) (by kernel_rfl) (by simp) ?_
            refine AllReadyIn.cons rfl (fun K hK => ?_) AllReadyIn.nil
            go_simp
            refine hK _ _ ?_
            clear hK K
            refine wpAnyIn_ready (rs := [3]) (by kernel_rfl) (by simp) ?_
            refine AllReadyIn.cons rfl (fun K hK => ?_) AllReadyIn.nil
            refine Eq.mpr (if_pos (by rfl)) ?_
            refine operIn_store_row 41 (.tmp 3) (.tmp 24) rfl (w.heap.size + 1) (arr G) rfl rfl 41 _ HR.out HGi.out HGo.out (arr_one _) (hK _ _ ?_)
            clear hK K
            refine wpAnyIn_ready (rs := [4]) (by kernel_rfl) (by simp) ?_
            refine AllReadyIn.cons rfl (fun K hK => ?_) AllReadyIn.nil
            go_simp
            refine hK _ _ ?_
            clear hK K
            refine wpAnyIn_done (by kernel_rfl) ?_ _
            exact ⟨rfl, rfl⟩
          · go_simp
            refine hK _ _ ?_
            clear hK K
            refine wpAnyIn_ready (rs := [1]) (by kernel_rfl) (by simp) ?_
            refine AllReadyIn.cons rfl (fun K hK => ?_) AllReadyIn.nil
            refine Eq.mpr (if_pos (by rfl)) ?_
            refine operIn_load_row 41 (.tmp 6) rfl (w4.heap.size + 1) rfl 41 (arr G) (0, 0) _ HF.out Tryd.underlying41 rfl HGi.out (hK _ _ ?_)
            clear hK K
            refine wpAnyIn_ready (rs := [3]) (by kernel_rfl) (by simp) ?_
            refine AllReadyIn.cons rfl (fun K hK => ?_) AllReadyIn.nil
            refine Eq.mpr (if_pos (by rfl)) ?_
            refine operIn_store_row 41 (.tmp 3) (.tmp 24) rfl (w.heap.size + 1) (arr G) rfl rfl 41 _ HR.out HGi.out HGo.out (arr_one _) (hK _ _ ?_)
            clear hK K
            refine wpAnyIn_ready (rs := [4]) (by kernel_rfl) (by simp) ?_
            refine AllReadyIn.cons rfl (fun K hK => ?_) AllReadyIn.nil
            go_simp
            refine hK _ _ ?_
            clear hK K
            refine wpAnyIn_done (by kernel_rfl) ?_ _
            exact ⟨rfl, rfl⟩
        · refine Eq.mpr (if_pos (by rfl)) ?_
          refine operIn_load_row 41 (.tmp 6) rfl (w4.heap.size + 1) rfl 41 (arr G) (0, 0) _ HF.out Tryd.underlying41 rfl HGi.out (hK _ _ ?_)
          clear hK K
          refine wpAnyIn_ready (rs := [0]) (by kernel_rfl) (by simp) ?_
          refine AllReadyIn.cons rfl (fun K hK => ?_) AllReadyIn.nil
          go_simp
          refine hK _ _ ?_
          clear hK K
          refine wpAnyIn_ready (rs := [2]) (by kernel_rfl) (by simp) ?_
          refine AllReadyIn.cons rfl (fun K hK => ?_) AllReadyIn.nil
          go_simp
          refine hK _ _ ?_
          clear hK K
          refine wpAnyIn_ready (rs := [3]) (by kernel_rfl) (by simp) ?_
          refine AllReadyIn.cons rfl (fun K hK => ?_) AllReadyIn.nil
          refine Eq.mpr (if_pos (by rfl)) ?_
          refine operIn_store_row 41 (.tmp 3) (.tmp 24) rfl (w.heap.size + 1) (arr G) rfl rfl 41 _ HR.out HGi.out HGo.out (arr_one _) (hK _ _ ?_)
          clear hK K
          refine wpAnyIn_ready (rs := [4]) (by kernel_rfl) (by simp) ?_
          refine AllReadyIn.cons rfl (fun K hK => ?_) AllReadyIn.nil
          go_simp
          refine hK _ _ ?_
          clear hK K
          refine wpAnyIn_done (by kernel_rfl) ?_ _
          exact ⟨rfl, rfl⟩
      case rest =>
        rintro a' w6 ⟨rfl, hw6⟩
        rw [hw6] at HB HD HX
        gi_wp2
        refine ⟨by simp, .inl ⟨_, _, rfl, run_takeDeferred HD.out, ?_⟩⟩
        have hX2 : (w6.putObj D (.deferred none)).heap[w.heap.size + 1]? = some (.cells (arr G) 41 (0, 0)) := (World.putObj_heap_other (by have := hb5.size; omega)).trans HX.out
        exact ⟨.tuple #[.int .i64 N, .agg (arr G), .int .i64 0], results_mid rfl _ _ (w.heap.size + 1) 41 (arr G) (0, 0) _ rfl hX2 Tryd.underlying41 rfl HGi.out _ _ rfl rfl, by rw [HE.out.1, HE.out.2], HB.out.trans (belowK_b (w := w) (Nat.le_refl _) w6 D _ _ (by have := hb5.size; omega) HD.out rfl rfl)⟩
    case stop =>
      rintro D c pre U _ _ h _
      exact h.elim
end Go.Proofs.YtjhjgkocoghgfaaDoor
