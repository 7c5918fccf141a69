/-
  The circle of houses: translations.
-/
import Derived.Test.YtdnccdobnhbpeaaDoorHcC
namespace Go.Proofs.YtdnccdobnhbpeaaDoor
open Go Go.RowKit Go.Shelf Go.Maps Go.ChangeShapes
set_option linter.unusedVariables false
set_option linter.unusedSimpArgs false

def tr2 (s : List Int) (a b x : Int) (l : List Int) : List T3 := (l.filter fun y => thirdB a b x && thirdB a b y && (x != y) && (fg s x == fg s y)).map fun y => (4, x, y)
theorem tr2_yes {s : List Int} {a b x y : Int} {l : List Int} (h : (thirdB a b x && thirdB a b y && (x != y) && (fg s x == fg s y)) = true) : tr2 s a b x (l ++ [y]) = tr2 s a b x l ++ [(4, x, y)] := by
  simp only [tr2, List.filter_append, List.map_append, List.filter_cons, List.filter_nil, h]; simp
theorem tr2_no {s : List Int} {a b x y : Int} {l : List Int} (h : (thirdB a b x && thirdB a b y && (x != y) && (fg s x == fg s y)) = false) : tr2 s a b x (l ++ [y]) = tr2 s a b x l := by
  simp only [tr2, List.filter_append, List.map_append, List.filter_cons, List.filter_nil, h]; simp
theorem tr2_len (s : List Int) (a b x : Int) (l : List Int) : (tr2 s a b x l).length ≤ l.length := by simp only [tr2, List.length_map]; exact List.length_filter_le _ _
def tr1 (s : List Int) (a b x : Int) : List T3 := if (fg s x == fg s a || fg s x == fg s b) = true then [] else tr2 s a b x (nbs b)
def trL (s : List Int) (a b : Int) (xs : List Int) : List T3 := xs.flatMap fun x => tr1 s a b x
theorem trL_snoc (s : List Int) (a b : Int) (xs : List Int) (x : Int) : trL s a b (xs ++ [x]) = trL s a b xs ++ tr1 s a b x := by simp [trL]
theorem trL_len (s : List Int) (a b : Int) (xs : List Int) : (trL s a b xs).length ≤ 2 * xs.length := by
  induction xs with
  | nil => simp [trL]
  | cons x xs ih =>
    have h1 : (tr1 s a b x).length ≤ 2 := by
      unfold tr1
      split
      · simp
      · exact tr2_len s a b x (nbs b)
    have h2 : trL s a b (x :: xs) = tr1 s a b x ++ trL s a b xs := by simp [trL]
    rw [h2, List.length_append, List.length_cons]
    omega
theorem wpListIn_load_row {F : Fence} {nF : Nat} {P : Program} {ops : Array Oper} {rest : List Oper} {o : Oper} {a : Act} {w : World} {Q : Exit → Act → World → Prop} (hgd : o.guard = none) (ty : TypeId) (x : Operand) (ho : o.op = .load ty x)
    (g : Nat) (hx : a.eval x = .pointer (some ⟨g, 0, none⟩)) (t : TypeId) (cs : Array Value) (fr : Nat × Nat) (d : TypeDesc) (hg : w.heap[g]? = some (.cells cs t fr))
    (hu : P.underlying ty = some d) (hd : (match d with | .struct _ | .array _ _ => true | _ => false) = true) (hi : (P.info? ty).map (·.size) = some cs.size)
    (h : wpListIn F nF P ops Q rest (a.put o.dst (.agg cs)) w) : wpListIn F nF P ops Q (o :: rest) a w :=
  wpListIn_plain hgd fun K' hK' => operIn_load_row ty x ho g hx t cs fr d hg hu hd hi (hK' _ _ h)
attribute [local go_sem] Oper.semAt_some

set_option maxRecDepth 100000 in
set_option maxHeartbeats 8000000 in
theorem trans_in (cs : Array Value) (s : List Int) (m : Option Nat) (hC : Circ cs s m) (a b : Int) (ha : Hou a) (hb : Hou b) (w : World) :
    CallsIn Fence.wide 8 Tryd.prog 60 #[.agg cs, .int .i64 a, .int .i64 b] w fun e W' => ∃ v, e = .returned v ∧ W'.ownsRow w.heap.size 66 3 v (trL s a b (nbs a)).length (rowT (trL s a b (nbs a))) ∧ Below w.heap.size w W' := by
  obtain ⟨i0, hi, hz0, hz1, hz2⟩ := info_parts info_tie
  refine callsIn_of_wp_marks Tryd.func60 rfl trivial ?_ rfl
  simp only [Tryd.ntmps60, List.size_toArray, List.length_cons, List.length_nil, Nat.reduceAdd, Nat.reduceSub, Array.replicate_succ, Array.replicate_zero, List.push_toArray, List.append_toArray, List.nil_append, List.cons_append]
  gi_wp2_with fail
  refine ⟨trivial, ?_⟩
  refine (callsIn_wide.2 (thirds_any a b _)).mono ?_
  rintro e w1 ⟨rfl, rfl⟩
  have e1 : (w.alloc (.cells cs 84)).heap.size = w.heap.size + 1 := by simp
  have e2 : ((w.alloc (.cells cs 84)).alloc (.cells #[.int .i64 a] 3)).heap.size = w.heap.size + 1 + 1 := by simp
  have e3 : (((w.alloc (.cells cs 84)).alloc (.cells #[.int .i64 a] 3)).alloc (.cells #[.int .i64 b] 3)).heap.size = w.heap.size + 1 + 1 + 1 := by simp
  have e4 : ((((w.alloc (.cells cs 84)).alloc (.cells #[.int .i64 a] 3)).alloc (.cells #[.int .i64 b] 3)).alloc (.cells #[.slice none 0 0] 40)).heap.size = w.heap.size + 1 + 1 + 1 + 1 := by simp
  have e5 : (((((w.alloc (.cells cs 84)).alloc (.cells #[.int .i64 a] 3)).alloc (.cells #[.int .i64 b] 3)).alloc (.cells #[.slice none 0 0] 40)).alloc (.cells #[.int .i64 a] 3)).heap.size = w.heap.size + 1 + 1 + 1 + 1 + 1 := by simp
  have q3 : Blk ((((((w.alloc (.cells cs 84)).alloc (.cells #[.int .i64 a] 3)).alloc (.cells #[.int .i64 b] 3)).alloc (.cells #[.slice none 0 0] 40)).alloc (.cells #[.int .i64 a] 3)).alloc (.cells #[.int .i64 b] 3)) w.heap.size 84 cs := (((((Blk.new w 84 cs).alloc _).alloc _).alloc _).alloc _).alloc _
  have q4 : Boxed ((((((w.alloc (.cells cs 84)).alloc (.cells #[.int .i64 a] 3)).alloc (.cells #[.int .i64 b] 3)).alloc (.cells #[.slice none 0 0] 40)).alloc (.cells #[.int .i64 a] 3)).alloc (.cells #[.int .i64 b] 3)) (w.heap.size + 1) 3 (.int .i64 a) := by rw [← e1]; exact ((((Boxed.new _ _ _).alloc _).alloc _).alloc _).alloc _
  have q5 : Boxed ((((((w.alloc (.cells cs 84)).alloc (.cells #[.int .i64 a] 3)).alloc (.cells #[.int .i64 b] 3)).alloc (.cells #[.slice none 0 0] 40)).alloc (.cells #[.int .i64 a] 3)).alloc (.cells #[.int .i64 b] 3)) (w.heap.size + 1 + 1) 3 (.int .i64 b) := by rw [← e2]; exact (((Boxed.new _ _ _).alloc _).alloc _).alloc _
  have q7 : Boxed ((((((w.alloc (.cells cs 84)).alloc (.cells #[.int .i64 a] 3)).alloc (.cells #[.int .i64 b] 3)).alloc (.cells #[.slice none 0 0] 40)).alloc (.cells #[.int .i64 a] 3)).alloc (.cells #[.int .i64 b] 3)) (w.heap.size + 1 + 1 + 1) 40 (.slice none 0 0) := by rw [← e3]; exact ((Boxed.new _ _ _).alloc _).alloc _
  have qa : Boxed ((((((w.alloc (.cells cs 84)).alloc (.cells #[.int .i64 a] 3)).alloc (.cells #[.int .i64 b] 3)).alloc (.cells #[.slice none 0 0] 40)).alloc (.cells #[.int .i64 a] 3)).alloc (.cells #[.int .i64 b] 3)) (w.heap.size + 1 + 1 + 1 + 1) 3 (.int .i64 a) := by rw [← e4]; exact (Boxed.new _ _ _).alloc _
  have qb : Boxed ((((((w.alloc (.cells cs 84)).alloc (.cells #[.int .i64 a] 3)).alloc (.cells #[.int .i64 b] 3)).alloc (.cells #[.slice none 0 0] 40)).alloc (.cells #[.int .i64 a] 3)).alloc (.cells #[.int .i64 b] 3)) (w.heap.size + 1 + 1 + 1 + 1 + 1) 3 (.int .i64 b) := by rw [← e5]; exact Boxed.new _ _ _
  have hBl : Below w.heap.size w ((((((w.alloc (.cells cs 84)).alloc (.cells #[.int .i64 a] 3)).alloc (.cells #[.int .i64 b] 3)).alloc (.cells #[.slice none 0 0] 40)).alloc (.cells #[.int .i64 a] 3)).alloc (.cells #[.int .i64 b] 3)) := ((((((Below.refl _ _).alloc (Nat.le_refl _) _).alloc (by omega) _).alloc (by omega) _).alloc (by omega) _).alloc (by omega) _).alloc (by omega) _
  clear e1 e2 e3 e4 e5
  generalize ((((((w.alloc (.cells cs 84)).alloc (.cells #[.int .i64 a] 3)).alloc (.cells #[.int .i64 b] 3)).alloc (.cells #[.slice none 0 0] 40)).alloc (.cells #[.int .i64 a] 3)).alloc (.cells #[.int .i64 b] 3)) = W0 at q3 q4 q5 q7 qa qb hBl ⊢
  have h8 : Boxed (W0.alloc (.cells #[.nilFunc] 32)) W0.heap.size 32 .nilFunc := Boxed.new _ _ _
  have h8c := h8.cell
  have h8f := h8.frozen
  have hst : (store (⟨W0.heap.size, 0, none⟩ : Addr) (.func (.func 94) #[] #[.pointer (some ⟨w.heap.size + 1 + 1 + 1 + 1, 0, none⟩), .pointer (some ⟨w.heap.size + 1 + 1 + 1 + 1 + 1, 0, none⟩)])).run Tryd.prog (W0.alloc (.cells #[.nilFunc] 32)) = .ok () ((W0.alloc (.cells #[.nilFunc] 32)).setCell ⟨W0.heap.size, 0, none⟩ (.func (.func 94) #[] #[.pointer (some ⟨w.heap.size + 1 + 1 + 1 + 1, 0, none⟩), .pointer (some ⟨w.heap.size + 1 + 1 + 1 + 1 + 1, 0, none⟩)])) := by
    rw [run_store _ _ _ _ _ rfl]
    simp [stored, h8c, h8f]
  have c4 := q4.cell
  have c4' : (W0.alloc (.cells #[.func (.func 94) #[] #[.pointer (some ⟨w.heap.size + 1 + 1 + 1 + 1, 0, none⟩), .pointer (some ⟨w.heap.size + 1 + 1 + 1 + 1 + 1, 0, none⟩)]] 32)).cell? ⟨w.heap.size + 1, 0, none⟩ = some (.int .i64 a) := (q4.alloc _).cell
  gi_wp2_with fail
  refine ⟨trivial, ?_⟩
  refine (callsIn_wide.2 (beside_any a _)).mono ?_
  rintro e w1 ⟨rfl, rfl⟩
  gi_wp2_with fail
  have hbw : Below W0.heap.size W0 ((W0.alloc (.cells #[.func (.func 94) #[] #[.pointer (some ⟨w.heap.size + 1 + 1 + 1 + 1, 0, none⟩), .pointer (some ⟨w.heap.size + 1 + 1 + 1 + 1 + 1, 0, none⟩)]] 32)).alloc (.cells #[.int .i64 a] 3)) := (below1 _ _).alloc (by simp) _
  have p8 : Boxed ((W0.alloc (.cells #[.func (.func 94) #[] #[.pointer (some ⟨w.heap.size + 1 + 1 + 1 + 1, 0, none⟩), .pointer (some ⟨w.heap.size + 1 + 1 + 1 + 1 + 1, 0, none⟩)]] 32)).alloc (.cells #[.int .i64 a] 3)) W0.heap.size 32 (.func (.func 94) #[] #[.pointer (some ⟨w.heap.size + 1 + 1 + 1 + 1, 0, none⟩), .pointer (some ⟨w.heap.size + 1 + 1 + 1 + 1 + 1, 0, none⟩)]) := (Boxed.new _ _ _).alloc _
  have pc : Boxed ((W0.alloc (.cells #[.func (.func 94) #[] #[.pointer (some ⟨w.heap.size + 1 + 1 + 1 + 1, 0, none⟩), .pointer (some ⟨w.heap.size + 1 + 1 + 1 + 1 + 1, 0, none⟩)]] 32)).alloc (.cells #[.int .i64 a] 3)) (W0.heap.size + 1) 3 (.int .i64 a) := by
    have e1 : (W0.alloc (.cells #[.func (.func 94) #[] #[.pointer (some ⟨w.heap.size + 1 + 1 + 1 + 1, 0, none⟩), .pointer (some ⟨w.heap.size + 1 + 1 + 1 + 1 + 1, 0, none⟩)]] 32)).heap.size = W0.heap.size + 1 := by simp
    rw [← e1]; exact Boxed.new _ _ _
  have p3 := q3.below hbw q3.lt
  have p4 := boxed_below q4 hbw
  have p5 := boxed_below q5 hbw
  have p7 := boxed_below q7 hbw
  have pa := boxed_below qa hbw
  have pb := boxed_below qb hbw
  have hlt8 := qb.lt
  have hB1 := hBl.trans (hbw.mono hBl.size)
  generalize ((W0.alloc (.cells #[.func (.func 94) #[] #[.pointer (some ⟨w.heap.size + 1 + 1 + 1 + 1, 0, none⟩), .pointer (some ⟨w.heap.size + 1 + 1 + 1 + 1 + 1, 0, none⟩)]] 32)).alloc (.cells #[.int .i64 a] 3)) = W1 at hbw p8 pc p3 p4 p5 p7 pa pb hB1 ⊢
  clear h8 h8c h8f hst c4 c4' q3 q4 q5 q7 qa qb hBl hbw
  obtain ⟨Bc, hBc⟩ : ∃ B, W0.heap.size + 1 = B := ⟨_, rfl⟩
  rw [hBc] at pc ⊢
  obtain ⟨B8, hB8⟩ : ∃ B, W0.heap.size = B := ⟨_, rfl⟩
  rw [hB8] at p8 hlt8 ⊢
  obtain ⟨Qb, hQb⟩ : ∃ B, w.heap.size + 1 + 1 + 1 + 1 + 1 = B := ⟨_, rfl⟩
  rw [hQb] at p8 hlt8 pb ⊢
  obtain ⟨Pa, hPa⟩ : ∃ B, w.heap.size + 1 + 1 + 1 + 1 = B := ⟨_, rfl⟩
  rw [hPa] at p8 pa ⊢
  obtain ⟨B7, hB7⟩ : ∃ B, w.heap.size + 1 + 1 + 1 = B := ⟨_, rfl⟩
  rw [hB7] at p7 ⊢
  obtain ⟨B5, hB5⟩ : ∃ B, w.heap.size + 1 + 1 = B := ⟨_, rfl⟩
  rw [hB5] at p5 ⊢
  obtain ⟨B4, hB4⟩ : ∃ B, w.heap.size + 1 = B := ⟨_, rfl⟩
  rw [hB4] at p4 ⊢
  have hBB : w.heap.size < B4 ∧ B4 < B5 ∧ B5 < B7 ∧ B7 < Pa ∧ Pa < Qb ∧ Qb < B8 ∧ B8 < Bc := by omega
  clear hBc hB8 hQb hPa hB7 hB5 hB4 hlt8
  have hszc := pc.lt
  have M0 : Mj w w.heap.size w.heap.size Pa Qb B5 B7 B8 cs a b 0 (.slice none 0 0) [] (trL s a b []) W1 := ⟨⟨p3, pa, p5, ⟨_, p7, World.ownsRow_nil _ _ _ _⟩, hB1⟩, pb, p8, World.ownsRow_nil _ _ _ _⟩
  clear p3 pa p5 p7 pb p8
  refine wpIn_rangeFunc_ownH (F := Fence.wide) rfl (by omega) (gf := 93) (lb := #[.pointer (some ⟨Bc, 0, none⟩)]) rfl trivial (enters_of Tryd.func93 (by kernel_rfl) rfl)
    (beside_stops Fence.wide (8 - 1) trivial rfl (by omega) Bc a ha W1 pc.cell) KpN.trans (KpN.put hszc) (Below.refl _ _) (fun _ => rfl)
    (fun pre W => Mj w w.heap.size w.heap.size Pa Qb B5 B7 B8 cs a b 0 (.slice none 0 0) [] (trL s a b (pre.map (nbI a))) W ∧ Boxed W B4 3 (.int .i64 a) ∧ Boxed W Bc 3 (.int .i64 a))
    (fun _ _ _ => False)
    (fun pre X Y row h hg hr => ⟨Mj.own (f := fun p : List Nat => trL s a b (p.map (nbI a))) hB1.size (Nat.le_refl _) pre X Y row h.1 hg hr, h.2.1.kept hg (not_row_cells (W' := Y) h.2.1 (fun r e => (hr r e).2)), h.2.2.kept hg (not_row_cells (W' := Y) h.2.2 (fun r e => (hr r e).2))⟩)
    (fun _ _ _ _ _ hs _ _ => hs)
    ⟨M0, p4, pc⟩
    (fun x0 a' W => ∃ B9, Bc < B9 ∧ Boxed W B9 3 (.int .i64 (nbI a x0)) ∧ a' = { tmps := #[.agg cs, .int .i64 a, .int .i64 b, .pointer (some ⟨w.heap.size, 0, none⟩), .pointer (some ⟨B4, 0, none⟩), .pointer (some ⟨B5, 0, none⟩), .slice none 0 0, .pointer (some ⟨B7, 0, none⟩), .pointer (some ⟨B8, 0, none⟩), .pointer (some ⟨B9, 0, none⟩), undef, undef, .int .i64 a, .int .i64 b, .func (.func 94) #[] #[.pointer (some ⟨Pa, 0, none⟩), .pointer (some ⟨Qb, 0, none⟩)], .int .i64 a, .func (.func 93) #[] #[.pointer (some ⟨Bc, 0, none⟩)], .int .i64 (nbI a x0), undef, undef, undef, undef, undef, undef, undef, undef, undef, undef, undef, undef, undef, undef, undef, undef, undef, undef, undef, undef, undef, undef, undef, undef, undef, undef, undef, undef, undef, undef, undef, undef, undef, undef, undef, undef, undef, undef, undef, undef, undef, undef, undef, undef, undef], defers := [] })
    (fun x a' s X Y row h hg hr => by
      obtain ⟨B9, h1, h2, h3⟩ := h
      exact ⟨B9, h1, h2.kept hg (not_row_cells (W' := Y) h2 (fun r e => (hr r e).2)), h3⟩) ?assign ?body ?done ?stop
  case assign =>
    rintro l pre x0 W K ⟨hM, h4, hc⟩ hK
    unfold encN
    have hbv := below1 W (.cells #[.int .i64 (nbI a x0)] 3)
    have hM2 := hM.below hbv (Nat.le_refl _)
    have h42 := boxed_below h4 hbv
    have hc2 := boxed_below hc hbv
    have h9 := Boxed.new W 3 (.int .i64 (nbI a x0))
    have hcl := hc.lt
    have hkp := KpN.below hbv hcl
    clear hM h4 hc
    gi_wp2
    exact hK _ _ (keepsFrom_below hbv) hkp ⟨hM2, h42, hc2⟩ ⟨W.heap.size, hcl, h9, rfl⟩
  case body =>
    rintro l pre0 x0 a' W hl ⟨r, hr⟩ ⟨HJ, h4, hc⟩ ⟨B9, hB9, h9, rfl⟩ hlen
    have hxh : Hou (nbI a x0) := nbI_hou
    have hm0 : (pre0 ++ [x0]).map (nbI a) = pre0.map (nbI a) ++ [nbI a x0] := by simp
    have hpl : (pre0.map (nbI a)).length < 2 := by simpa using hlen
    have hTb := trL_len s a b (pre0.map (nbI a))
    have hTS := trL_snoc s a b (pre0.map (nbI a)) (nbI a x0)
    rw [← hm0] at hTS
    obtain ⟨T, hT⟩ : ∃ T, trL s a b (pre0.map (nbI a)) = T := ⟨_, rfl⟩
    obtain ⟨x, hx⟩ : ∃ y, nbI a x0 = y := ⟨_, rfl⟩
    rw [hT] at HJ hTb hTS
    rw [hx] at hxh hTS h9 ⊢
    have HTS := Lib.hid hTS
    have hTb2 : T.length ≤ 4 := by omega
    clear hT hx hm0 hpl hTb hTS hlen
    have J3 := HJ.cj.c3
    have J9 := h9.cell
    obtain ⟨fx, hfx⟩ : ∃ z, fg s x = z := ⟨_, rfl⟩
    obtain ⟨fa, hfa⟩ : ∃ z, fg s a = z := ⟨_, rfl⟩
    obtain ⟨fb, hfb⟩ : ∃ z, fg s b = z := ⟨_, rfl⟩
    have HFX := Lib.hid hfx
    have HFA := Lib.hid hfa
    have HFB := Lib.hid hfb
    clear hfx hfa hfb
    gi_wp2_with (refine wpListIn_load_row rfl 84 (.tmp 3) rfl w.heap.size rfl 84 cs (0, 0) _ J3 Tryd.underlying84 rfl (circ_info hC) ?_)
    refine ⟨trivial, ?_⟩
    refine (CallsIn.inRound l (callsIn_wide.2 (figureC_any cs s m hC x hxh _))).mono ?_
    rintro e w2 ⟨rfl, hb2⟩
    rw [HFX.out]
    gi_wp2_with fail
    have hb5 : Below W.heap.size W (w2.alloc (.cells #[.int .i64 fx] 22)) := hb2.alloc hb2.size _
    have h10 : Boxed (w2.alloc (.cells #[.int .i64 fx] 22)) w2.heap.size 22 (.int .i64 fx) := Boxed.new _ _ _
    have hlr : l < W.heap.size := (Array.getElem?_eq_some_iff.1 hr).1
    have HJ5 := HJ.below hb5 (Nat.le_refl _)
    have h45 := boxed_below h4 hb5
    have h95 := boxed_below h9 hb5
    have hc5 := boxed_below hc hb5
    have hr5 := (hb5.block l hlr).trans hr
    have hkf5 : KeepsFrom W1.heap.size W (w2.alloc (.cells #[.int .i64 fx] 22)) := keepsFrom_below hb5
    have hsz5 : W.heap.size ≤ (w2.alloc (.cells #[.int .i64 fx] 22)).heap.size := hb5.size
    have hBc0 : W.heap[Bc]? = some (.cells #[.int .i64 a] 3 (0, 0)) := hc
    have hlB9 := h9.lt
    have hB10 : B9 < w2.heap.size := Nat.lt_of_lt_of_le hlB9 hb2.size
    generalize (w2.alloc (.cells #[.int .i64 fx] 22)) = W5 at hb5 h10 HJ5 h45 h95 hc5 hr5 hkf5 hsz5 ⊢
    obtain ⟨B10, hB10e⟩ : ∃ B, w2.heap.size = B := ⟨_, rfl⟩
    rw [hB10e] at h10 hB10 ⊢
    clear hB10e hb2 hb5 HJ h4 h9 hc hr J3 J9
    have J3 := HJ5.cj.c3
    have J4 := h45.cell
    have J5 := HJ5.cj.c5.cell
    have J10 := h10.cell
    cases he1 : (fx == fa)
    · obtain ⟨e2, he2⟩ : ∃ z, (fx == fb) = z := ⟨_, rfl⟩
      refine wpIn_region_vals follows_mixedB [some 21, some 22, some 23, some 24, some 25, some 26, some 27, some 28, some 29, some 30, some 31, some 32] (by kernel_rfl) [(.int .i64 fx), (.agg cs), (.int .i64 a), (.int .i64 fa), (.bool false), (.bool false), (.int .i64 fx), (.agg cs), (.int .i64 b), (.int .i64 fb), (.bool e2), (.bool e2)] rfl ?step ?fin
      case step =>
        intro i hi a1 V FD
        have hi : i < 12 := hi
        have e : i = 0 ∨ i = 1 ∨ i = 2 ∨ i = 3 ∨ i = 4 ∨ i = 5 ∨ i = 6 ∨ i = 7 ∨ i = 8 ∨ i = 9 ∨ i = 10 ∨ i = 11 := by omega
        clear hi
        rcases e with rfl | rfl | rfl | rfl | rfl | rfl | rfl | rfl | rfl | rfl | rfl | rfl
        · have e10 : a1.tmps[10]?.getD undef = (.pointer (some ⟨B10, 0, none⟩)) := (FD.kept 10 (by kernel_rfl)).trans rfl
          refine wpOpIn_step rfl (fun K hK => ?_)
          refine Eq.mpr (if_pos (by rfl)) ?_
          have hc1 := cell_tr FD.below J10
          go_simp
          exact hK _ _ ⟨rfl, Below.refl _ _⟩
        · have e3 : a1.tmps[3]?.getD undef = (.pointer (some ⟨w.heap.size, 0, none⟩)) := (FD.kept 3 (by kernel_rfl)).trans rfl
          refine wpOpIn_step rfl (fun K hK => ?_)
          refine Eq.mpr (if_pos (by rfl)) ?_
          exact operIn_load_row 84 (.tmp 3) rfl w.heap.size (eval_tmp e3) 84 cs (0, 0) _ (J3.below FD.below J3.lt) Tryd.underlying84 rfl (circ_info hC) (hK _ _ ⟨rfl, Below.refl _ _⟩)
        · have e4 : a1.tmps[4]?.getD undef = (.pointer (some ⟨B4, 0, none⟩)) := (FD.kept 4 (by kernel_rfl)).trans rfl
          refine wpOpIn_step rfl (fun K hK => ?_)
          refine Eq.mpr (if_pos (by rfl)) ?_
          have hc1 := cell_tr FD.below J4
          go_simp
          exact hK _ _ ⟨rfl, Below.refl _ _⟩
        · have e22 : a1.tmps[22]?.getD undef = (.agg cs) := FD.dep 1 22 (by kernel_rfl) rfl
          have e23 : a1.tmps[23]?.getD undef = (.int .i64 a) := FD.dep 2 23 (by kernel_rfl) rfl
          refine wpOpIn_step rfl (fun K hK => ?_)
          refine Eq.mpr (if_pos (by rfl)) ?_
          go_simp
          gi_wp2_with fail
          refine ⟨trivial, ?_⟩
          refine (CallsIn.inRound l (callsIn_wide.2 (figureC_any cs s m hC a ha _))).mono ?_
          rintro e V2 ⟨rfl, hb2⟩
          rw [HFA.out]
          exact hK _ _ ⟨rfl, hb2⟩
        · have e21 : a1.tmps[21]?.getD undef = (.int .i64 fx) := FD.dep 0 21 (by kernel_rfl) rfl
          have e24 : a1.tmps[24]?.getD undef = (.int .i64 fa) := FD.dep 3 24 (by kernel_rfl) rfl
          refine wpOpIn_step rfl (fun K hK => ?_)
          refine Eq.mpr (if_pos (by rfl)) ?_
          go_simp
          exact hK _ _ ⟨rfl, Below.refl _ _⟩
        · have e25 : a1.tmps[25]?.getD undef = (.bool false) := FD.dep 4 25 (by kernel_rfl) rfl
          refine wpOpIn_step rfl (fun K hK => ?_)
          refine Eq.mpr (if_pos (by rfl)) ?_
          go_simp
          exact hK _ _ ⟨rfl, Below.refl _ _⟩
        · have e10 : a1.tmps[10]?.getD undef = (.pointer (some ⟨B10, 0, none⟩)) := (FD.kept 10 (by kernel_rfl)).trans rfl
          have e26 : a1.tmps[26]?.getD undef = (.bool false) := FD.dep 5 26 (by kernel_rfl) rfl
          refine wpOpIn_step rfl (fun K hK => ?_)
          refine Eq.mpr (if_pos (wanted_of rfl rfl e26)) ?_
          have hc1 := cell_tr FD.below J10
          go_simp
          exact hK _ _ ⟨rfl, Below.refl _ _⟩
        · have e3 : a1.tmps[3]?.getD undef = (.pointer (some ⟨w.heap.size, 0, none⟩)) := (FD.kept 3 (by kernel_rfl)).trans rfl
          have e26 : a1.tmps[26]?.getD undef = (.bool false) := FD.dep 5 26 (by kernel_rfl) rfl
          refine wpOpIn_step rfl (fun K hK => ?_)
          refine Eq.mpr (if_pos (wanted_of rfl rfl e26)) ?_
          exact operIn_load_row 84 (.tmp 3) rfl w.heap.size (eval_tmp e3) 84 cs (0, 0) _ (J3.below FD.below J3.lt) Tryd.underlying84 rfl (circ_info hC) (hK _ _ ⟨rfl, Below.refl _ _⟩)
        · have e5 : a1.tmps[5]?.getD undef = (.pointer (some ⟨B5, 0, none⟩)) := (FD.kept 5 (by kernel_rfl)).trans rfl
          have e26 : a1.tmps[26]?.getD undef = (.bool false) := FD.dep 5 26 (by kernel_rfl) rfl
          refine wpOpIn_step rfl (fun K hK => ?_)
          refine Eq.mpr (if_pos (wanted_of rfl rfl e26)) ?_
          have hc1 := cell_tr FD.below J5
          go_simp
          exact hK _ _ ⟨rfl, Below.refl _ _⟩
        · have e28 : a1.tmps[28]?.getD undef = (.agg cs) := FD.dep 7 28 (by kernel_rfl) rfl
          have e29 : a1.tmps[29]?.getD undef = (.int .i64 b) := FD.dep 8 29 (by kernel_rfl) rfl
          have e26 : a1.tmps[26]?.getD undef = (.bool false) := FD.dep 5 26 (by kernel_rfl) rfl
          refine wpOpIn_step rfl (fun K hK => ?_)
          refine Eq.mpr (if_pos (wanted_of rfl rfl e26)) ?_
          go_simp
          gi_wp2_with fail
          refine ⟨trivial, ?_⟩
          refine (CallsIn.inRound l (callsIn_wide.2 (figureC_any cs s m hC b hb _))).mono ?_
          rintro e V2 ⟨rfl, hb2⟩
          rw [HFB.out]
          exact hK _ _ ⟨rfl, hb2⟩
        · have e27 : a1.tmps[27]?.getD undef = (.int .i64 fx) := FD.dep 6 27 (by kernel_rfl) rfl
          have e30 : a1.tmps[30]?.getD undef = (.int .i64 fb) := FD.dep 9 30 (by kernel_rfl) rfl
          have e26 : a1.tmps[26]?.getD undef = (.bool false) := FD.dep 5 26 (by kernel_rfl) rfl
          refine wpOpIn_step rfl (fun K hK => ?_)
          refine Eq.mpr (if_pos (wanted_of rfl rfl e26)) ?_
          go_simp
          exact hK _ _ ⟨rfl, Below.refl _ _⟩
        · have e26 : a1.tmps[26]?.getD undef = (.bool false) := FD.dep 5 26 (by kernel_rfl) rfl
          have e31 : a1.tmps[31]?.getD undef = (.bool e2) := FD.dep 10 31 (by kernel_rfl) rfl
          refine wpOpIn_step rfl (fun K hK => ?_)
          refine Eq.mpr (if_pos (by rfl)) ?_
          go_simp
          exact hK _ _ ⟨rfl, Below.refl _ _⟩
      case fin =>
        intro V hbv
        simp only [finV, List.set_cons_succ, List.set_cons_zero]
        cases e2
        · have HT1 := Lib.hid (show tr1 s a b x = tr2 s a b x (nbs b) by unfold tr1; rw [HFX.out, HFA.out, HFB.out, he1, he2]; rfl)
          have J5v := cell_tr hbv J5
          have HJ6 := HJ5.below hbv (Nat.le_refl _)
          have h46 := boxed_below h45 hbv
          have h96 := boxed_below h95 hbv
          have h106 := boxed_below h10 hbv
          have hc6 := boxed_below hc5 hbv
          have hr6 := (hbv.block l (Array.getElem?_eq_some_iff.1 hr5).1).trans hr5
          have hkf6 := hkf5.trans (keepsFrom_below (B := W1.heap.size) hbv)
          have hsz6 := Nat.le_trans hsz5 hbv.size
          clear HJ5 h45 h95 h10 hc5 hr5 hkf5 hsz5 J3 J4 J5 J10 hbv
          gi_wp2_with fail
          refine ⟨trivial, ?_⟩
          refine (CallsIn.inRound l (callsIn_wide.2 (beside_any b _))).mono ?_
          rintro e w3 ⟨rfl, rfl⟩
          gi_wp2_with fail
          have hb7 := below1 V (.cells #[.int .i64 b] 3)
          have HJ7 := HJ6.below hb7 (Nat.le_refl _)
          have h47 := boxed_below h46 hb7
          have h97 := boxed_below h96 hb7
          have h107 := boxed_below h106 hb7
          have hc7 := boxed_below hc6 hb7
          have hr7 := (hb7.block l (Array.getElem?_eq_some_iff.1 hr6).1).trans hr6
          have hkf7 := hkf6.trans (keepsFrom_below (B := W1.heap.size) hb7)
          have hsz7 := Nat.le_trans hsz6 hb7.size
          have hcc7 := Boxed.new V 3 (.int .i64 b)
          have hlB10 := h106.lt
          clear HJ6 h46 h96 h106 hc6 hr6 hkf6 J5v
          generalize (V.alloc (.cells #[.int .i64 b] 3)) = W7 at hb7 HJ7 h47 h97 h107 hc7 hr7 hkf7 hsz7 hcc7 ⊢
          obtain ⟨Bc2, hBc2⟩ : ∃ B, V.heap.size = B := ⟨_, rfl⟩
          rw [hBc2] at hcc7 hlB10 hsz6 ⊢
          have hszb := hcc7.lt
          have hWn : w.heap.size ≤ W7.heap.size := HJ7.cj.bl.size
          clear hb7 hBc2
          refine wpIn_rangeFunc_ownN (l₀ := l) (r₀ := r) rfl hr7 (by omega) (gf := 93) (lb := #[.pointer (some ⟨Bc2, 0, none⟩)]) rfl trivial (enters_of Tryd.func93 (by kernel_rfl) rfl)
            ((beside_stops Fence.wide (8 - 1 - 1 - 1) trivial rfl (by omega) Bc2 b hb W7 hcc7.cell).inRound l) KpN.trans (KpN.put hszb) (Below.refl _ _) (fun _ => rfl)
            (fun pre W' => Mj w w.heap.size w.heap.size Pa Qb B5 B7 B8 cs a b 0 (.slice none 0 0) [] (T ++ tr2 s a b x (pre.map (nbI b))) W' ∧ Boxed W' B4 3 (.int .i64 a) ∧ Boxed W' B9 3 (.int .i64 x) ∧ Boxed W' B10 22 (.int .i64 fx) ∧ Boxed W' Bc 3 (.int .i64 a) ∧ Boxed W' Bc2 3 (.int .i64 b) ∧ W.heap.size ≤ W'.heap.size ∧ KeepsFrom W1.heap.size W W')
            (fun _ _ _ => False)
            (fun pre X Y row h hg hr => by
              obtain ⟨h1, h2, h3, h4, h5, h6, h7, h8⟩ := h
              have hnc : ∀ r, row = some r → ∃ o : Obj, X.heap[r]? = some o ∧ o.isCells = false := fun r e => (hr r e).2
              exact ⟨Mj.own (f := fun p : List Nat => T ++ tr2 s a b x (p.map (nbI b))) hWn (Nat.le_refl _) pre X Y row h1 hg hr, h2.kept hg (not_row_cells (W' := Y) h2 hnc), h3.kept hg (not_row_cells (W' := Y) h3 hnc), h4.kept hg (not_row_cells (W' := Y) h4 hnc), h5.kept hg (not_row_cells (W' := Y) h5 hnc), h6.kept hg (not_row_cells (W' := Y) h6 hnc), Nat.le_trans h7 hg.size, ownFrom_keepsFrom (B := W1.heap.size) hsz7 () X Y row h8 hg hr⟩)
            (fun _ _ _ _ _ hs _ _ => hs)
            ⟨by simpa [tr2] using HJ7, h47, h97, h107, hc7, hcc7, hsz7, hkf7⟩
            (fun y0 a'' _ => a'' = { tmps := #[.agg cs, .int .i64 a, .int .i64 b, .pointer (some ⟨w.heap.size, 0, none⟩), .pointer (some ⟨B4, 0, none⟩), .pointer (some ⟨B5, 0, none⟩), .slice none 0 0, .pointer (some ⟨B7, 0, none⟩), .pointer (some ⟨B8, 0, none⟩), .pointer (some ⟨B9, 0, none⟩), .pointer (some ⟨B10, 0, none⟩), .int .i64 (nbI b y0), .int .i64 a, .int .i64 b, .func (.func 94) #[] #[.pointer (some ⟨Pa, 0, none⟩), .pointer (some ⟨Qb, 0, none⟩)], .int .i64 a, .func (.func 93) #[] #[.pointer (some ⟨Bc, 0, none⟩)], .int .i64 x, .agg cs, .int .i64 x, .int .i64 fx, .int .i64 fx, .agg cs, .int .i64 a, .int .i64 fa, .bool false, .bool false, .int .i64 fx, .agg cs, .int .i64 b, .int .i64 fb, .bool false, .bool false, .int .i64 b, .func (.func 93) #[] #[.pointer (some ⟨Bc2, 0, none⟩)], .int .i64 (nbI b y0), undef, undef, undef, undef, undef, undef, undef, undef, undef, undef, undef, undef, undef, undef, undef, undef, undef, undef, undef, undef, undef, undef, undef, undef, undef, undef, undef], defers := [] })
            (fun _ _ _ _ _ _ hs _ _ => hs) ?assign2 ?body2 ?done2 ?stop2
          case assign2 =>
            intro l2 pre' y0 W' K hi hK
            unfold encN
            gi_wp2
            exact hK _ _ (KeepsFrom.refl _ _) ⟨Nat.le_refl _, rfl⟩ hi rfl
          case body2 =>
            rintro l2 pre1 y0 a'' W' hl2 hr2 ⟨HJ2, h42, h92, h102, hc2, hcc2, hSZ, hKF⟩ rfl hlen2
            have hyh : Hou (nbI b y0) := nbI_hou
            have hm1 : (pre1 ++ [y0]).map (nbI b) = pre1.map (nbI b) ++ [nbI b y0] := by simp
            have hpl2 : (pre1.map (nbI b)).length < 2 := by simpa using hlen2
            obtain ⟨pre, hpre⟩ : ∃ l, pre1.map (nbI b) = l := ⟨_, rfl⟩
            obtain ⟨y, hy⟩ : ∃ z, nbI b y0 = z := ⟨_, rfl⟩
            rw [hpre] at HJ2 hm1 hpl2
            rw [hy] at hyh hm1 ⊢
            have HM2 := Lib.hid hm1
            have hbnd := tr2_len s a b x pre
            obtain ⟨T2, hT2⟩ : ∃ T2, T ++ tr2 s a b x pre = T2 := ⟨_, rfl⟩
            have hbnd2 : T2.length ≤ 100 := by rw [← hT2, List.length_append]; omega
            rw [hT2] at HJ2
            have HT2 := Lib.hid hT2
            clear hpre hy hlen2 hm1 hT2 hbnd hpl2 h47 h97 h107 hc7 hcc7 HJ7 hr7 hkf7
            have J3 := HJ2.cj.c3
            have JP := HJ2.cj.c4.cell
            have JQ := HJ2.qb.cell
            have J8 := HJ2.c8.cell
            have J9 := h92.cell
            have J10 := h102.cell
            have hbcl2 := hcc2.lt
            obtain ⟨fy, hfy⟩ : ∃ z, fg s y = z := ⟨_, rfl⟩
            obtain ⟨c1, hc1⟩ : ∃ z, thirdB a b x = z := ⟨_, rfl⟩
            obtain ⟨c2, hc2'⟩ : ∃ z, thirdB a b y = z := ⟨_, rfl⟩
            have HFY := Lib.hid hfy
            have HC1 := Lib.hid hc1
            have HC2 := Lib.hid hc2'
            clear hfy hc1 hc2'
            have HMU : Hid ((thirdB a b x && thirdB a b y && (x != y) && (fg s x == fg s y)) = (c1 && c2 && (x != y) && (fx == fy))) := by show _ = _; rw [HC1.out, HC2.out, HFY.out, HFX.out]
            cases c1
            · gi_wp2_with fail
              refine wpIn_region_vals follows_mixedB [some 36, some 37, some 38, some 39, some 40, some 41, some 42, some 43, some 44, some 45, some 46, some 47, some 48, some 49, some 50, some 51, some 52, some 53, some 54, some 55] (by kernel_rfl) [(.func (.func 94) #[] #[.pointer (some ⟨Pa, 0, none⟩), .pointer (some ⟨Qb, 0, none⟩)]), (.int .i64 x), (.bool false), (.bool false), undef, undef, undef, (.bool false), (.bool false), undef, undef, undef, (.bool false), (.bool false), undef, undef, undef, undef, undef, (.bool false)] rfl ?step2 ?fin2
              case step2 =>
                intro i hi a1 V FD
                have hi : i < 20 := hi
                have e : i = 0 ∨ i = 1 ∨ i = 2 ∨ i = 3 ∨ i = 4 ∨ i = 5 ∨ i = 6 ∨ i = 7 ∨ i = 8 ∨ i = 9 ∨ i = 10 ∨ i = 11 ∨ i = 12 ∨ i = 13 ∨ i = 14 ∨ i = 15 ∨ i = 16 ∨ i = 17 ∨ i = 18 ∨ i = 19 := by omega
                clear hi
                rcases e with rfl | rfl | rfl | rfl | rfl | rfl | rfl | rfl | rfl | rfl | rfl | rfl | rfl | rfl | rfl | rfl | rfl | rfl | rfl | rfl
                · have e8 : a1.tmps[8]?.getD undef = (.pointer (some ⟨B8, 0, none⟩)) := (FD.kept 8 (by kernel_rfl)).trans rfl
                  refine wpOpIn_step rfl (fun K hK => ?_)
                  refine Eq.mpr (if_pos (by rfl)) ?_
                  have hc1 := cell_tr FD.below J8
                  go_simp
                  exact hK _ _ ⟨rfl, Below.refl _ _⟩
                · have e9 : a1.tmps[9]?.getD undef = (.pointer (some ⟨B9, 0, none⟩)) := (FD.kept 9 (by kernel_rfl)).trans rfl
                  refine wpOpIn_step rfl (fun K hK => ?_)
                  refine Eq.mpr (if_pos (by rfl)) ?_
                  have hc1 := cell_tr FD.below J9
                  go_simp
                  exact hK _ _ ⟨rfl, Below.refl _ _⟩
                · have e36 : a1.tmps[36]?.getD undef = (.func (.func 94) #[] #[.pointer (some ⟨Pa, 0, none⟩), .pointer (some ⟨Qb, 0, none⟩)]) := FD.dep 0 36 (by kernel_rfl) rfl
                  have e37 : a1.tmps[37]?.getD undef = (.int .i64 x) := FD.dep 1 37 (by kernel_rfl) rfl
                  refine wpOpIn_step rfl (fun K hK => ?_)
                  refine Eq.mpr (if_pos (by rfl)) ?_
                  go_simp
                  gi_wp2_with fail
                  refine ⟨trivial, ?_⟩
                  refine (CallsIn.inRound l2 (callsIn_wide.2 (thirds1_any a b x ⟨Pa, 0, none⟩ ⟨Qb, 0, none⟩ _ (cell_tr FD.below JP) (cell_tr FD.below JQ)))).mono ?_
                  rintro e V2 ⟨rfl, rfl⟩
                  rw [HC1.out]
                  exact hK _ _ ⟨rfl, Below.refl _ _⟩
                · have e38 : a1.tmps[38]?.getD undef = (.bool false) := FD.dep 2 38 (by kernel_rfl) rfl
                  refine wpOpIn_step rfl (fun K hK => ?_)
                  refine Eq.mpr (if_pos (by rfl)) ?_
                  go_simp
                  exact hK _ _ ⟨rfl, Below.refl _ _⟩
                · have e8 : a1.tmps[8]?.getD undef = (.pointer (some ⟨B8, 0, none⟩)) := (FD.kept 8 (by kernel_rfl)).trans rfl
                  have e39 : a1.tmps[39]?.getD undef = (.bool false) := FD.dep 3 39 (by kernel_rfl) rfl
                  refine wpOpIn_step rfl (fun K hK => ?_)
                  refine Eq.mpr (if_neg (unwanted_of rfl rfl e39 (by decide))) ?_
                  exact ⟨fun _ _ => trivial, hK _ _ ⟨rfl, Below.refl _ _⟩⟩
                · have e11 : a1.tmps[11]?.getD undef = (.int .i64 y) := (FD.kept 11 (by kernel_rfl)).trans rfl
                  have e39 : a1.tmps[39]?.getD undef = (.bool false) := FD.dep 3 39 (by kernel_rfl) rfl
                  refine wpOpIn_step rfl (fun K hK => ?_)
                  refine Eq.mpr (if_neg (unwanted_of rfl rfl e39 (by decide))) ?_
                  exact ⟨fun _ _ => trivial, hK _ _ ⟨rfl, Below.refl _ _⟩⟩
                · have e40 : a1.tmps[40]?.getD undef = undef := FD.dep 4 40 (by kernel_rfl) rfl
                  have e41 : a1.tmps[41]?.getD undef = undef := FD.dep 5 41 (by kernel_rfl) rfl
                  have e39 : a1.tmps[39]?.getD undef = (.bool false) := FD.dep 3 39 (by kernel_rfl) rfl
                  refine wpOpIn_step rfl (fun K hK => ?_)
                  refine Eq.mpr (if_neg (unwanted_of rfl rfl e39 (by decide))) ?_
                  exact ⟨fun _ _ => trivial, hK _ _ ⟨rfl, Below.refl _ _⟩⟩
                · have e39 : a1.tmps[39]?.getD undef = (.bool false) := FD.dep 3 39 (by kernel_rfl) rfl
                  have e42 : a1.tmps[42]?.getD undef = undef := FD.dep 6 42 (by kernel_rfl) rfl
                  refine wpOpIn_step rfl (fun K hK => ?_)
                  refine Eq.mpr (if_pos (by rfl)) ?_
                  go_simp
                  exact hK _ _ ⟨rfl, Below.refl _ _⟩
                · have e43 : a1.tmps[43]?.getD undef = (.bool false) := FD.dep 7 43 (by kernel_rfl) rfl
                  refine wpOpIn_step rfl (fun K hK => ?_)
                  refine Eq.mpr (if_pos (by rfl)) ?_
                  go_simp
                  exact hK _ _ ⟨rfl, Below.refl _ _⟩
                · have e9 : a1.tmps[9]?.getD undef = (.pointer (some ⟨B9, 0, none⟩)) := (FD.kept 9 (by kernel_rfl)).trans rfl
                  have e44 : a1.tmps[44]?.getD undef = (.bool false) := FD.dep 8 44 (by kernel_rfl) rfl
                  refine wpOpIn_step rfl (fun K hK => ?_)
                  refine Eq.mpr (if_neg (unwanted_of rfl rfl e44 (by decide))) ?_
                  exact ⟨fun _ _ => trivial, hK _ _ ⟨rfl, Below.refl _ _⟩⟩
                · have e11 : a1.tmps[11]?.getD undef = (.int .i64 y) := (FD.kept 11 (by kernel_rfl)).trans rfl
                  have e44 : a1.tmps[44]?.getD undef = (.bool false) := FD.dep 8 44 (by kernel_rfl) rfl
                  refine wpOpIn_step rfl (fun K hK => ?_)
                  refine Eq.mpr (if_neg (unwanted_of rfl rfl e44 (by decide))) ?_
                  exact ⟨fun _ _ => trivial, hK _ _ ⟨rfl, Below.refl _ _⟩⟩
                · have e45 : a1.tmps[45]?.getD undef = undef := FD.dep 9 45 (by kernel_rfl) rfl
                  have e46 : a1.tmps[46]?.getD undef = undef := FD.dep 10 46 (by kernel_rfl) rfl
                  have e44 : a1.tmps[44]?.getD undef = (.bool false) := FD.dep 8 44 (by kernel_rfl) rfl
                  refine wpOpIn_step rfl (fun K hK => ?_)
                  refine Eq.mpr (if_neg (unwanted_of rfl rfl e44 (by decide))) ?_
                  exact ⟨fun _ _ => trivial, hK _ _ ⟨rfl, Below.refl _ _⟩⟩
                · have e44 : a1.tmps[44]?.getD undef = (.bool false) := FD.dep 8 44 (by kernel_rfl) rfl
                  have e47 : a1.tmps[47]?.getD undef = undef := FD.dep 11 47 (by kernel_rfl) rfl
                  refine wpOpIn_step rfl (fun K hK => ?_)
                  refine Eq.mpr (if_pos (by rfl)) ?_
                  go_simp
                  exact hK _ _ ⟨rfl, Below.refl _ _⟩
                · have e48 : a1.tmps[48]?.getD undef = (.bool false) := FD.dep 12 48 (by kernel_rfl) rfl
                  refine wpOpIn_step rfl (fun K hK => ?_)
                  refine Eq.mpr (if_pos (by rfl)) ?_
                  go_simp
                  exact hK _ _ ⟨rfl, Below.refl _ _⟩
                · have e10 : a1.tmps[10]?.getD undef = (.pointer (some ⟨B10, 0, none⟩)) := (FD.kept 10 (by kernel_rfl)).trans rfl
                  have e49 : a1.tmps[49]?.getD undef = (.bool false) := FD.dep 13 49 (by kernel_rfl) rfl
                  refine wpOpIn_step rfl (fun K hK => ?_)
                  refine Eq.mpr (if_neg (unwanted_of rfl rfl e49 (by decide))) ?_
                  exact ⟨fun _ _ => trivial, hK _ _ ⟨rfl, Below.refl _ _⟩⟩
                · have e3 : a1.tmps[3]?.getD undef = (.pointer (some ⟨w.heap.size, 0, none⟩)) := (FD.kept 3 (by kernel_rfl)).trans rfl
                  have e49 : a1.tmps[49]?.getD undef = (.bool false) := FD.dep 13 49 (by kernel_rfl) rfl
                  refine wpOpIn_step rfl (fun K hK => ?_)
                  refine Eq.mpr (if_neg (unwanted_of rfl rfl e49 (by decide))) ?_
                  exact ⟨fun _ _ => trivial, hK _ _ ⟨rfl, Below.refl _ _⟩⟩
                · have e11 : a1.tmps[11]?.getD undef = (.int .i64 y) := (FD.kept 11 (by kernel_rfl)).trans rfl
                  have e49 : a1.tmps[49]?.getD undef = (.bool false) := FD.dep 13 49 (by kernel_rfl) rfl
                  refine wpOpIn_step rfl (fun K hK => ?_)
                  refine Eq.mpr (if_neg (unwanted_of rfl rfl e49 (by decide))) ?_
                  exact ⟨fun _ _ => trivial, hK _ _ ⟨rfl, Below.refl _ _⟩⟩
                · have e51 : a1.tmps[51]?.getD undef = undef := FD.dep 15 51 (by kernel_rfl) rfl
                  have e52 : a1.tmps[52]?.getD undef = undef := FD.dep 16 52 (by kernel_rfl) rfl
                  have e49 : a1.tmps[49]?.getD undef = (.bool false) := FD.dep 13 49 (by kernel_rfl) rfl
                  refine wpOpIn_step rfl (fun K hK => ?_)
                  refine Eq.mpr (if_neg (unwanted_of rfl rfl e49 (by decide))) ?_
                  exact ⟨fun _ _ => trivial, hK _ _ ⟨rfl, Below.refl _ _⟩⟩
                · have e50 : a1.tmps[50]?.getD undef = undef := FD.dep 14 50 (by kernel_rfl) rfl
                  have e53 : a1.tmps[53]?.getD undef = undef := FD.dep 17 53 (by kernel_rfl) rfl
                  have e49 : a1.tmps[49]?.getD undef = (.bool false) := FD.dep 13 49 (by kernel_rfl) rfl
                  refine wpOpIn_step rfl (fun K hK => ?_)
                  refine Eq.mpr (if_neg (unwanted_of rfl rfl e49 (by decide))) ?_
                  exact ⟨fun _ _ => trivial, hK _ _ ⟨rfl, Below.refl _ _⟩⟩
                · have e49 : a1.tmps[49]?.getD undef = (.bool false) := FD.dep 13 49 (by kernel_rfl) rfl
                  have e54 : a1.tmps[54]?.getD undef = undef := FD.dep 18 54 (by kernel_rfl) rfl
                  refine wpOpIn_step rfl (fun K hK => ?_)
                  refine Eq.mpr (if_pos (by rfl)) ?_
                  go_simp
                  exact hK _ _ ⟨rfl, Below.refl _ _⟩
              case fin2 =>
                intro V hbv
                simp only [finV, List.set_cons_succ, List.set_cons_zero]
                have HJ3 := HJ2.below hbv (Nat.le_refl _)
                have b4 := boxed_below h42 hbv
                have b9 := boxed_below h92 hbv
                have b10 := boxed_below h102 hbv
                have bc := boxed_below hc2 hbv
                have bc2 := boxed_below hcc2 hbv
                have hkf := hKF.trans (keepsFrom_below (B := W1.heap.size) hbv)
                have hsv := Nat.le_trans hSZ hbv.size
                have HN := Lib.hid (show tr2 s a b x (pre ++ [y]) = tr2 s a b x pre from tr2_no (by rw [HMU.out]; rfl))
                gi_wp2
                exact ⟨keepsFrom_below hbv, KpN.below hbv hbcl2, by rw [HM2.out, HN.out, HT2.out]; exact HJ3, b4, b9, b10, bc, bc2, hsv, hkf⟩
            · cases c2
              · gi_wp2_with fail
                refine wpIn_region_vals follows_mixedB [some 36, some 37, some 38, some 39, some 40, some 41, some 42, some 43, some 44, some 45, some 46, some 47, some 48, some 49, some 50, some 51, some 52, some 53, some 54, some 55] (by kernel_rfl) [(.func (.func 94) #[] #[.pointer (some ⟨Pa, 0, none⟩), .pointer (some ⟨Qb, 0, none⟩)]), (.int .i64 x), (.bool true), (.bool true), (.func (.func 94) #[] #[.pointer (some ⟨Pa, 0, none⟩), .pointer (some ⟨Qb, 0, none⟩)]), (.int .i64 y), (.bool false), (.bool false), (.bool false), undef, undef, undef, (.bool false), (.bool false), undef, undef, undef, undef, undef, (.bool false)] rfl ?step2 ?fin2
                case step2 =>
                  intro i hi a1 V FD
                  have hi : i < 20 := hi
                  have e : i = 0 ∨ i = 1 ∨ i = 2 ∨ i = 3 ∨ i = 4 ∨ i = 5 ∨ i = 6 ∨ i = 7 ∨ i = 8 ∨ i = 9 ∨ i = 10 ∨ i = 11 ∨ i = 12 ∨ i = 13 ∨ i = 14 ∨ i = 15 ∨ i = 16 ∨ i = 17 ∨ i = 18 ∨ i = 19 := by omega
                  clear hi
                  rcases e with rfl | rfl | rfl | rfl | rfl | rfl | rfl | rfl | rfl | rfl | rfl | rfl | rfl | rfl | rfl | rfl | rfl | rfl | rfl | rfl
                  · have e8 : a1.tmps[8]?.getD undef = (.pointer (some ⟨B8, 0, none⟩)) := (FD.kept 8 (by kernel_rfl)).trans rfl
                    refine wpOpIn_step rfl (fun K hK => ?_)
                    refine Eq.mpr (if_pos (by rfl)) ?_
                    have hc1 := cell_tr FD.below J8
                    go_simp
                    exact hK _ _ ⟨rfl, Below.refl _ _⟩
                  · have e9 : a1.tmps[9]?.getD undef = (.pointer (some ⟨B9, 0, none⟩)) := (FD.kept 9 (by kernel_rfl)).trans rfl
                    refine wpOpIn_step rfl (fun K hK => ?_)
                    refine Eq.mpr (if_pos (by rfl)) ?_
                    have hc1 := cell_tr FD.below J9
                    go_simp
                    exact hK _ _ ⟨rfl, Below.refl _ _⟩
                  · have e36 : a1.tmps[36]?.getD undef = (.func (.func 94) #[] #[.pointer (some ⟨Pa, 0, none⟩), .pointer (some ⟨Qb, 0, none⟩)]) := FD.dep 0 36 (by kernel_rfl) rfl
                    have e37 : a1.tmps[37]?.getD undef = (.int .i64 x) := FD.dep 1 37 (by kernel_rfl) rfl
                    refine wpOpIn_step rfl (fun K hK => ?_)
                    refine Eq.mpr (if_pos (by rfl)) ?_
                    go_simp
                    gi_wp2_with fail
                    refine ⟨trivial, ?_⟩
                    refine (CallsIn.inRound l2 (callsIn_wide.2 (thirds1_any a b x ⟨Pa, 0, none⟩ ⟨Qb, 0, none⟩ _ (cell_tr FD.below JP) (cell_tr FD.below JQ)))).mono ?_
                    rintro e V2 ⟨rfl, rfl⟩
                    rw [HC1.out]
                    exact hK _ _ ⟨rfl, Below.refl _ _⟩
                  · have e38 : a1.tmps[38]?.getD undef = (.bool true) := FD.dep 2 38 (by kernel_rfl) rfl
                    refine wpOpIn_step rfl (fun K hK => ?_)
                    refine Eq.mpr (if_pos (by rfl)) ?_
                    go_simp
                    exact hK _ _ ⟨rfl, Below.refl _ _⟩
                  · have e8 : a1.tmps[8]?.getD undef = (.pointer (some ⟨B8, 0, none⟩)) := (FD.kept 8 (by kernel_rfl)).trans rfl
                    have e39 : a1.tmps[39]?.getD undef = (.bool true) := FD.dep 3 39 (by kernel_rfl) rfl
                    refine wpOpIn_step rfl (fun K hK => ?_)
                    refine Eq.mpr (if_pos (wanted_of rfl rfl e39)) ?_
                    have hc1 := cell_tr FD.below J8
                    go_simp
                    exact hK _ _ ⟨rfl, Below.refl _ _⟩
                  · have e11 : a1.tmps[11]?.getD undef = (.int .i64 y) := (FD.kept 11 (by kernel_rfl)).trans rfl
                    have e39 : a1.tmps[39]?.getD undef = (.bool true) := FD.dep 3 39 (by kernel_rfl) rfl
                    refine wpOpIn_step rfl (fun K hK => ?_)
                    refine Eq.mpr (if_pos (wanted_of rfl rfl e39)) ?_
                    go_simp
                    exact hK _ _ ⟨rfl, Below.refl _ _⟩
                  · have e40 : a1.tmps[40]?.getD undef = (.func (.func 94) #[] #[.pointer (some ⟨Pa, 0, none⟩), .pointer (some ⟨Qb, 0, none⟩)]) := FD.dep 4 40 (by kernel_rfl) rfl
                    have e41 : a1.tmps[41]?.getD undef = (.int .i64 y) := FD.dep 5 41 (by kernel_rfl) rfl
                    have e39 : a1.tmps[39]?.getD undef = (.bool true) := FD.dep 3 39 (by kernel_rfl) rfl
                    refine wpOpIn_step rfl (fun K hK => ?_)
                    refine Eq.mpr (if_pos (wanted_of rfl rfl e39)) ?_
                    go_simp
                    gi_wp2_with fail
                    refine ⟨trivial, ?_⟩
                    refine (CallsIn.inRound l2 (callsIn_wide.2 (thirds1_any a b y ⟨Pa, 0, none⟩ ⟨Qb, 0, none⟩ _ (cell_tr FD.below JP) (cell_tr FD.below JQ)))).mono ?_
                    rintro e V2 ⟨rfl, rfl⟩
                    rw [HC2.out]
                    exact hK _ _ ⟨rfl, Below.refl _ _⟩
                  · have e39 : a1.tmps[39]?.getD undef = (.bool true) := FD.dep 3 39 (by kernel_rfl) rfl
                    have e42 : a1.tmps[42]?.getD undef = (.bool false) := FD.dep 6 42 (by kernel_rfl) rfl
                    refine wpOpIn_step rfl (fun K hK => ?_)
                    refine Eq.mpr (if_pos (by rfl)) ?_
                    go_simp
                    exact hK _ _ ⟨rfl, Below.refl _ _⟩
                  · have e43 : a1.tmps[43]?.getD undef = (.bool false) := FD.dep 7 43 (by kernel_rfl) rfl
                    refine wpOpIn_step rfl (fun K hK => ?_)
                    refine Eq.mpr (if_pos (by rfl)) ?_
                    go_simp
                    exact hK _ _ ⟨rfl, Below.refl _ _⟩
                  · have e9 : a1.tmps[9]?.getD undef = (.pointer (some ⟨B9, 0, none⟩)) := (FD.kept 9 (by kernel_rfl)).trans rfl
                    have e44 : a1.tmps[44]?.getD undef = (.bool false) := FD.dep 8 44 (by kernel_rfl) rfl
                    refine wpOpIn_step rfl (fun K hK => ?_)
                    refine Eq.mpr (if_neg (unwanted_of rfl rfl e44 (by decide))) ?_
                    exact ⟨fun _ _ => trivial, hK _ _ ⟨rfl, Below.refl _ _⟩⟩
                  · have e11 : a1.tmps[11]?.getD undef = (.int .i64 y) := (FD.kept 11 (by kernel_rfl)).trans rfl
                    have e44 : a1.tmps[44]?.getD undef = (.bool false) := FD.dep 8 44 (by kernel_rfl) rfl
                    refine wpOpIn_step rfl (fun K hK => ?_)
                    refine Eq.mpr (if_neg (unwanted_of rfl rfl e44 (by decide))) ?_
                    exact ⟨fun _ _ => trivial, hK _ _ ⟨rfl, Below.refl _ _⟩⟩
                  · have e45 : a1.tmps[45]?.getD undef = undef := FD.dep 9 45 (by kernel_rfl) rfl
                    have e46 : a1.tmps[46]?.getD undef = undef := FD.dep 10 46 (by kernel_rfl) rfl
                    have e44 : a1.tmps[44]?.getD undef = (.bool false) := FD.dep 8 44 (by kernel_rfl) rfl
                    refine wpOpIn_step rfl (fun K hK => ?_)
                    refine Eq.mpr (if_neg (unwanted_of rfl rfl e44 (by decide))) ?_
                    exact ⟨fun _ _ => trivial, hK _ _ ⟨rfl, Below.refl _ _⟩⟩
                  · have e44 : a1.tmps[44]?.getD undef = (.bool false) := FD.dep 8 44 (by kernel_rfl) rfl
                    have e47 : a1.tmps[47]?.getD undef = undef := FD.dep 11 47 (by kernel_rfl) rfl
                    refine wpOpIn_step rfl (fun K hK => ?_)
                    refine Eq.mpr (if_pos (by rfl)) ?_
                    go_simp
                    exact hK _ _ ⟨rfl, Below.refl _ _⟩
                  · have e48 : a1.tmps[48]?.getD undef = (.bool false) := FD.dep 12 48 (by kernel_rfl) rfl
                    refine wpOpIn_step rfl (fun K hK => ?_)
                    refine Eq.mpr (if_pos (by rfl)) ?_
                    go_simp
                    exact hK _ _ ⟨rfl, Below.refl _ _⟩
                  · have e10 : a1.tmps[10]?.getD undef = (.pointer (some ⟨B10, 0, none⟩)) := (FD.kept 10 (by kernel_rfl)).trans rfl
                    have e49 : a1.tmps[49]?.getD undef = (.bool false) := FD.dep 13 49 (by kernel_rfl) rfl
                    refine wpOpIn_step rfl (fun K hK => ?_)
                    refine Eq.mpr (if_neg (unwanted_of rfl rfl e49 (by decide))) ?_
                    exact ⟨fun _ _ => trivial, hK _ _ ⟨rfl, Below.refl _ _⟩⟩
                  · have e3 : a1.tmps[3]?.getD undef = (.pointer (some ⟨w.heap.size, 0, none⟩)) := (FD.kept 3 (by kernel_rfl)).trans rfl
                    have e49 : a1.tmps[49]?.getD undef = (.bool false) := FD.dep 13 49 (by kernel_rfl) rfl
                    refine wpOpIn_step rfl (fun K hK => ?_)
                    refine Eq.mpr (if_neg (unwanted_of rfl rfl e49 (by decide))) ?_
                    exact ⟨fun _ _ => trivial, hK _ _ ⟨rfl, Below.refl _ _⟩⟩
                  · have e11 : a1.tmps[11]?.getD undef = (.int .i64 y) := (FD.kept 11 (by kernel_rfl)).trans rfl
                    have e49 : a1.tmps[49]?.getD undef = (.bool false) := FD.dep 13 49 (by kernel_rfl) rfl
                    refine wpOpIn_step rfl (fun K hK => ?_)
                    refine Eq.mpr (if_neg (unwanted_of rfl rfl e49 (by decide))) ?_
                    exact ⟨fun _ _ => trivial, hK _ _ ⟨rfl, Below.refl _ _⟩⟩
                  · have e51 : a1.tmps[51]?.getD undef = undef := FD.dep 15 51 (by kernel_rfl) rfl
                    have e52 : a1.tmps[52]?.getD undef = undef := FD.dep 16 52 (by kernel_rfl) rfl
                    have e49 : a1.tmps[49]?.getD undef = (.bool false) := FD.dep 13 49 (by kernel_rfl) rfl
                    refine wpOpIn_step rfl (fun K hK => ?_)
                    refine Eq.mpr (if_neg (unwanted_of rfl rfl e49 (by decide))) ?_
                    exact ⟨fun _ _ => trivial, hK _ _ ⟨rfl, Below.refl _ _⟩⟩
                  · have e50 : a1.tmps[50]?.getD undef = undef := FD.dep 14 50 (by kernel_rfl) rfl
                    have e53 : a1.tmps[53]?.getD undef = undef := FD.dep 17 53 (by kernel_rfl) rfl
                    have e49 : a1.tmps[49]?.getD undef = (.bool false) := FD.dep 13 49 (by kernel_rfl) rfl
                    refine wpOpIn_step rfl (fun K hK => ?_)
                    refine Eq.mpr (if_neg (unwanted_of rfl rfl e49 (by decide))) ?_
                    exact ⟨fun _ _ => trivial, hK _ _ ⟨rfl, Below.refl _ _⟩⟩
                  · have e49 : a1.tmps[49]?.getD undef = (.bool false) := FD.dep 13 49 (by kernel_rfl) rfl
                    have e54 : a1.tmps[54]?.getD undef = undef := FD.dep 18 54 (by kernel_rfl) rfl
                    refine wpOpIn_step rfl (fun K hK => ?_)
                    refine Eq.mpr (if_pos (by rfl)) ?_
                    go_simp
                    exact hK _ _ ⟨rfl, Below.refl _ _⟩
                case fin2 =>
                  intro V hbv
                  simp only [finV, List.set_cons_succ, List.set_cons_zero]
                  have HJ3 := HJ2.below hbv (Nat.le_refl _)
                  have b4 := boxed_below h42 hbv
                  have b9 := boxed_below h92 hbv
                  have b10 := boxed_below h102 hbv
                  have bc := boxed_below hc2 hbv
                  have bc2 := boxed_below hcc2 hbv
                  have hkf := hKF.trans (keepsFrom_below (B := W1.heap.size) hbv)
                  have hsv := Nat.le_trans hSZ hbv.size
                  have HN := Lib.hid (show tr2 s a b x (pre ++ [y]) = tr2 s a b x pre from tr2_no (by rw [HMU.out]; rfl))
                  gi_wp2
                  exact ⟨keepsFrom_below hbv, KpN.below hbv hbcl2, by rw [HM2.out, HN.out, HT2.out]; exact HJ3, b4, b9, b10, bc, bc2, hsv, hkf⟩
              · cases hxy : (x != y)
                · gi_wp2_with fail
                  refine wpIn_region_vals follows_mixedB [some 36, some 37, some 38, some 39, some 40, some 41, some 42, some 43, some 44, some 45, some 46, some 47, some 48, some 49, some 50, some 51, some 52, some 53, some 54, some 55] (by kernel_rfl) [(.func (.func 94) #[] #[.pointer (some ⟨Pa, 0, none⟩), .pointer (some ⟨Qb, 0, none⟩)]), (.int .i64 x), (.bool true), (.bool true), (.func (.func 94) #[] #[.pointer (some ⟨Pa, 0, none⟩), .pointer (some ⟨Qb, 0, none⟩)]), (.int .i64 y), (.bool true), (.bool true), (.bool true), (.int .i64 x), (.int .i64 y), (.bool false), (.bool false), (.bool false), undef, undef, undef, undef, undef, (.bool false)] rfl ?step2 ?fin2
                  case step2 =>
                    intro i hi a1 V FD
                    have hi : i < 20 := hi
                    have e : i = 0 ∨ i = 1 ∨ i = 2 ∨ i = 3 ∨ i = 4 ∨ i = 5 ∨ i = 6 ∨ i = 7 ∨ i = 8 ∨ i = 9 ∨ i = 10 ∨ i = 11 ∨ i = 12 ∨ i = 13 ∨ i = 14 ∨ i = 15 ∨ i = 16 ∨ i = 17 ∨ i = 18 ∨ i = 19 := by omega
                    clear hi
                    rcases e with rfl | rfl | rfl | rfl | rfl | rfl | rfl | rfl | rfl | rfl | rfl | rfl | rfl | rfl | rfl | rfl | rfl | rfl | rfl | rfl
                    · have e8 : a1.tmps[8]?.getD undef = (.pointer (some ⟨B8, 0, none⟩)) := (FD.kept 8 (by kernel_rfl)).trans rfl
                      refine wpOpIn_step rfl (fun K hK => ?_)
                      refine Eq.mpr (if_pos (by rfl)) ?_
                      have hc1 := cell_tr FD.below J8
                      go_simp
                      exact hK _ _ ⟨rfl, Below.refl _ _⟩
                    · have e9 : a1.tmps[9]?.getD undef = (.pointer (some ⟨B9, 0, none⟩)) := (FD.kept 9 (by kernel_rfl)).trans rfl
                      refine wpOpIn_step rfl (fun K hK => ?_)
                      refine Eq.mpr (if_pos (by rfl)) ?_
                      have hc1 := cell_tr FD.below J9
                      go_simp
                      exact hK _ _ ⟨rfl, Below.refl _ _⟩
                    · have e36 : a1.tmps[36]?.getD undef = (.func (.func 94) #[] #[.pointer (some ⟨Pa, 0, none⟩), .pointer (some ⟨Qb, 0, none⟩)]) := FD.dep 0 36 (by kernel_rfl) rfl
                      have e37 : a1.tmps[37]?.getD undef = (.int .i64 x) := FD.dep 1 37 (by kernel_rfl) rfl
                      refine wpOpIn_step rfl (fun K hK => ?_)
                      refine Eq.mpr (if_pos (by rfl)) ?_
                      go_simp
                      gi_wp2_with fail
                      refine ⟨trivial, ?_⟩
                      refine (CallsIn.inRound l2 (callsIn_wide.2 (thirds1_any a b x ⟨Pa, 0, none⟩ ⟨Qb, 0, none⟩ _ (cell_tr FD.below JP) (cell_tr FD.below JQ)))).mono ?_
                      rintro e V2 ⟨rfl, rfl⟩
                      rw [HC1.out]
                      exact hK _ _ ⟨rfl, Below.refl _ _⟩
                    · have e38 : a1.tmps[38]?.getD undef = (.bool true) := FD.dep 2 38 (by kernel_rfl) rfl
                      refine wpOpIn_step rfl (fun K hK => ?_)
                      refine Eq.mpr (if_pos (by rfl)) ?_
                      go_simp
                      exact hK _ _ ⟨rfl, Below.refl _ _⟩
                    · have e8 : a1.tmps[8]?.getD undef = (.pointer (some ⟨B8, 0, none⟩)) := (FD.kept 8 (by kernel_rfl)).trans rfl
                      have e39 : a1.tmps[39]?.getD undef = (.bool true) := FD.dep 3 39 (by kernel_rfl) rfl
                      refine wpOpIn_step rfl (fun K hK => ?_)
                      refine Eq.mpr (if_pos (wanted_of rfl rfl e39)) ?_
                      have hc1 := cell_tr FD.below J8
                      go_simp
                      exact hK _ _ ⟨rfl, Below.refl _ _⟩
                    · have e11 : a1.tmps[11]?.getD undef = (.int .i64 y) := (FD.kept 11 (by kernel_rfl)).trans rfl
                      have e39 : a1.tmps[39]?.getD undef = (.bool true) := FD.dep 3 39 (by kernel_rfl) rfl
                      refine wpOpIn_step rfl (fun K hK => ?_)
                      refine Eq.mpr (if_pos (wanted_of rfl rfl e39)) ?_
                      go_simp
                      exact hK _ _ ⟨rfl, Below.refl _ _⟩
                    · have e40 : a1.tmps[40]?.getD undef = (.func (.func 94) #[] #[.pointer (some ⟨Pa, 0, none⟩), .pointer (some ⟨Qb, 0, none⟩)]) := FD.dep 4 40 (by kernel_rfl) rfl
                      have e41 : a1.tmps[41]?.getD undef = (.int .i64 y) := FD.dep 5 41 (by kernel_rfl) rfl
                      have e39 : a1.tmps[39]?.getD undef = (.bool true) := FD.dep 3 39 (by kernel_rfl) rfl
                      refine wpOpIn_step rfl (fun K hK => ?_)
                      refine Eq.mpr (if_pos (wanted_of rfl rfl e39)) ?_
                      go_simp
                      gi_wp2_with fail
                      refine ⟨trivial, ?_⟩
                      refine (CallsIn.inRound l2 (callsIn_wide.2 (thirds1_any a b y ⟨Pa, 0, none⟩ ⟨Qb, 0, none⟩ _ (cell_tr FD.below JP) (cell_tr FD.below JQ)))).mono ?_
                      rintro e V2 ⟨rfl, rfl⟩
                      rw [HC2.out]
                      exact hK _ _ ⟨rfl, Below.refl _ _⟩
                    · have e39 : a1.tmps[39]?.getD undef = (.bool true) := FD.dep 3 39 (by kernel_rfl) rfl
                      have e42 : a1.tmps[42]?.getD undef = (.bool true) := FD.dep 6 42 (by kernel_rfl) rfl
                      refine wpOpIn_step rfl (fun K hK => ?_)
                      refine Eq.mpr (if_pos (by rfl)) ?_
                      go_simp
                      exact hK _ _ ⟨rfl, Below.refl _ _⟩
                    · have e43 : a1.tmps[43]?.getD undef = (.bool true) := FD.dep 7 43 (by kernel_rfl) rfl
                      refine wpOpIn_step rfl (fun K hK => ?_)
                      refine Eq.mpr (if_pos (by rfl)) ?_
                      go_simp
                      exact hK _ _ ⟨rfl, Below.refl _ _⟩
                    · have e9 : a1.tmps[9]?.getD undef = (.pointer (some ⟨B9, 0, none⟩)) := (FD.kept 9 (by kernel_rfl)).trans rfl
                      have e44 : a1.tmps[44]?.getD undef = (.bool true) := FD.dep 8 44 (by kernel_rfl) rfl
                      refine wpOpIn_step rfl (fun K hK => ?_)
                      refine Eq.mpr (if_pos (wanted_of rfl rfl e44)) ?_
                      have hc1 := cell_tr FD.below J9
                      go_simp
                      exact hK _ _ ⟨rfl, Below.refl _ _⟩
                    · have e11 : a1.tmps[11]?.getD undef = (.int .i64 y) := (FD.kept 11 (by kernel_rfl)).trans rfl
                      have e44 : a1.tmps[44]?.getD undef = (.bool true) := FD.dep 8 44 (by kernel_rfl) rfl
                      refine wpOpIn_step rfl (fun K hK => ?_)
                      refine Eq.mpr (if_pos (wanted_of rfl rfl e44)) ?_
                      go_simp
                      exact hK _ _ ⟨rfl, Below.refl _ _⟩
                    · have e45 : a1.tmps[45]?.getD undef = (.int .i64 x) := FD.dep 9 45 (by kernel_rfl) rfl
                      have e46 : a1.tmps[46]?.getD undef = (.int .i64 y) := FD.dep 10 46 (by kernel_rfl) rfl
                      have e44 : a1.tmps[44]?.getD undef = (.bool true) := FD.dep 8 44 (by kernel_rfl) rfl
                      refine wpOpIn_step rfl (fun K hK => ?_)
                      refine Eq.mpr (if_pos (wanted_of rfl rfl e44)) ?_
                      go_simp
                      exact hK _ _ ⟨rfl, Below.refl _ _⟩
                    · have e44 : a1.tmps[44]?.getD undef = (.bool true) := FD.dep 8 44 (by kernel_rfl) rfl
                      have e47 : a1.tmps[47]?.getD undef = (.bool false) := FD.dep 11 47 (by kernel_rfl) rfl
                      refine wpOpIn_step rfl (fun K hK => ?_)
                      refine Eq.mpr (if_pos (by rfl)) ?_
                      go_simp
                      exact hK _ _ ⟨rfl, Below.refl _ _⟩
                    · have e48 : a1.tmps[48]?.getD undef = (.bool false) := FD.dep 12 48 (by kernel_rfl) rfl
                      refine wpOpIn_step rfl (fun K hK => ?_)
                      refine Eq.mpr (if_pos (by rfl)) ?_
                      go_simp
                      exact hK _ _ ⟨rfl, Below.refl _ _⟩
                    · have e10 : a1.tmps[10]?.getD undef = (.pointer (some ⟨B10, 0, none⟩)) := (FD.kept 10 (by kernel_rfl)).trans rfl
                      have e49 : a1.tmps[49]?.getD undef = (.bool false) := FD.dep 13 49 (by kernel_rfl) rfl
                      refine wpOpIn_step rfl (fun K hK => ?_)
                      refine Eq.mpr (if_neg (unwanted_of rfl rfl e49 (by decide))) ?_
                      exact ⟨fun _ _ => trivial, hK _ _ ⟨rfl, Below.refl _ _⟩⟩
                    · have e3 : a1.tmps[3]?.getD undef = (.pointer (some ⟨w.heap.size, 0, none⟩)) := (FD.kept 3 (by kernel_rfl)).trans rfl
                      have e49 : a1.tmps[49]?.getD undef = (.bool false) := FD.dep 13 49 (by kernel_rfl) rfl
                      refine wpOpIn_step rfl (fun K hK => ?_)
                      refine Eq.mpr (if_neg (unwanted_of rfl rfl e49 (by decide))) ?_
                      exact ⟨fun _ _ => trivial, hK _ _ ⟨rfl, Below.refl _ _⟩⟩
                    · have e11 : a1.tmps[11]?.getD undef = (.int .i64 y) := (FD.kept 11 (by kernel_rfl)).trans rfl
                      have e49 : a1.tmps[49]?.getD undef = (.bool false) := FD.dep 13 49 (by kernel_rfl) rfl
                      refine wpOpIn_step rfl (fun K hK => ?_)
                      refine Eq.mpr (if_neg (unwanted_of rfl rfl e49 (by decide))) ?_
                      exact ⟨fun _ _ => trivial, hK _ _ ⟨rfl, Below.refl _ _⟩⟩
                    · have e51 : a1.tmps[51]?.getD undef = undef := FD.dep 15 51 (by kernel_rfl) rfl
                      have e52 : a1.tmps[52]?.getD undef = undef := FD.dep 16 52 (by kernel_rfl) rfl
                      have e49 : a1.tmps[49]?.getD undef = (.bool false) := FD.dep 13 49 (by kernel_rfl) rfl
                      refine wpOpIn_step rfl (fun K hK => ?_)
                      refine Eq.mpr (if_neg (unwanted_of rfl rfl e49 (by decide))) ?_
                      exact ⟨fun _ _ => trivial, hK _ _ ⟨rfl, Below.refl _ _⟩⟩
                    · have e50 : a1.tmps[50]?.getD undef = undef := FD.dep 14 50 (by kernel_rfl) rfl
                      have e53 : a1.tmps[53]?.getD undef = undef := FD.dep 17 53 (by kernel_rfl) rfl
                      have e49 : a1.tmps[49]?.getD undef = (.bool false) := FD.dep 13 49 (by kernel_rfl) rfl
                      refine wpOpIn_step rfl (fun K hK => ?_)
                      refine Eq.mpr (if_neg (unwanted_of rfl rfl e49 (by decide))) ?_
                      exact ⟨fun _ _ => trivial, hK _ _ ⟨rfl, Below.refl _ _⟩⟩
                    · have e49 : a1.tmps[49]?.getD undef = (.bool false) := FD.dep 13 49 (by kernel_rfl) rfl
                      have e54 : a1.tmps[54]?.getD undef = undef := FD.dep 18 54 (by kernel_rfl) rfl
                      refine wpOpIn_step rfl (fun K hK => ?_)
                      refine Eq.mpr (if_pos (by rfl)) ?_
                      go_simp
                      exact hK _ _ ⟨rfl, Below.refl _ _⟩
                  case fin2 =>
                    intro V hbv
                    simp only [finV, List.set_cons_succ, List.set_cons_zero]
                    have HJ3 := HJ2.below hbv (Nat.le_refl _)
                    have b4 := boxed_below h42 hbv
                    have b9 := boxed_below h92 hbv
                    have b10 := boxed_below h102 hbv
                    have bc := boxed_below hc2 hbv
                    have bc2 := boxed_below hcc2 hbv
                    have hkf := hKF.trans (keepsFrom_below (B := W1.heap.size) hbv)
                    have hsv := Nat.le_trans hSZ hbv.size
                    have HN := Lib.hid (show tr2 s a b x (pre ++ [y]) = tr2 s a b x pre from tr2_no (by rw [HMU.out]; rw [hxy]; rfl))
                    gi_wp2
                    exact ⟨keepsFrom_below hbv, KpN.below hbv hbcl2, by rw [HM2.out, HN.out, HT2.out]; exact HJ3, b4, b9, b10, bc, bc2, hsv, hkf⟩
                · gi_wp2_with fail
                  refine wpIn_region_vals follows_mixedB [some 36, some 37, some 38, some 39, some 40, some 41, some 42, some 43, some 44, some 45, some 46, some 47, some 48, some 49, some 50, some 51, some 52, some 53, some 54, some 55] (by kernel_rfl) [(.func (.func 94) #[] #[.pointer (some ⟨Pa, 0, none⟩), .pointer (some ⟨Qb, 0, none⟩)]), (.int .i64 x), (.bool true), (.bool true), (.func (.func 94) #[] #[.pointer (some ⟨Pa, 0, none⟩), .pointer (some ⟨Qb, 0, none⟩)]), (.int .i64 y), (.bool true), (.bool true), (.bool true), (.int .i64 x), (.int .i64 y), (.bool true), (.bool true), (.bool true), (.int .i64 fx), (.agg cs), (.int .i64 y), (.int .i64 fy), (.bool (fx == fy)), (.bool (fx == fy))] rfl ?step2 ?fin2
                  case step2 =>
                    intro i hi a1 V FD
                    have hi : i < 20 := hi
                    have e : i = 0 ∨ i = 1 ∨ i = 2 ∨ i = 3 ∨ i = 4 ∨ i = 5 ∨ i = 6 ∨ i = 7 ∨ i = 8 ∨ i = 9 ∨ i = 10 ∨ i = 11 ∨ i = 12 ∨ i = 13 ∨ i = 14 ∨ i = 15 ∨ i = 16 ∨ i = 17 ∨ i = 18 ∨ i = 19 := by omega
                    clear hi
                    rcases e with rfl | rfl | rfl | rfl | rfl | rfl | rfl | rfl | rfl | rfl | rfl | rfl | rfl | rfl | rfl | rfl | rfl | rfl | rfl | rfl
                    · have e8 : a1.tmps[8]?.getD undef = (.pointer (some ⟨B8, 0, none⟩)) := (FD.kept 8 (by kernel_rfl)).trans rfl
                      refine wpOpIn_step rfl (fun K hK => ?_)
                      refine Eq.mpr (if_pos (by rfl)) ?_
                      have hc1 := cell_tr FD.below J8
                      go_simp
                      exact hK _ _ ⟨rfl, Below.refl _ _⟩
                    · have e9 : a1.tmps[9]?.getD undef = (.pointer (some ⟨B9, 0, none⟩)) := (FD.kept 9 (by kernel_rfl)).trans rfl
                      refine wpOpIn_step rfl (fun K hK => ?_)
                      refine Eq.mpr (if_pos (by rfl)) ?_
                      have hc1 := cell_tr FD.below J9
                      go_simp
                      exact hK _ _ ⟨rfl, Below.refl _ _⟩
                    · have e36 : a1.tmps[36]?.getD undef = (.func (.func 94) #[] #[.pointer (some ⟨Pa, 0, none⟩), .pointer (some ⟨Qb, 0, none⟩)]) := FD.dep 0 36 (by kernel_rfl) rfl
                      have e37 : a1.tmps[37]?.getD undef = (.int .i64 x) := FD.dep 1 37 (by kernel_rfl) rfl
                      refine wpOpIn_step rfl (fun K hK => ?_)
                      refine Eq.mpr (if_pos (by rfl)) ?_
                      go_simp
                      gi_wp2_with fail
                      refine ⟨trivial, ?_⟩
                      refine (CallsIn.inRound l2 (callsIn_wide.2 (thirds1_any a b x ⟨Pa, 0, none⟩ ⟨Qb, 0, none⟩ _ (cell_tr FD.below JP) (cell_tr FD.below JQ)))).mono ?_
                      rintro e V2 ⟨rfl, rfl⟩
                      rw [HC1.out]
                      exact hK _ _ ⟨rfl, Below.refl _ _⟩
                    · have e38 : a1.tmps[38]?.getD undef = (.bool true) := FD.dep 2 38 (by kernel_rfl) rfl
                      refine wpOpIn_step rfl (fun K hK => ?_)
                      refine Eq.mpr (if_pos (by rfl)) ?_
                      go_simp
                      exact hK _ _ ⟨rfl, Below.refl _ _⟩
                    · have e8 : a1.tmps[8]?.getD undef = (.pointer (some ⟨B8, 0, none⟩)) := (FD.kept 8 (by kernel_rfl)).trans rfl
                      have e39 : a1.tmps[39]?.getD undef = (.bool true) := FD.dep 3 39 (by kernel_rfl) rfl
                      refine wpOpIn_step rfl (fun K hK => ?_)
                      refine Eq.mpr (if_pos (wanted_of rfl rfl e39)) ?_
                      have hc1 := cell_tr FD.below J8
                      go_simp
                      exact hK _ _ ⟨rfl, Below.refl _ _⟩
                    · have e11 : a1.tmps[11]?.getD undef = (.int .i64 y) := (FD.kept 11 (by kernel_rfl)).trans rfl
                      have e39 : a1.tmps[39]?.getD undef = (.bool true) := FD.dep 3 39 (by kernel_rfl) rfl
                      refine wpOpIn_step rfl (fun K hK => ?_)
                      refine Eq.mpr (if_pos (wanted_of rfl rfl e39)) ?_
                      go_simp
                      exact hK _ _ ⟨rfl, Below.refl _ _⟩
                    · have e40 : a1.tmps[40]?.getD undef = (.func (.func 94) #[] #[.pointer (some ⟨Pa, 0, none⟩), .pointer (some ⟨Qb, 0, none⟩)]) := FD.dep 4 40 (by kernel_rfl) rfl
                      have e41 : a1.tmps[41]?.getD undef = (.int .i64 y) := FD.dep 5 41 (by kernel_rfl) rfl
                      have e39 : a1.tmps[39]?.getD undef = (.bool true) := FD.dep 3 39 (by kernel_rfl) rfl
                      refine wpOpIn_step rfl (fun K hK => ?_)
                      refine Eq.mpr (if_pos (wanted_of rfl rfl e39)) ?_
                      go_simp
                      gi_wp2_with fail
                      refine ⟨trivial, ?_⟩
                      refine (CallsIn.inRound l2 (callsIn_wide.2 (thirds1_any a b y ⟨Pa, 0, none⟩ ⟨Qb, 0, none⟩ _ (cell_tr FD.below JP) (cell_tr FD.below JQ)))).mono ?_
                      rintro e V2 ⟨rfl, rfl⟩
                      rw [HC2.out]
                      exact hK _ _ ⟨rfl, Below.refl _ _⟩
                    · have e39 : a1.tmps[39]?.getD undef = (.bool true) := FD.dep 3 39 (by kernel_rfl) rfl
                      have e42 : a1.tmps[42]?.getD undef = (.bool true) := FD.dep 6 42 (by kernel_rfl) rfl
                      refine wpOpIn_step rfl (fun K hK => ?_)
                      refine Eq.mpr (if_pos (by rfl)) ?_
                      go_simp
                      exact hK _ _ ⟨rfl, Below.refl _ _⟩
                    · have e43 : a1.tmps[43]?.getD undef = (.bool true) := FD.dep 7 43 (by kernel_rfl) rfl
                      refine wpOpIn_step rfl (fun K hK => ?_)
                      refine Eq.mpr (if_pos (by rfl)) ?_
                      go_simp
                      exact hK _ _ ⟨rfl, Below.refl _ _⟩
                    · have e9 : a1.tmps[9]?.getD undef = (.pointer (some ⟨B9, 0, none⟩)) := (FD.kept 9 (by kernel_rfl)).trans rfl
                      have e44 : a1.tmps[44]?.getD undef = (.bool true) := FD.dep 8 44 (by kernel_rfl) rfl
                      refine wpOpIn_step rfl (fun K hK => ?_)
                      refine Eq.mpr (if_pos (wanted_of rfl rfl e44)) ?_
                      have hc1 := cell_tr FD.below J9
                      go_simp
                      exact hK _ _ ⟨rfl, Below.refl _ _⟩
                    · have e11 : a1.tmps[11]?.getD undef = (.int .i64 y) := (FD.kept 11 (by kernel_rfl)).trans rfl
                      have e44 : a1.tmps[44]?.getD undef = (.bool true) := FD.dep 8 44 (by kernel_rfl) rfl
                      refine wpOpIn_step rfl (fun K hK => ?_)
                      refine Eq.mpr (if_pos (wanted_of rfl rfl e44)) ?_
                      go_simp
                      exact hK _ _ ⟨rfl, Below.refl _ _⟩
                    · have e45 : a1.tmps[45]?.getD undef = (.int .i64 x) := FD.dep 9 45 (by kernel_rfl) rfl
                      have e46 : a1.tmps[46]?.getD undef = (.int .i64 y) := FD.dep 10 46 (by kernel_rfl) rfl
                      have e44 : a1.tmps[44]?.getD undef = (.bool true) := FD.dep 8 44 (by kernel_rfl) rfl
                      refine wpOpIn_step rfl (fun K hK => ?_)
                      refine Eq.mpr (if_pos (wanted_of rfl rfl e44)) ?_
                      go_simp
                      exact hK _ _ ⟨rfl, Below.refl _ _⟩
                    · have e44 : a1.tmps[44]?.getD undef = (.bool true) := FD.dep 8 44 (by kernel_rfl) rfl
                      have e47 : a1.tmps[47]?.getD undef = (.bool true) := FD.dep 11 47 (by kernel_rfl) rfl
                      refine wpOpIn_step rfl (fun K hK => ?_)
                      refine Eq.mpr (if_pos (by rfl)) ?_
                      go_simp
                      exact hK _ _ ⟨rfl, Below.refl _ _⟩
                    · have e48 : a1.tmps[48]?.getD undef = (.bool true) := FD.dep 12 48 (by kernel_rfl) rfl
                      refine wpOpIn_step rfl (fun K hK => ?_)
                      refine Eq.mpr (if_pos (by rfl)) ?_
                      go_simp
                      exact hK _ _ ⟨rfl, Below.refl _ _⟩
                    · have e10 : a1.tmps[10]?.getD undef = (.pointer (some ⟨B10, 0, none⟩)) := (FD.kept 10 (by kernel_rfl)).trans rfl
                      have e49 : a1.tmps[49]?.getD undef = (.bool true) := FD.dep 13 49 (by kernel_rfl) rfl
                      refine wpOpIn_step rfl (fun K hK => ?_)
                      refine Eq.mpr (if_pos (wanted_of rfl rfl e49)) ?_
                      have hc1 := cell_tr FD.below J10
                      go_simp
                      exact hK _ _ ⟨rfl, Below.refl _ _⟩
                    · have e3 : a1.tmps[3]?.getD undef = (.pointer (some ⟨w.heap.size, 0, none⟩)) := (FD.kept 3 (by kernel_rfl)).trans rfl
                      have e49 : a1.tmps[49]?.getD undef = (.bool true) := FD.dep 13 49 (by kernel_rfl) rfl
                      refine wpOpIn_step rfl (fun K hK => ?_)
                      refine Eq.mpr (if_pos (wanted_of rfl rfl e49)) ?_
                      exact operIn_load_row 84 (.tmp 3) rfl w.heap.size (eval_tmp e3) 84 cs (0, 0) _ (J3.below FD.below J3.lt) Tryd.underlying84 rfl (circ_info hC) (hK _ _ ⟨rfl, Below.refl _ _⟩)
                    · have e11 : a1.tmps[11]?.getD undef = (.int .i64 y) := (FD.kept 11 (by kernel_rfl)).trans rfl
                      have e49 : a1.tmps[49]?.getD undef = (.bool true) := FD.dep 13 49 (by kernel_rfl) rfl
                      refine wpOpIn_step rfl (fun K hK => ?_)
                      refine Eq.mpr (if_pos (wanted_of rfl rfl e49)) ?_
                      go_simp
                      exact hK _ _ ⟨rfl, Below.refl _ _⟩
                    · have e51 : a1.tmps[51]?.getD undef = (.agg cs) := FD.dep 15 51 (by kernel_rfl) rfl
                      have e52 : a1.tmps[52]?.getD undef = (.int .i64 y) := FD.dep 16 52 (by kernel_rfl) rfl
                      have e49 : a1.tmps[49]?.getD undef = (.bool true) := FD.dep 13 49 (by kernel_rfl) rfl
                      refine wpOpIn_step rfl (fun K hK => ?_)
                      refine Eq.mpr (if_pos (wanted_of rfl rfl e49)) ?_
                      go_simp
                      gi_wp2_with fail
                      refine ⟨trivial, ?_⟩
                      refine (CallsIn.inRound l2 (callsIn_wide.2 (figureC_any cs s m hC y hyh _))).mono ?_
                      rintro e V2 ⟨rfl, hb2⟩
                      rw [HFY.out]
                      exact hK _ _ ⟨rfl, hb2⟩
                    · have e50 : a1.tmps[50]?.getD undef = (.int .i64 fx) := FD.dep 14 50 (by kernel_rfl) rfl
                      have e53 : a1.tmps[53]?.getD undef = (.int .i64 fy) := FD.dep 17 53 (by kernel_rfl) rfl
                      have e49 : a1.tmps[49]?.getD undef = (.bool true) := FD.dep 13 49 (by kernel_rfl) rfl
                      refine wpOpIn_step rfl (fun K hK => ?_)
                      refine Eq.mpr (if_pos (wanted_of rfl rfl e49)) ?_
                      go_simp
                      exact hK _ _ ⟨rfl, Below.refl _ _⟩
                    · have e49 : a1.tmps[49]?.getD undef = (.bool true) := FD.dep 13 49 (by kernel_rfl) rfl
                      have e54 : a1.tmps[54]?.getD undef = (.bool (fx == fy)) := FD.dep 18 54 (by kernel_rfl) rfl
                      refine wpOpIn_step rfl (fun K hK => ?_)
                      refine Eq.mpr (if_pos (by rfl)) ?_
                      go_simp
                      exact hK _ _ ⟨rfl, Below.refl _ _⟩
                  case fin2 =>
                    intro V hbv
                    simp only [finV, List.set_cons_succ, List.set_cons_zero]
                    have HJ3 := HJ2.below hbv (Nat.le_refl _)
                    have b4 := boxed_below h42 hbv
                    have b9 := boxed_below h92 hbv
                    have b10 := boxed_below h102 hbv
                    have bc := boxed_below hc2 hbv
                    have bc2 := boxed_below hcc2 hbv
                    have hkf := hKF.trans (keepsFrom_below (B := W1.heap.size) hbv)
                    have hsv := Nat.le_trans hSZ hbv.size
                    cases hq : (fx == fy)
                    · have HN := Lib.hid (show tr2 s a b x (pre ++ [y]) = tr2 s a b x pre from tr2_no (by rw [HMU.out]; rw [hxy, hq]; rfl))
                      gi_wp2
                      exact ⟨keepsFrom_below hbv, KpN.below hbv hbcl2, by rw [HM2.out, HN.out, HT2.out]; exact HJ3, b4, b9, b10, bc, bc2, hsv, hkf⟩
                    · have HN := Lib.hid (show tr2 s a b x (pre ++ [y]) = tr2 s a b x pre ++ [(4, x, y)] from tr2_yes (by rw [HMU.out]; rw [hxy, hq]; rfl))
                      clear HJ2 h42 h92 h102 hc2 hcc2 J3 JP JQ J8 J9 J10 hKF hSZ
                      obtain ⟨v, hv, hrw⟩ := HJ3.cj.tb
                      have J9 := b9.cell
                      have hcv := hv.cell
                      have hcf := hv.frozen
                      have hsz3 := HJ3.cj.bl.size
                      gi_wp2_with (gi_at_builtin; refine wpListIn_append_own _ rfl _ _ 40 rfl w.heap.size 66 i0 (.agg #[.int .i64 0, .int .i64 0, .int .i64 0]) 3 24 Tryd.underlying40 hi hz0 hz1 hz2 rfl (by decide) _ _ _ rfl (hrw.alloc _) ⟨V.heap.size, 0, none⟩ 1 1 [.int .i64 4, .int .i64 x, .int .i64 y] rfl rfl (cell_three_new _ _ _ _ _) (by simp [Value.oneCell']) (by unfold maxLen; omega) (by omega) (by simp; omega) ?_; intro v' w1 hown' hgrow _; obtain ⟨g', cap', rfl⟩ := ownsRow_succ hown'; obtain ⟨hv1, hv3, hr3, hk3, hb3⟩ := hv.appended (by decide) hrw (by omega) (by omega) hown' hgrow; have hc1 := hv1.cell; have hf1 := hv1.frozen)
                      refine ⟨(keepsFrom_below hbv).trans (hk3.from _), ⟨Nat.le_trans hbv.size hb3.size, (far_block bc2.lt (bc2.not_row (by decide) hrw) (by omega) hgrow _).trans (hbv.block _ hbcl2)⟩, ?_, (far_block b4.lt (b4.not_row (by decide) hrw) (by omega) hgrow _).trans b4, (far_block b9.lt (b9.not_row (by decide) hrw) (by omega) hgrow _).trans b9, (far_block b10.lt (b10.not_row (by decide) hrw) (by omega) hgrow _).trans b10, (far_block bc.lt (bc.not_row (by decide) hrw) (by omega) hgrow _).trans bc, (far_block bc2.lt (bc2.not_row (by decide) hrw) (by omega) hgrow _).trans bc2, Nat.le_trans hsv hb3.size, hkf.trans (hk3.from _)⟩
                      rw [HM2.out, HN.out, ← List.append_assoc, HT2.out]
                      exact Mj.appended HJ3 hv hrw hgrow hv1 hv3 hr3 hb3 (by omega) (by omega) (by omega) (by omega) (by omega)
          case done2 =>
            rintro ys W' rfl ⟨HJ2, h42, h92, h102, hc2, hcc2, hSZ, hKF⟩
            rw [nbI_all] at HJ2
            gi_wp2
            exact ⟨hKF, ⟨hSZ, (hc2 : W'.heap[Bc]? = _).trans hBc0.symm⟩, by rw [HTS.out, HT1.out]; exact HJ2, h42, hc2⟩
          case stop2 =>
            rintro c pre' W' _ h
            exact h.elim
        · have HT1 := Lib.hid (show tr1 s a b x = [] by unfold tr1; rw [HFX.out, HFA.out, HFB.out, he1, he2]; rfl)
          gi_wp2
          exact ⟨hkf5.trans (keepsFrom_below hbv), ⟨Nat.le_trans hsz5 hbv.size, ((boxed_below hc5 hbv : V.heap[Bc]? = _)).trans hBc0.symm⟩, by rw [HTS.out, HT1.out, List.append_nil]; exact HJ5.below hbv (Nat.le_refl _), boxed_below h45 hbv, boxed_below hc5 hbv⟩
    · 
      refine wpIn_region_vals follows_mixedB [some 21, some 22, some 23, some 24, some 25, some 26, some 27, some 28, some 29, some 30, some 31, some 32] (by kernel_rfl) [(.int .i64 fx), (.agg cs), (.int .i64 a), (.int .i64 fa), (.bool true), (.bool true), undef, undef, undef, undef, undef, (.bool true)] rfl ?step ?fin
      case step =>
        intro i hi a1 V FD
        have hi : i < 12 := hi
        have e : i = 0 ∨ i = 1 ∨ i = 2 ∨ i = 3 ∨ i = 4 ∨ i = 5 ∨ i = 6 ∨ i = 7 ∨ i = 8 ∨ i = 9 ∨ i = 10 ∨ i = 11 := by omega
        clear hi
        rcases e with rfl | rfl | rfl | rfl | rfl | rfl | rfl | rfl | rfl | rfl | rfl | rfl
        · have e10 : a1.tmps[10]?.getD undef = (.pointer (some ⟨B10, 0, none⟩)) := (FD.kept 10 (by kernel_rfl)).trans rfl
          refine wpOpIn_step rfl (fun K hK => ?_)
          refine Eq.mpr (if_pos (by rfl)) ?_
          have hc1 := cell_tr FD.below J10
          go_simp
          exact hK _ _ ⟨rfl, Below.refl _ _⟩
        · have e3 : a1.tmps[3]?.getD undef = (.pointer (some ⟨w.heap.size, 0, none⟩)) := (FD.kept 3 (by kernel_rfl)).trans rfl
          refine wpOpIn_step rfl (fun K hK => ?_)
          refine Eq.mpr (if_pos (by rfl)) ?_
          exact operIn_load_row 84 (.tmp 3) rfl w.heap.size (eval_tmp e3) 84 cs (0, 0) _ (J3.below FD.below J3.lt) Tryd.underlying84 rfl (circ_info hC) (hK _ _ ⟨rfl, Below.refl _ _⟩)
        · have e4 : a1.tmps[4]?.getD undef = (.pointer (some ⟨B4, 0, none⟩)) := (FD.kept 4 (by kernel_rfl)).trans rfl
          refine wpOpIn_step rfl (fun K hK => ?_)
          refine Eq.mpr (if_pos (by rfl)) ?_
          have hc1 := cell_tr FD.below J4
          go_simp
          exact hK _ _ ⟨rfl, Below.refl _ _⟩
        · have e22 : a1.tmps[22]?.getD undef = (.agg cs) := FD.dep 1 22 (by kernel_rfl) rfl
          have e23 : a1.tmps[23]?.getD undef = (.int .i64 a) := FD.dep 2 23 (by kernel_rfl) rfl
          refine wpOpIn_step rfl (fun K hK => ?_)
          refine Eq.mpr (if_pos (by rfl)) ?_
          go_simp
          gi_wp2_with fail
          refine ⟨trivial, ?_⟩
          refine (CallsIn.inRound l (callsIn_wide.2 (figureC_any cs s m hC a ha _))).mono ?_
          rintro e V2 ⟨rfl, hb2⟩
          rw [HFA.out]
          exact hK _ _ ⟨rfl, hb2⟩
        · have e21 : a1.tmps[21]?.getD undef = (.int .i64 fx) := FD.dep 0 21 (by kernel_rfl) rfl
          have e24 : a1.tmps[24]?.getD undef = (.int .i64 fa) := FD.dep 3 24 (by kernel_rfl) rfl
          refine wpOpIn_step rfl (fun K hK => ?_)
          refine Eq.mpr (if_pos (by rfl)) ?_
          go_simp
          exact hK _ _ ⟨rfl, Below.refl _ _⟩
        · have e25 : a1.tmps[25]?.getD undef = (.bool true) := FD.dep 4 25 (by kernel_rfl) rfl
          refine wpOpIn_step rfl (fun K hK => ?_)
          refine Eq.mpr (if_pos (by rfl)) ?_
          go_simp
          exact hK _ _ ⟨rfl, Below.refl _ _⟩
        · have e10 : a1.tmps[10]?.getD undef = (.pointer (some ⟨B10, 0, none⟩)) := (FD.kept 10 (by kernel_rfl)).trans rfl
          have e26 : a1.tmps[26]?.getD undef = (.bool true) := FD.dep 5 26 (by kernel_rfl) rfl
          refine wpOpIn_step rfl (fun K hK => ?_)
          refine Eq.mpr (if_neg (unwanted_of rfl rfl e26 (by decide))) ?_
          exact ⟨fun _ _ => trivial, hK _ _ ⟨rfl, Below.refl _ _⟩⟩
        · have e3 : a1.tmps[3]?.getD undef = (.pointer (some ⟨w.heap.size, 0, none⟩)) := (FD.kept 3 (by kernel_rfl)).trans rfl
          have e26 : a1.tmps[26]?.getD undef = (.bool true) := FD.dep 5 26 (by kernel_rfl) rfl
          refine wpOpIn_step rfl (fun K hK => ?_)
          refine Eq.mpr (if_neg (unwanted_of rfl rfl e26 (by decide))) ?_
          exact ⟨fun _ _ => trivial, hK _ _ ⟨rfl, Below.refl _ _⟩⟩
        · have e5 : a1.tmps[5]?.getD undef = (.pointer (some ⟨B5, 0, none⟩)) := (FD.kept 5 (by kernel_rfl)).trans rfl
          have e26 : a1.tmps[26]?.getD undef = (.bool true) := FD.dep 5 26 (by kernel_rfl) rfl
          refine wpOpIn_step rfl (fun K hK => ?_)
          refine Eq.mpr (if_neg (unwanted_of rfl rfl e26 (by decide))) ?_
          exact ⟨fun _ _ => trivial, hK _ _ ⟨rfl, Below.refl _ _⟩⟩
        · have e28 : a1.tmps[28]?.getD undef = undef := FD.dep 7 28 (by kernel_rfl) rfl
          have e29 : a1.tmps[29]?.getD undef = undef := FD.dep 8 29 (by kernel_rfl) rfl
          have e26 : a1.tmps[26]?.getD undef = (.bool true) := FD.dep 5 26 (by kernel_rfl) rfl
          refine wpOpIn_step rfl (fun K hK => ?_)
          refine Eq.mpr (if_neg (unwanted_of rfl rfl e26 (by decide))) ?_
          exact ⟨fun _ _ => trivial, hK _ _ ⟨rfl, Below.refl _ _⟩⟩
        · have e27 : a1.tmps[27]?.getD undef = undef := FD.dep 6 27 (by kernel_rfl) rfl
          have e30 : a1.tmps[30]?.getD undef = undef := FD.dep 9 30 (by kernel_rfl) rfl
          have e26 : a1.tmps[26]?.getD undef = (.bool true) := FD.dep 5 26 (by kernel_rfl) rfl
          refine wpOpIn_step rfl (fun K hK => ?_)
          refine Eq.mpr (if_neg (unwanted_of rfl rfl e26 (by decide))) ?_
          exact ⟨fun _ _ => trivial, hK _ _ ⟨rfl, Below.refl _ _⟩⟩
        · have e26 : a1.tmps[26]?.getD undef = (.bool true) := FD.dep 5 26 (by kernel_rfl) rfl
          have e31 : a1.tmps[31]?.getD undef = undef := FD.dep 10 31 (by kernel_rfl) rfl
          refine wpOpIn_step rfl (fun K hK => ?_)
          refine Eq.mpr (if_pos (by rfl)) ?_
          go_simp
          exact hK _ _ ⟨rfl, Below.refl _ _⟩
      case fin =>
        intro V hbv
        simp only [finV, List.set_cons_succ, List.set_cons_zero]
        have HT1 := Lib.hid (show tr1 s a b x = [] by unfold tr1; rw [HFX.out, HFA.out, he1]; rfl)
        gi_wp2
        exact ⟨hkf5.trans (keepsFrom_below hbv), ⟨Nat.le_trans hsz5 hbv.size, ((boxed_below hc5 hbv : V.heap[Bc]? = _)).trans hBc0.symm⟩, by rw [HTS.out, HT1.out, List.append_nil]; exact HJ5.below hbv (Nat.le_refl _), boxed_below h45 hbv, boxed_below hc5 hbv⟩
  case done =>
    rintro D ys W hD rfl ⟨HJ, h4, hc⟩ hK
    rw [nbI_all] at HJ
    obtain ⟨v, hv, hrw⟩ := HJ.cj.tb
    have hcv := hv.cell
    have hbl := HJ.cj.bl
    have hn1 := hB1.size
    clear HJ h4 hc hv M0 p4 pc
    gi_wp2
    refine ⟨by simp, .inl ⟨_, _, rfl, run_takeDeferred hK, ?_⟩⟩
    exact ⟨_, results_tmp rfl _ _ _, v, rfl, ownsRow_putObj hrw _ hK rfl, hbl.grown (grownBy_putObj' W D _) hbl.size (fun k e => by cases e; omega)⟩
  case stop =>
    rintro D c pre W _ _ h _
    exact h.elim
end Go.Proofs.YtdnccdobnhbpeaaDoor
