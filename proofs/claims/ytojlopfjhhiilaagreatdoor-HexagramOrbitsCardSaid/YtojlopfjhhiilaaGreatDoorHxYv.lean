/-
  Package hexagram: what operations reach, for maps: how it begins.
-/
import Derived.Test.YtojlopfjhhiilaaGreatDoorHxYp
import Derived.Test.YtojlopfjhhiilaaGreatDoorHxS
import Derived.Test.YtojlopfjhhiilaaGreatDoorHxYu
import Derived.Test.YtojlopfjhhiilaaGreatDoorHxYx
import Derived.Deep.MidRow
namespace Go.Proofs.YtojlopfjhhiilaaGreatDoor
open Go Go.RowKit Go.Shelf Go.Maps
set_option linter.unusedVariables false
attribute [local go_sem] Oper.semAt_some

theorem wpListIn_buildSliceY {F : Fence} {nF : Nat} {P : Program} {ops : Array Oper} {rest : List Oper} {o : Oper} {a : Act} {w : World} {Q : Exit → Act → World → Prop} (hgd : o.guard = none) (t e : TypeId) (len : Nat) (parts : Array (Nat × Operand)) (ho : o.op = .buildSlice t len parts)
    (cells : Array Value) (ie : TypeInfo) (z : Value)
    (hu : P.underlying t = some (.slice e)) (hie : P.info? e = some ie) (hz : ie.zero = some z) (hsmall : ¬ len * ie.size > 2 ^ 24) (hpos : ¬ len * ie.size = 0)
    (hf : Instr.fill (fun i => some (i * ie.size, ie.size)) ((Array.range (len * ie.size)).map (z.cells[· % z.cells.size]!)) (parts.map fun (i, x) => (i, a.eval x)).toList = some cells)
    (h : wpListIn F nF P ops Q rest (a.put o.dst (.slice (some ⟨w.heap.size, 0, none⟩) len len)) (w.alloc (.cells cells e))) : wpListIn F nF P ops Q (o :: rest) a w :=
  wpListIn_plain hgd fun K' hK' => operIn_buildSlice t e len parts ho cells ie z hu hie hz hsmall hpos hf (hK' _ _ h)
/-- A list of maps in a row of the call's own: each lies there. -/
theorem wpListIn_load_rowY {F : Fence} {nF : Nat} {P : Program} {ops : Array Oper} {rest : List Oper} {o : Oper} {a : Act} {w : World} {Q : Exit → Act → World → Prop} (hgd : o.guard = none) (ty : TypeId) (x : Operand) (ho : o.op = .load ty x)
    (g : Nat) (hx : a.eval x = .pointer (some ⟨g, 0, none⟩)) (t : TypeId) (cs : Array Value) (fr : Nat × Nat) (d : TypeDesc) (hg : w.heap[g]? = some (.cells cs t fr))
    (hu : P.underlying ty = some d) (hd : (match d with | .struct _ | .array _ _ => true | _ => false) = true) (hi : (P.info? ty).map (·.size) = some cs.size)
    (h : wpListIn F nF P ops Q rest (a.put o.dst (.agg cs)) w) : wpListIn F nF P ops Q (o :: rest) a w :=
  wpListIn_plain hgd fun K' hK' => operIn_load_row ty x ho g hx t cs fr d hg hu hd hi (hK' _ _ h)
theorem flatM_at {fs : List (List Int)} (hfs : Mapps fs) {k j : Nat} (hj : j < 64) : (flatM fs)[64 * k + j]? = (fs[k]?).bind fun m => (m.map (Value.int .i64))[j]? := by
  have e : flatM fs = (fs.map fun m => Value.agg (arr m)).flatMap fun v => v.cells.toList := by
    unfold flatM
    rw [List.flatMap_map]
    rfl
  rw [e, Go.Great.flat_get (s := 64) (by decide) _ (by
    intro v hv
    obtain ⟨m, hm, rfl⟩ := List.mem_map.1 hv
    show (arr m).size = 64
    rw [arr_size, (hfs m hm).1])]
  rw [show (64 * k + j) / 64 = k by omega, show (64 * k + j) % 64 = j by omega, List.getElem?_map]
  cases fs[k]? with
  | none => rfl
  | some m => simp [Value.cells, arr]
theorem gotM {W : World} {B : Nat} {v : Value} {fs : List (List Int)} (hfs : Mapps fs) (h : W.ownsRow B 47 64 v fs.length (flatM fs)) : ∃ p c, v = .slice p fs.length c ∧ ∀ k, k < fs.length → ∃ g, p = some ⟨g, 0, none⟩ ∧ W.rangeAt g (64 * k) ((nthM fs k).map (Value.int .i64)) := by
  have hc := fun g hg => h.cells (g := g) hg
  rcases h.2 with ⟨rfl, h0⟩ | ⟨g, cap, cur, rfl, _, _, _⟩
  · exact ⟨none, 0, by rw [h0], fun k hk => by omega⟩
  · refine ⟨_, cap, rfl, fun k hk => ⟨g, rfl, fun j u hj => ?_⟩⟩
    have hm := hfs _ (nthM_mem hk)
    have hj64 : j < 64 := by
      have := (List.getElem?_eq_some_iff.1 hj).1
      simp [hm.1] at this
      exact this
    have := hc g rfl (64 * k + j) u (by rw [flatM_at hfs hj64, List.getElem?_eq_getElem hk, ← nthM_eq hk]; exact hj)
    have e : (⟨g, 0, none⟩ : Addr).add (64 * k + j) = ⟨g, 0 + (64 * k + j), none⟩ := by unfold Addr.add; split <;> simp_all
    rw [e, Nat.zero_add] at this
    exact this
theorem news_arr (w : World) (Y : List Int) : ∀ j u, (Y.map (Value.int .i64))[j]? = some u → (w.alloc (.cells (arr Y) 47)).cell? ((⟨w.heap.size, 0, none⟩ : Addr).add j) = some u := fun j u hj => by
  rw [Go.WideShapes.add_plain, Nat.zero_add, (Blk.new w 47 (arr Y)).cell j]
  simpa [arr] using hj
theorem one_arr (Y : List Int) : ∀ u ∈ Y.map (Value.int .i64), u.oneCell' = true := fun u hu => by
  obtain ⟨x, _, rfl⟩ := List.mem_map.1 hu
  rfl
theorem blk_grown {V V' : World} {g b n : Nat} {t : TypeId} {cs : Array Value} {D : DataW Value} (h : Blk V g t cs) (hg : V.grownBy V' (some b)) (hm : V.ownsMap Tryz.prog 47 (plainElem (H := Value) Tryz.prog 4) b n D) : Blk V' g t cs := by
  obtain ⟨es, clock, hb⟩ := own_heap hm
  have h0 : V.heap[g]? = some (.cells cs t (0, 0)) := h
  exact (hg.block g h.lt (fun e => by
    cases e
    rw [h0] at hb
    cases hb)).trans h0
theorem stepM_len2 (x : List Int) (fs : List (List Int)) (os : List Nat) : (stepM x fs os).length ≤ fs.length + os.length := by
  unfold stepM
  induction os generalizing fs with
  | nil => exact Nat.le_refl _
  | cons o r ih =>
    have h1 := ih (addM fs (compL x (opL o)))
    have h2 : (addM fs (compL x (opL o))).length ≤ fs.length + 1 := by unfold addM; split <;> simp
    simp only [List.foldl_cons, List.length_cons] at h1 ⊢
    omega
theorem reachM_meet {set : Int} {k : Nat} (h : (reachM set k).length ≤ k) (h52 : (reachM set 52).length ≤ 52) (hk : (reachM set k).length ≤ 52) : reachM set k = reachM set 52 := by
  obtain ⟨n, hn⟩ : ∃ n : Nat, n = 52 := ⟨_, rfl⟩
  rw [← hn] at h52 ⊢
  by_cases hkn : k ≤ n
  · obtain ⟨d, rfl⟩ : ∃ d, n = k + d := ⟨n - k, by omega⟩
    exact (reachM_end h d).symm
  · obtain ⟨d, rfl⟩ : ∃ d, k = n + d := ⟨k - n, by omega⟩
    exact reachM_end h52 d

set_option maxRecDepth 100000 in
set_option maxHeartbeats 4000000 in
theorem reachedM_in (set : Int) (h0s : 0 ≤ set) (h15 : set ≤ 15) (w : World) (hs : Src w) (M : List Int) (hM : MapL M) (HID : Hid (M = idL)) (HIE : Hid (∃ ie, Tryz.prog.info? 47 = some ie ∧ ie.zero = some (.agg (arr zero64)) ∧ ie.size = 64 ∧ ie.bytes = 512)) (HIM : Hid ((Tryz.prog.info? 47).map (·.size) = some (arr M).size)) :
    CallsIn Fence.wide 6 Tryz.prog 20 #[.agg (arr M), .int .i64 set, .func (.func 21) #[] #[]] w fun e W' => ∃ v, e = .returned v ∧ W'.ownsRow w.heap.size 47 64 v (reachM set 52).length (flatM (reachM set 52)) ∧ Below w.heap.size w W' := by
  have hmix : Tryz.prog.follows .mixedOrders = true := by kernel_rfl
  have HR1 := Lib.hid (show reachM set 0 = [M] by rw [HID.out]; rfl)
  have HL52 := Lib.hid (fun k => reachM_52 h0s h15 k)
  have HMP := Lib.hid (fun k => reachM_maps set k)
  refine callsIn_of_wp_marks Tryz.func20 rfl trivial ?_ rfl
  simp only [Tryz.ntmps20, List.size_toArray, List.length_cons, List.length_nil, Nat.reduceAdd, Nat.reduceSub, Array.replicate_succ, Array.replicate_zero, List.push_toArray, List.append_toArray, List.nil_append, List.cons_append]
  gi_wp2_with fail
  have h0 : Begun w M (.func (.func 21) #[] #[]) 0 0 0 0 0 ((w.alloc (.cells (arr M) 47)).alloc (.cells #[.func (.func 21) #[] #[]] 51)).drew := by
    refine ⟨(Blk.new w _ _).alloc _, ?_, ((below1 w _).alloc (by simp) _).drew, ?_, ?_, ?_, ?_⟩
    · have := Boxed.new (w.alloc (.cells (arr M) 47)) 51 (.func (.func 21) #[] #[])
      rw [World.size_alloc] at this
      exact this
    all_goals exact fun e => by simp at e
  have H0 := Lib.hid h0
  clear h0
  generalize (w.alloc (.cells (arr M) 47)).alloc (.cells #[.func (.func 21) #[] #[]] 51) = W0 at H0 ⊢
  refine wpIn_cut0 (fun a' V => ∃ g1 gm g7 g8 : Nat, a' = { tmps := #[.agg (arr M), .int .i64 set, .func (.func 21) #[] #[], .pointer (some ⟨w.heap.size, 0, none⟩), undef, .pointer (some ⟨w.heap.size + 1, 0, none⟩), .slice none 0 0, .pointer (some ⟨g7, 0, none⟩), .pointer (some ⟨g8, 0, none⟩), undef, undef, undef, .agg (arr M), .slice (some ⟨g1, 0, none⟩) 1 1, .map (some gm), .agg (arr M), .map (some gm), undef, undef, undef, undef, undef, undef, undef, undef, undef, undef, undef, undef, undef, undef, undef, undef, undef, undef, undef, undef, undef, undef, undef, undef, undef, undef], defers := [] } ∧ Hid (StM w (.func (.func 21) #[] #[]) (w.heap.size + 1) g7 g8 gm [] [] [M] [M] V) ∧ Hid (w.heap.size ≤ gm ∧ w.heap.size ≤ g7 ∧ w.heap.size ≤ g8)) ?reg1 ?rest1
  case reg1 =>
   refine wpIn_region_inv (by kernel_rfl) depsB ?ok (fun b a V => ∃ g1 gm g7 g8 : Nat, Hid (Begun w M (.func (.func 21) #[] #[]) b g1 gm g7 g8 V) ∧ Hid (Dp b) ∧ a = actN M set (.func (.func 21) #[] #[]) w.heap.size b g1 gm g7 g8) ?start ?step ?fin
   case ok => exact ⟨by decide +kernel, by decide +kernel⟩
   case start => exact ⟨0, 0, 0, 0, H0, dp_zero, by simp [actN, actB]⟩
   case step =>
     rintro b a V ⟨g1, gm, g7, g8, HB, HD, rfl⟩ i hi hb hd
     have hi10 : i < 10 := hi
     have HD2 := Lib.hid (dp_set HD.out hi10 hd)
     obtain ⟨p4, p5, p81, p86, p97, p92⟩ := HD.out
     clear hi H0
     have e : i = 0 ∨ i = 1 ∨ i = 2 ∨ i = 3 ∨ i = 4 ∨ i = 5 ∨ i = 6 ∨ i = 7 ∨ i = 8 ∨ i = 9 := by omega
     rcases e with rfl | rfl | rfl | rfl | rfl | rfl | rfl | rfl | rfl | rfl
     · refine wpOpIn_step rfl (fun K hK => ?_)
       refine Eq.mpr (if_pos (by rfl)) ?_
       refine operIn_load_row 47 (.tmp 3) rfl w.heap.size rfl 47 (arr M) (0, 0) _ HB.out.fst Tryz.underlying47 rfl HIM.out (hK _ _ ?_)
       exact ⟨g1, gm, g7, g8, HB.out.same (by omega), HD2, actN_0 ..⟩
     · have d0 := hd 0 (by simp [depsB])
       have h8 := dp_no p81 hb
       refine wpOpIn_step rfl (fun K hK => ?_)
       refine Eq.mpr (if_pos (by rfl)) ?_
       obtain ⟨ie, hie, hz, hsz, -⟩ := HIE.out
       have ev : (actN M set (.func (.func 21) #[] #[]) w.heap.size b g1 gm g7 g8).eval (.tmp 12) = .agg (arr M) := by
         show (if b.testBit 0 = true then _ else _) = _
         rw [if_pos d0]
       refine operIn_buildSlice 49 47 1 #[(0, .tmp 12)] rfl (arr M) ie (.agg (arr zero64)) Tryz.underlying49 hie hz (by rw [hsz]; decide) (by rw [hsz]; decide) ?_ (hK _ _ ?_)
       · rw [hsz]
         simp only [List.map_toArray, List.map_cons, List.map_nil, ev]
         exact fill_row (arr M) _ 64 (by decide) (by simp [arr, hM.1]) (by simp)
       · exact ⟨_, gm, g7, g8, HB.out.s1 h8, HD2, actN_1 ..⟩
     · have h4 := dp_no p4 hb
       have h5 := dp_no p5 hb
       have h9 := dp_no p92 hb
       refine wpOpIn_step rfl (fun K hK => ?_)
       refine Eq.mpr (if_pos (by rfl)) ?_
       have hmm := @run_makeMap Tryz.prog
       generalize hact : actN M set (.func (.func 21) #[] #[]) w.heap.size b g1 gm g7 g8 = act
       go_simp
       refine hK _ _ ?_
       rw [← hact]
       exact ⟨g1, _, g7, g8, HB.out.s2 h4 h9, HD2, actN_2 _ _ _ _ _ _ _ _ _ _ h5⟩
     · refine wpOpIn_step rfl (fun K hK => ?_)
       refine Eq.mpr (if_pos (by rfl)) ?_
       refine operIn_load_row 47 (.tmp 3) rfl w.heap.size rfl 47 (arr M) (0, 0) _ HB.out.fst Tryz.underlying47 rfl HIM.out (hK _ _ ?_)
       exact ⟨g1, gm, g7, g8, HB.out.same (by omega), HD2, actN_3 ..⟩
     · have d2 := hd 2 (by simp [depsB])
       have d3 := hd 3 (by simp [depsB])
       obtain ⟨lm, xm⟩ := HB.out.mp d2
       rw [hb] at xm
       have xm : V.ownsMap Tryz.prog 47 (plainElem (H := Value) Tryz.prog 4) gm 0 (.map []) := xm
       refine wpOpIn_step rfl (fun K hK => ?_)
       refine Eq.mpr (if_pos (by rfl)) ?_
       refine operIn_insert_own (.tmp 14) (.tmp 15) (.const (.bool true)) 75 rfl 47 4 keyM Tryz.underlying75 (plainElem (H := Value) Tryz.prog 4) gm 0 (.map []) (by show (if b.testBit 2 = true then _ else _) = _; rw [if_pos d2]) xm (by decide) (.agg (arr M)) (.bool true) (klM M) (by show (if b.testBit 3 = true then _ else _) = _; rw [if_pos d3]) rfl (keyM_mk hM) (.lit (.bool true)) [] (plainElem_bool Tryz.underlying4 true) ?_
       intro V' hown hg
       refine hK _ _ ?_
       exact ⟨g1, gm, g7, g8, HB.out.s4 d2 hown hg, HD2, (actN_none _ _ _ _ _ _ _ _ _ (by omega)).symm⟩
     · have d2 := hd 2 (by simp [depsB])
       refine wpOpIn_step rfl (fun K hK => ?_)
       refine Eq.mpr (if_pos (by rfl)) ?_
       have ev : (actN M set (.func (.func 21) #[] #[]) w.heap.size b g1 gm g7 g8).tmps[14]?.getD undef = .map (some gm) := by
         show (if b.testBit 2 = true then _ else _) = _
         rw [if_pos d2]
       generalize hact : actN M set (.func (.func 21) #[] #[]) w.heap.size b g1 gm g7 g8 = act at ev ⊢
       go_simp
       refine hK _ _ ?_
       rw [← hact]
       exact ⟨g1, gm, g7, g8, HB.out.same (by omega), HD2, actN_5 ..⟩
     · have h8 := dp_no p86 hb
       refine wpOpIn_step rfl (fun K hK => ?_)
       refine Eq.mpr (if_pos (by rfl)) ?_
       generalize hact : actN M set (.func (.func 21) #[] #[]) w.heap.size b g1 gm g7 g8 = act
       go_simp
       refine hK _ _ ?_
       rw [← hact]
       exact ⟨g1, gm, _, g8, HB.out.s6 h8, HD2, actN_6 ..⟩
     · have h9 := dp_no p97 hb
       refine wpOpIn_step rfl (fun K hK => ?_)
       refine Eq.mpr (if_pos (by rfl)) ?_
       generalize hact : actN M set (.func (.func 21) #[] #[]) w.heap.size b g1 gm g7 g8 = act
       go_simp
       refine hK _ _ ?_
       rw [← hact]
       exact ⟨g1, gm, g7, _, HB.out.s7 h9, HD2, actN_7 ..⟩
     · have d6 := hd 6 (by simp [depsB])
       have d1 := hd 1 (by simp [depsB])
       refine wpOpIn_step rfl (fun K hK => ?_)
       refine Eq.mpr (if_pos (by rfl)) ?_
       have ev7 : (actN M set (.func (.func 21) #[] #[]) w.heap.size b g1 gm g7 g8).tmps[7]?.getD undef = .pointer (some ⟨g7, 0, none⟩) := by
         show (if b.testBit 6 = true then _ else _) = _
         rw [if_pos d6]
       have ev13 : (actN M set (.func (.func 21) #[] #[]) w.heap.size b g1 gm g7 g8).tmps[13]?.getD undef = .slice (some ⟨g1, 0, none⟩) 1 1 := by
         show (if b.testBit 1 = true then _ else _) = _
         rw [if_pos d1]
       have hc := (HB.out.b7 d6).2.cell
       have hf := (HB.out.b7 d6).2.frozen
       generalize hact : actN M set (.func (.func 21) #[] #[]) w.heap.size b g1 gm g7 g8 = act at ev7 ev13 ⊢
       go_simp
       refine hK _ _ ?_
       rw [← hact]
       exact ⟨g1, gm, g7, g8, HB.out.s8 d6, HD2, (actN_none _ _ _ _ _ _ _ _ _ (by omega)).symm⟩
     · have d7 := hd 7 (by simp [depsB])
       have d5 := hd 5 (by simp [depsB])
       refine wpOpIn_step rfl (fun K hK => ?_)
       refine Eq.mpr (if_pos (by rfl)) ?_
       have ev8 : (actN M set (.func (.func 21) #[] #[]) w.heap.size b g1 gm g7 g8).tmps[8]?.getD undef = .pointer (some ⟨g8, 0, none⟩) := by
         show (if b.testBit 7 = true then _ else _) = _
         rw [if_pos d7]
       have ev16 : (actN M set (.func (.func 21) #[] #[]) w.heap.size b g1 gm g7 g8).tmps[16]?.getD undef = .map (some gm) := by
         show (if b.testBit 5 = true then _ else _) = _
         rw [if_pos d5]
       have hc := (HB.out.b8 d7).2.cell
       have hf := (HB.out.b8 d7).2.frozen
       generalize hact : actN M set (.func (.func 21) #[] #[]) w.heap.size b g1 gm g7 g8 = act at ev8 ev16 ⊢
       go_simp
       refine hK _ _ ?_
       rw [← hact]
       exact ⟨g1, gm, g7, g8, HB.out.s9 d7, HD2, (actN_none _ _ _ _ _ _ _ _ _ (by omega)).symm⟩
   case fin =>
    rintro a V ⟨g1, gm, g7, g8, HB, -, rfl⟩
    have HB : Begun w M (.func (.func 21) #[] #[]) 1023 g1 gm g7 g8 V := HB.out
    obtain ⟨r1, r2⟩ := HB.row (by decide)
    obtain ⟨m1, m2⟩ := HB.mp (by decide)
    obtain ⟨x1, x2⟩ := HB.b7 (by decide)
    obtain ⟨y1, y2⟩ := HB.b8 (by decide)
    refine ⟨g1, gm, g7, g8, rfl, ⟨HB.fn, ⟨_, x2, ?_, (fun p hp => by cases hp)⟩, y2, m2, (fun p hp => by cases hp), (fun D hD => by cases hD), HB.bl⟩, ⟨m1, x1, y1⟩⟩
    have hlen : (flatM [M]).length = 64 := by simp [flatM, hM.1]
    have r2h : V.heap[g1]? = some (.cells (arr M) 47 (0, 0)) := r2
    exact ⟨by simpa using hlen, .inr ⟨g1, 1, arr M, rfl, r1, r2h, Nat.le_refl 1, by decide, by simp [arr, hM.1], by simp only [arr, flatM, List.flatMap_cons, List.flatMap_nil, List.append_nil]; rw [List.take_of_length_le (by simp [hM.1])]⟩⟩
  case rest1 =>
    rintro _ V0 ⟨g1, gm, g7, g8, rfl, HS0, HGE⟩
    clear H0
    have st1 := HS0.out.box 0
    have ST1 := Lib.hid st1
    clear st1
    have hg := HGE.out
    gi_wp2_with fail
    refine wpIn_loop (fun a W => ∃ (k Bk : Nat) (ds : List Nat) (u17 u18 u19 u20 u21 u22 u23 u24 u41 : Value), a = { tmps := #[.agg (arr M), .int .i64 set, .func (.func 21) #[] #[], .pointer (some ⟨w.heap.size, 0, none⟩), undef, .pointer (some ⟨w.heap.size + 1, 0, none⟩), .slice none 0 0, .pointer (some ⟨g7, 0, none⟩), .pointer (some ⟨g8, 0, none⟩), .pointer (some ⟨Bk, 0, none⟩), undef, undef, .agg (arr M), .slice (some ⟨g1, 0, none⟩) 1 1, .map (some gm), .agg (arr M), .map (some gm), u17, u18, u19, u20, u21, u22, u23, u24, undef, undef, undef, undef, undef, undef, undef, undef, undef, undef, undef, undef, undef, undef, undef, undef, u41, undef], defers := ds.map fun D => { target := .collected D, args := #[] } } ∧ Hid (StM w (.func (.func 21) #[] #[]) (w.heap.size + 1) g7 g8 gm [(Bk, (k : Int))] ds (reachM set k) (reachM set k) W) ∧ ds.length = k ∧ ds.Nodup ∧ (∀ D ∈ ds, D < W.heap.size) ∧ k ≤ (reachM set k).length) (fun a _ => 53 - a.defers.length) ?start ?round
    case start => exact ⟨0, _, [], _, _, _, _, _, _, _, _, _, rfl, by rw [HR1.out]; exact ST1, rfl, List.nodup_nil, (fun D hD => by cases hD), by show 0 ≤ _; exact Nat.zero_le _⟩
    case round =>
      rintro a W ⟨k, Bk, ds, u17, u18, u19, u20, u21, u22, u23, u24, u41, rfl, HST, hdk, hnd, hds, hkl⟩
      have HX := Lib.hid (HMP.out k : Mapps (reachM set k))
      have hl64 := HL52.out k
      obtain ⟨fs, hfs⟩ : ∃ fs, reachM set k = fs := ⟨_, rfl⟩
      have HFS := Lib.hid hfs
      rw [hfs] at HST HX hl64 hkl
      clear hfs
      obtain ⟨v, hv, hrow, hne⟩ := HST.out.b7
      have hcv := hv.cell
      have hck : W.cell? ⟨Bk, 0, none⟩ = some (.int .i64 (k : Int)) := (HST.out.bi (Bk, (k : Int)) (by simp)).cell
      have hbl := HST.out.bl
      obtain ⟨p, c, rfl, hR⟩ := gotM HX.out hrow
      have HND := Lib.hid hnd
      have HDS := Lib.hid hds
      have HDK := Lib.hid hdk
      clear hnd hds hdk hv hne
      by_cases hlt : k < fs.length
      · gi_wp2_with fail
        refine ⟨trivial, ?_⟩
        refine (maps_any set _ _).mono ?_
        rintro e w' ⟨rfl, rfl⟩
        gi_wp2_with fail
        have hXm : nthM fs k ∈ fs := nthM_mem hlt
        obtain ⟨X, hXe⟩ : ∃ X, nthM fs k = X := ⟨_, rfl⟩
        have HXE := Lib.hid hXe
        rw [hXe] at hXm
        have HXX := Lib.hid (HX.out X hXm)
        clear hXe hXm
        have st2 := HST.out.box set
        obtain ⟨W2, hW2⟩ : ∃ W2, W.alloc (.cells #[.int .i64 set] 3) = W2 := ⟨_, rfl⟩
        have hsz2 : W2.heap.size = W.heap.size + 1 := by rw [← hW2]; simp
        have hBs : Boxed W2 W.heap.size 3 (.int .i64 set) := by rw [← hW2]; exact Boxed.new W _ _
        have hB2 : Below w.heap.size w W2 := by rw [← hW2]; exact hbl.alloc hbl.size _
        rw [hW2] at st2 ⊢
        have ST2 := Lib.hid st2
        clear hW2 st2 hR hrow hcv hck
        have hszw := hbl.size
        have hmW : gm < W.heap.size := by obtain ⟨es, clock, hb⟩ := ownsMap_heap HST.out.mp; exact (Array.getElem?_eq_some_iff.1 hb).1
        refine wpIn_rangeFunc_ownH (F := Fence.wide) rfl (by omega) (gf := 56) (lb := #[.pointer (some ⟨W.heap.size, 0, none⟩)]) rfl trivial (enters_of Tryz.func56 (by kernel_rfl) rfl)
          (maps_stops (6 - 1) (by omega) W.heap.size w.heap.size set h0s h15 W2 hBs (by omega) (fun W' h => hs.below (hB2.trans h) (Nat.le_refl _))) keepB_t (keepB_b (by omega)) (Below.refl _ _) (fun _ => rfl)
          (fun pre V => StM w (.func (.func 21) #[] #[]) (w.heap.size + 1) g7 g8 gm [(W.heap.size, set), (Bk, (k : Int))] ds (stepM X fs pre) (stepM X fs pre) V)
          (fun _ _ _ => False)
          (fun pre A B row h hg hr => StM.own (B := W2.heap.size) (by omega) (fun D hD => by have := HDS.out D hD; omega) (by omega) (stepM X fs pre, stepM X fs pre) A B row h hg hr)
          (fun _ _ _ _ _ h _ _ => h)
          ST2.out
          (fun x a' V => ∃ Bx, Blk V Bx 47 (arr (opL x)) ∧ a' = { tmps := #[.agg (arr M), .int .i64 set, .func (.func 21) #[] #[], .pointer (some ⟨w.heap.size, 0, none⟩), undef, .pointer (some ⟨w.heap.size + 1, 0, none⟩), .slice none 0 0, .pointer (some ⟨g7, 0, none⟩), .pointer (some ⟨g8, 0, none⟩), .pointer (some ⟨Bk, 0, none⟩), .pointer (some ⟨Bx, 0, none⟩), undef, .agg (arr M), .slice (some ⟨g1, 0, none⟩) 1 1, .map (some gm), .agg (arr M), .map (some gm), .int .i64 (k : Int), .slice p fs.length c, .int .i64 (fs.length : Int), .bool true, u21, u22, .int .i64 set, .func (.func 56) #[] #[.pointer (some ⟨W.heap.size, 0, none⟩)], .agg (arr (opL x)), undef, undef, undef, undef, undef, undef, undef, undef, undef, undef, undef, undef, undef, undef, undef, u41, undef], defers := [] })
          (fun x a' s A B row h hg hr => by
            obtain ⟨Bx, h1, h2⟩ := h
            refine ⟨Bx, ?_, h2⟩
            exact (hg.block Bx h1.lt (fun e => by
              obtain ⟨_, o, ho, hc⟩ := hr Bx e.symm
              rw [show A.heap[Bx]? = _ from h1] at ho
              cases ho
              cases hc)).trans h1)
          ?assign ?body ?done ?stop
        case assign =>
          rintro l pre x V K hI hK
          have HN := Lib.hid (Blk.new V 47 (arr (List.replicate 64 0)))
          have hl64 : (opL x).length = 64 := by simp [opL]
          have HI := Lib.hid (show (Tryz.prog.info? 47).map (·.size) = some (arr (opL x)).size by rw [arr_size, hl64]; exact info_map)
          have HO := Lib.hid (show (arr (List.replicate 64 0)).size = (arr (opL x)).size by rw [arr_size, arr_size, hl64]; rfl)
          clear hl64
          have hb : Below V.heap.size V ((V.alloc (.cells (arr (List.replicate 64 0)) 47)).setRow V.heap.size (arr (opL x))) := below_setRow (below1 _ _) (Nat.le_refl _) _
          have hbk := Lib.hid (show Blk ((V.alloc (.cells (arr (List.replicate 64 0)) 47)).setRow V.heap.size (arr (opL x))) V.heap.size 47 (arr (opL x)) from HN.out.row (arr (opL x)))
          have HB := Lib.hid hb
          clear hb
          gi_wp2_with (refine wpListIn_store_row rfl 47 (.tmp 10) (.tmp 25) rfl V.heap.size (arr (opL x)) rfl rfl 47 _ HN.out HI.out HO.out (arr_one _) ?_)
          exact hK _ _ (keepsFrom_below HB.out) ⟨HB.out.mono hI.bl.size, fun v hv => hv.kept (grown_of_below HB.out) (by simp)⟩ (hI.below HB.out) ⟨V.heap.size, hbk.out, rfl⟩
        case body =>
          rintro l pre x a' V hl ⟨r, hr⟩ hSt ⟨Bx, hBx, rfl⟩ hlen
          have HSt := Lib.hid hSt
          have HBx := Lib.hid hBx
          obtain ⟨l1, l2⟩ := stepM_len X fs pre
          have l3 := stepM_len2 X fs pre
          obtain ⟨gs, hgs⟩ : ∃ gs, stepM X fs pre = gs := ⟨_, rfl⟩
          have HGS := Lib.hid hgs
          rw [hgs] at HSt l1 l2 l3
          have HG2 := Lib.hid (show nthM gs k = X by rw [l2 k hlt]; exact HXE.out)
          have HHX := Lib.hid (hgs ▸ stepM_maps HXX.out pre HX.out : Mapps gs)
          have hg64 : gs.length ≤ 56 := by omega
          clear hgs l2 hSt hBx
          obtain ⟨v2, hv2, hrow2, hne2⟩ := HSt.out.b7
          have HR2 := Lib.hid hrow2
          have HV2 := Lib.hid hv2
          have HNE := Lib.hid hne2
          obtain ⟨p2, c2, rfl, hR2⟩ := gotM HHX.out hrow2
          obtain ⟨q2, rfl, hcx⟩ := hR2 k (by omega)
          rw [HG2.out] at hcx
          have HCX := Lib.hid hcx
          have HC5 := Lib.hid HSt.out.b5.cell
          have HC7 := Lib.hid hv2.cell
          have HCK := Lib.hid (show V.cell? ⟨Bk, 0, none⟩ = some (.int .i64 (k : Int)) from (HSt.out.bi (Bk, (k : Int)) (by simp)).cell)
          clear hv2 hrow2 hne2 hR2 hcx
          have hkg : k < gs.length := by omega
          obtain ⟨Y, hY⟩ : ∃ Y, compL X (opL x) = Y := ⟨_, rfl⟩
          have HY := Lib.hid hY
          have HYM := Lib.hid (show MapL Y by rw [← hY]; exact compL_map HXX.out (opL_map x))
          clear hY
          have HIX := Lib.hid (show (Tryz.prog.info? 47).map (·.size) = some (X.map (Value.int .i64)).length by rw [List.length_map, HXX.out.1]; exact info_map)
          have HIY := Lib.hid (show (Tryz.prog.info? 47).map (·.size) = some (arr Y).size by rw [arr_size, HYM.out.1]; exact info_map)
          have HOY := Lib.hid (show (arr zero64).size = (arr Y).size by rw [arr_size, arr_size, HYM.out.1]; rfl)
          gi_wp2_with fail
          refine wpIn_cut0 (fun a' V1 => ∃ Bn : Nat, a' = { tmps := #[.agg (arr M), .int .i64 set, .func (.func 21) #[] #[], .pointer (some ⟨w.heap.size, 0, none⟩), undef, .pointer (some ⟨w.heap.size + 1, 0, none⟩), .slice none 0 0, .pointer (some ⟨g7, 0, none⟩), .pointer (some ⟨g8, 0, none⟩), .pointer (some ⟨Bk, 0, none⟩), .pointer (some ⟨Bx, 0, none⟩), .pointer (some ⟨Bn, 0, none⟩), .agg (arr M), .slice (some ⟨g1, 0, none⟩) 1 1, .map (some gm), .agg (arr M), .map (some gm), .int .i64 (k : Int), .slice p fs.length c, .int .i64 (fs.length : Int), .bool true, u21, u22, .int .i64 set, .func (.func 56) #[] #[.pointer (some ⟨W.heap.size, 0, none⟩)], .agg (arr (opL x)), .func (.func 21) #[] #[], .slice (some ⟨q2, 0, none⟩) gs.length c2, .int .i64 (k : Int), .pointer (some ⟨q2, k * 64, none⟩), .agg (arr X), .agg (arr Y), undef, undef, undef, undef, undef, undef, undef, undef, undef, u41, undef], defers := [] } ∧ Hid (Below V.heap.size V V1) ∧ Hid (V.heap.size ≤ Bn ∧ Blk V1 Bn 47 (arr Y))) ?reg7 ?rest7
          case reg7 =>
            refine wpIn_region_inv (by assumption) deps7 ?ok7 (fun b a V1 => ∃ Bn : Nat, Hid (Below V.heap.size V V1) ∧ Hid (b.testBit 6 = true → V.heap.size ≤ Bn ∧ Blk V1 Bn 47 (if b.testBit 7 = true then arr Y else arr zero64)) ∧ Hid (b.testBit 7 = true → b.testBit 6 = true) ∧ a = actN7 (.agg (arr M)) (.int .i64 set) (.func (.func 21) #[] #[]) (.pointer (some ⟨w.heap.size, 0, none⟩)) undef (.pointer (some ⟨w.heap.size + 1, 0, none⟩)) (.slice none 0 0) (.pointer (some ⟨g7, 0, none⟩)) (.pointer (some ⟨g8, 0, none⟩)) (.pointer (some ⟨Bk, 0, none⟩)) (.pointer (some ⟨Bx, 0, none⟩)) (.agg (arr M)) (.slice (some ⟨g1, 0, none⟩) 1 1) (.map (some gm)) (.agg (arr M)) (.map (some gm)) (.int .i64 (k : Int)) (.slice p fs.length c) (.int .i64 (fs.length : Int)) (.bool true) u21 u22 (.int .i64 set) (.func (.func 56) #[] #[.pointer (some ⟨W.heap.size, 0, none⟩)]) (.agg (arr (opL x))) undef undef undef undef undef undef undef undef undef u41 undef b (.func (.func 21) #[] #[]) (.slice (some ⟨q2, 0, none⟩) gs.length c2) (.int .i64 (k : Int)) (.pointer (some ⟨q2, k * 64, none⟩)) (.agg (arr X)) (.agg (arr Y)) (.pointer (some ⟨Bn, 0, none⟩))) ?start7 ?step7 ?fin7
            case ok7 => exact ⟨by decide +kernel, by decide +kernel⟩
            case start7 => exact ⟨0, (Below.refl _ V).drew, (fun e => by simp at e), (fun e => by simp at e), by simp [actN7, act7]⟩
            case fin7 =>
              rintro a V1 ⟨Bn, h1, h2, -, rfl⟩
              exact ⟨Bn, rfl, h1, h2.out (by decide)⟩
            case step7 =>
              rintro b a V1 ⟨Bn, HBL, H6, H7, rfl⟩ i hi hb hd
              have hi8 : i < 8 := hi
              clear hi
              have e : i = 0 ∨ i = 1 ∨ i = 2 ∨ i = 3 ∨ i = 4 ∨ i = 5 ∨ i = 6 ∨ i = 7 := by omega
              have K6 : ∀ j, j ≠ 6 → j ≠ 7 → ∀ V2, Below V1.heap.size V1 V2 → Hid ((b ||| 2 ^ j).testBit 6 = true → V.heap.size ≤ Bn ∧ Blk V2 Bn 47 (if (b ||| 2 ^ j).testBit 7 = true then arr Y else arr zero64)) := fun j n6 n7 V2 hb2 => by
                rw [tb n6, tb n7]
                exact fun e => ⟨(H6.out e).1, (H6.out e).2.below hb2 (H6.out e).2.lt⟩
              have K7 : ∀ j, j ≠ 6 → j ≠ 7 → Hid ((b ||| 2 ^ j).testBit 7 = true → (b ||| 2 ^ j).testBit 6 = true) := fun j n6 n7 => by
                rw [tb n6, tb n7]
                exact H7.out
              rcases e with rfl | rfl | rfl | rfl | rfl | rfl | rfl | rfl
              · refine wpOpIn_step rfl (fun K hK => ?_)
                refine Eq.mpr (if_pos (by rfl)) ?_
                have hc := cell_tr HBL.out HC5.out
                have ev : (actN7 (.agg (arr M)) (.int .i64 set) (.func (.func 21) #[] #[]) (.pointer (some ⟨w.heap.size, 0, none⟩)) undef (.pointer (some ⟨w.heap.size + 1, 0, none⟩)) (.slice none 0 0) (.pointer (some ⟨g7, 0, none⟩)) (.pointer (some ⟨g8, 0, none⟩)) (.pointer (some ⟨Bk, 0, none⟩)) (.pointer (some ⟨Bx, 0, none⟩)) (.agg (arr M)) (.slice (some ⟨g1, 0, none⟩) 1 1) (.map (some gm)) (.agg (arr M)) (.map (some gm)) (.int .i64 (k : Int)) (.slice p fs.length c) (.int .i64 (fs.length : Int)) (.bool true) u21 u22 (.int .i64 set) (.func (.func 56) #[] #[.pointer (some ⟨W.heap.size, 0, none⟩)]) (.agg (arr (opL x))) undef undef undef undef undef undef undef undef undef u41 undef b (.func (.func 21) #[] #[]) (.slice (some ⟨q2, 0, none⟩) gs.length c2) (.int .i64 (k : Int)) (.pointer (some ⟨q2, k * 64, none⟩)) (.agg (arr X)) (.agg (arr Y)) (.pointer (some ⟨Bn, 0, none⟩))).tmps[5]?.getD undef = .pointer (some ⟨w.heap.size + 1, 0, none⟩) := rfl
                generalize hact : actN7 (.agg (arr M)) (.int .i64 set) (.func (.func 21) #[] #[]) (.pointer (some ⟨w.heap.size, 0, none⟩)) undef (.pointer (some ⟨w.heap.size + 1, 0, none⟩)) (.slice none 0 0) (.pointer (some ⟨g7, 0, none⟩)) (.pointer (some ⟨g8, 0, none⟩)) (.pointer (some ⟨Bk, 0, none⟩)) (.pointer (some ⟨Bx, 0, none⟩)) (.agg (arr M)) (.slice (some ⟨g1, 0, none⟩) 1 1) (.map (some gm)) (.agg (arr M)) (.map (some gm)) (.int .i64 (k : Int)) (.slice p fs.length c) (.int .i64 (fs.length : Int)) (.bool true) u21 u22 (.int .i64 set) (.func (.func 56) #[] #[.pointer (some ⟨W.heap.size, 0, none⟩)]) (.agg (arr (opL x))) undef undef undef undef undef undef undef undef undef u41 undef b (.func (.func 21) #[] #[]) (.slice (some ⟨q2, 0, none⟩) gs.length c2) (.int .i64 (k : Int)) (.pointer (some ⟨q2, k * 64, none⟩)) (.agg (arr X)) (.agg (arr Y)) (.pointer (some ⟨Bn, 0, none⟩)) = act at ev ⊢
                go_simp
                refine hK _ _ ?_
                rw [← hact]
                exact ⟨Bn, HBL, K6 0 (by omega) (by omega) _ (Below.refl _ _), K7 0 (by omega) (by omega), actN7_0 ..⟩
              · refine wpOpIn_step rfl (fun K hK => ?_)
                refine Eq.mpr (if_pos (by rfl)) ?_
                have hc := cell_tr HBL.out HC7.out
                have ev : (actN7 (.agg (arr M)) (.int .i64 set) (.func (.func 21) #[] #[]) (.pointer (some ⟨w.heap.size, 0, none⟩)) undef (.pointer (some ⟨w.heap.size + 1, 0, none⟩)) (.slice none 0 0) (.pointer (some ⟨g7, 0, none⟩)) (.pointer (some ⟨g8, 0, none⟩)) (.pointer (some ⟨Bk, 0, none⟩)) (.pointer (some ⟨Bx, 0, none⟩)) (.agg (arr M)) (.slice (some ⟨g1, 0, none⟩) 1 1) (.map (some gm)) (.agg (arr M)) (.map (some gm)) (.int .i64 (k : Int)) (.slice p fs.length c) (.int .i64 (fs.length : Int)) (.bool true) u21 u22 (.int .i64 set) (.func (.func 56) #[] #[.pointer (some ⟨W.heap.size, 0, none⟩)]) (.agg (arr (opL x))) undef undef undef undef undef undef undef undef undef u41 undef b (.func (.func 21) #[] #[]) (.slice (some ⟨q2, 0, none⟩) gs.length c2) (.int .i64 (k : Int)) (.pointer (some ⟨q2, k * 64, none⟩)) (.agg (arr X)) (.agg (arr Y)) (.pointer (some ⟨Bn, 0, none⟩))).tmps[7]?.getD undef = .pointer (some ⟨g7, 0, none⟩) := rfl
                generalize hact : actN7 (.agg (arr M)) (.int .i64 set) (.func (.func 21) #[] #[]) (.pointer (some ⟨w.heap.size, 0, none⟩)) undef (.pointer (some ⟨w.heap.size + 1, 0, none⟩)) (.slice none 0 0) (.pointer (some ⟨g7, 0, none⟩)) (.pointer (some ⟨g8, 0, none⟩)) (.pointer (some ⟨Bk, 0, none⟩)) (.pointer (some ⟨Bx, 0, none⟩)) (.agg (arr M)) (.slice (some ⟨g1, 0, none⟩) 1 1) (.map (some gm)) (.agg (arr M)) (.map (some gm)) (.int .i64 (k : Int)) (.slice p fs.length c) (.int .i64 (fs.length : Int)) (.bool true) u21 u22 (.int .i64 set) (.func (.func 56) #[] #[.pointer (some ⟨W.heap.size, 0, none⟩)]) (.agg (arr (opL x))) undef undef undef undef undef undef undef undef undef u41 undef b (.func (.func 21) #[] #[]) (.slice (some ⟨q2, 0, none⟩) gs.length c2) (.int .i64 (k : Int)) (.pointer (some ⟨q2, k * 64, none⟩)) (.agg (arr X)) (.agg (arr Y)) (.pointer (some ⟨Bn, 0, none⟩)) = act at ev ⊢
                go_simp
                refine hK _ _ ?_
                rw [← hact]
                exact ⟨Bn, HBL, K6 1 (by omega) (by omega) _ (Below.refl _ _), K7 1 (by omega) (by omega), actN7_1 ..⟩
              · refine wpOpIn_step rfl (fun K hK => ?_)
                refine Eq.mpr (if_pos (by rfl)) ?_
                have hc := cell_tr HBL.out HCK.out
                have ev : (actN7 (.agg (arr M)) (.int .i64 set) (.func (.func 21) #[] #[]) (.pointer (some ⟨w.heap.size, 0, none⟩)) undef (.pointer (some ⟨w.heap.size + 1, 0, none⟩)) (.slice none 0 0) (.pointer (some ⟨g7, 0, none⟩)) (.pointer (some ⟨g8, 0, none⟩)) (.pointer (some ⟨Bk, 0, none⟩)) (.pointer (some ⟨Bx, 0, none⟩)) (.agg (arr M)) (.slice (some ⟨g1, 0, none⟩) 1 1) (.map (some gm)) (.agg (arr M)) (.map (some gm)) (.int .i64 (k : Int)) (.slice p fs.length c) (.int .i64 (fs.length : Int)) (.bool true) u21 u22 (.int .i64 set) (.func (.func 56) #[] #[.pointer (some ⟨W.heap.size, 0, none⟩)]) (.agg (arr (opL x))) undef undef undef undef undef undef undef undef undef u41 undef b (.func (.func 21) #[] #[]) (.slice (some ⟨q2, 0, none⟩) gs.length c2) (.int .i64 (k : Int)) (.pointer (some ⟨q2, k * 64, none⟩)) (.agg (arr X)) (.agg (arr Y)) (.pointer (some ⟨Bn, 0, none⟩))).tmps[9]?.getD undef = .pointer (some ⟨Bk, 0, none⟩) := rfl
                generalize hact : actN7 (.agg (arr M)) (.int .i64 set) (.func (.func 21) #[] #[]) (.pointer (some ⟨w.heap.size, 0, none⟩)) undef (.pointer (some ⟨w.heap.size + 1, 0, none⟩)) (.slice none 0 0) (.pointer (some ⟨g7, 0, none⟩)) (.pointer (some ⟨g8, 0, none⟩)) (.pointer (some ⟨Bk, 0, none⟩)) (.pointer (some ⟨Bx, 0, none⟩)) (.agg (arr M)) (.slice (some ⟨g1, 0, none⟩) 1 1) (.map (some gm)) (.agg (arr M)) (.map (some gm)) (.int .i64 (k : Int)) (.slice p fs.length c) (.int .i64 (fs.length : Int)) (.bool true) u21 u22 (.int .i64 set) (.func (.func 56) #[] #[.pointer (some ⟨W.heap.size, 0, none⟩)]) (.agg (arr (opL x))) undef undef undef undef undef undef undef undef undef u41 undef b (.func (.func 21) #[] #[]) (.slice (some ⟨q2, 0, none⟩) gs.length c2) (.int .i64 (k : Int)) (.pointer (some ⟨q2, k * 64, none⟩)) (.agg (arr X)) (.agg (arr Y)) (.pointer (some ⟨Bn, 0, none⟩)) = act at ev ⊢
                go_simp
                refine hK _ _ ?_
                rw [← hact]
                exact ⟨Bn, HBL, K6 2 (by omega) (by omega) _ (Below.refl _ _), K7 2 (by omega) (by omega), actN7_2 ..⟩
              · have d1 := hd 1 (by simp [deps7])
                have d2 := hd 2 (by simp [deps7])
                refine wpOpIn_step rfl (fun K hK => ?_)
                refine Eq.mpr (if_pos (by rfl)) ?_
                have ev1 : (actN7 (.agg (arr M)) (.int .i64 set) (.func (.func 21) #[] #[]) (.pointer (some ⟨w.heap.size, 0, none⟩)) undef (.pointer (some ⟨w.heap.size + 1, 0, none⟩)) (.slice none 0 0) (.pointer (some ⟨g7, 0, none⟩)) (.pointer (some ⟨g8, 0, none⟩)) (.pointer (some ⟨Bk, 0, none⟩)) (.pointer (some ⟨Bx, 0, none⟩)) (.agg (arr M)) (.slice (some ⟨g1, 0, none⟩) 1 1) (.map (some gm)) (.agg (arr M)) (.map (some gm)) (.int .i64 (k : Int)) (.slice p fs.length c) (.int .i64 (fs.length : Int)) (.bool true) u21 u22 (.int .i64 set) (.func (.func 56) #[] #[.pointer (some ⟨W.heap.size, 0, none⟩)]) (.agg (arr (opL x))) undef undef undef undef undef undef undef undef undef u41 undef b (.func (.func 21) #[] #[]) (.slice (some ⟨q2, 0, none⟩) gs.length c2) (.int .i64 (k : Int)) (.pointer (some ⟨q2, k * 64, none⟩)) (.agg (arr X)) (.agg (arr Y)) (.pointer (some ⟨Bn, 0, none⟩))).tmps[27]?.getD undef = .slice (some ⟨q2, 0, none⟩) gs.length c2 := by
                  show (if b.testBit 1 = true then _ else _) = _
                  rw [if_pos d1]
                have ev2 : (actN7 (.agg (arr M)) (.int .i64 set) (.func (.func 21) #[] #[]) (.pointer (some ⟨w.heap.size, 0, none⟩)) undef (.pointer (some ⟨w.heap.size + 1, 0, none⟩)) (.slice none 0 0) (.pointer (some ⟨g7, 0, none⟩)) (.pointer (some ⟨g8, 0, none⟩)) (.pointer (some ⟨Bk, 0, none⟩)) (.pointer (some ⟨Bx, 0, none⟩)) (.agg (arr M)) (.slice (some ⟨g1, 0, none⟩) 1 1) (.map (some gm)) (.agg (arr M)) (.map (some gm)) (.int .i64 (k : Int)) (.slice p fs.length c) (.int .i64 (fs.length : Int)) (.bool true) u21 u22 (.int .i64 set) (.func (.func 56) #[] #[.pointer (some ⟨W.heap.size, 0, none⟩)]) (.agg (arr (opL x))) undef undef undef undef undef undef undef undef undef u41 undef b (.func (.func 21) #[] #[]) (.slice (some ⟨q2, 0, none⟩) gs.length c2) (.int .i64 (k : Int)) (.pointer (some ⟨q2, k * 64, none⟩)) (.agg (arr X)) (.agg (arr Y)) (.pointer (some ⟨Bn, 0, none⟩))).tmps[28]?.getD undef = .int .i64 (k : Int) := by
                  show (if b.testBit 2 = true then _ else _) = _
                  rw [if_pos d2]
                have x1 : (k : Int) < (gs.length : Int) := by omega
                have x2 : (0 : Int) ≤ (k : Int) := by omega
                generalize hact : actN7 (.agg (arr M)) (.int .i64 set) (.func (.func 21) #[] #[]) (.pointer (some ⟨w.heap.size, 0, none⟩)) undef (.pointer (some ⟨w.heap.size + 1, 0, none⟩)) (.slice none 0 0) (.pointer (some ⟨g7, 0, none⟩)) (.pointer (some ⟨g8, 0, none⟩)) (.pointer (some ⟨Bk, 0, none⟩)) (.pointer (some ⟨Bx, 0, none⟩)) (.agg (arr M)) (.slice (some ⟨g1, 0, none⟩) 1 1) (.map (some gm)) (.agg (arr M)) (.map (some gm)) (.int .i64 (k : Int)) (.slice p fs.length c) (.int .i64 (fs.length : Int)) (.bool true) u21 u22 (.int .i64 set) (.func (.func 56) #[] #[.pointer (some ⟨W.heap.size, 0, none⟩)]) (.agg (arr (opL x))) undef undef undef undef undef undef undef undef undef u41 undef b (.func (.func 21) #[] #[]) (.slice (some ⟨q2, 0, none⟩) gs.length c2) (.int .i64 (k : Int)) (.pointer (some ⟨q2, k * 64, none⟩)) (.agg (arr X)) (.agg (arr Y)) (.pointer (some ⟨Bn, 0, none⟩)) = act at ev1 ev2 ⊢
                go_simp
                refine hK _ _ ?_
                rw [← hact]
                exact ⟨Bn, HBL, K6 3 (by omega) (by omega) _ (Below.refl _ _), K7 3 (by omega) (by omega), actN7_3 ..⟩
              · have d3 := hd 3 (by simp [deps7])
                have hc : V1.rangeAt q2 (k * 64) (X.map (Value.int .i64)) := fun j u hj => by
                  have := HCX.out j u hj
                  rw [Nat.mul_comm 64 k] at this
                  exact cell_tr HBL.out this
                refine wpOpIn_step rfl (fun K hK => ?_)
                refine Eq.mpr (if_pos (by rfl)) ?_
                refine operIn_load_mid 47 (.tmp 29) rfl q2 (k * 64) (by show (if b.testBit 3 = true then _ else _) = _; rw [if_pos d3]) (X.map (Value.int .i64)) _ hc Tryz.underlying47 rfl HIX.out (hK _ _ ?_)
                exact ⟨Bn, HBL, K6 4 (by omega) (by omega) _ (Below.refl _ _), K7 4 (by omega) (by omega), actN7_4 ..⟩
              · have d0 := hd 0 (by simp [deps7])
                have d4 := hd 4 (by simp [deps7])
                refine wpOpIn_step rfl (fun K hK => ?_)
                refine Eq.mpr (if_pos (by rfl)) ?_
                have ev0 : (actN7 (.agg (arr M)) (.int .i64 set) (.func (.func 21) #[] #[]) (.pointer (some ⟨w.heap.size, 0, none⟩)) undef (.pointer (some ⟨w.heap.size + 1, 0, none⟩)) (.slice none 0 0) (.pointer (some ⟨g7, 0, none⟩)) (.pointer (some ⟨g8, 0, none⟩)) (.pointer (some ⟨Bk, 0, none⟩)) (.pointer (some ⟨Bx, 0, none⟩)) (.agg (arr M)) (.slice (some ⟨g1, 0, none⟩) 1 1) (.map (some gm)) (.agg (arr M)) (.map (some gm)) (.int .i64 (k : Int)) (.slice p fs.length c) (.int .i64 (fs.length : Int)) (.bool true) u21 u22 (.int .i64 set) (.func (.func 56) #[] #[.pointer (some ⟨W.heap.size, 0, none⟩)]) (.agg (arr (opL x))) undef undef undef undef undef undef undef undef undef u41 undef b (.func (.func 21) #[] #[]) (.slice (some ⟨q2, 0, none⟩) gs.length c2) (.int .i64 (k : Int)) (.pointer (some ⟨q2, k * 64, none⟩)) (.agg (arr X)) (.agg (arr Y)) (.pointer (some ⟨Bn, 0, none⟩))).tmps[26]?.getD undef = .func (.func 21) #[] #[] := by
                  show (if b.testBit 0 = true then _ else _) = _
                  rw [if_pos d0]
                have ev4 : (actN7 (.agg (arr M)) (.int .i64 set) (.func (.func 21) #[] #[]) (.pointer (some ⟨w.heap.size, 0, none⟩)) undef (.pointer (some ⟨w.heap.size + 1, 0, none⟩)) (.slice none 0 0) (.pointer (some ⟨g7, 0, none⟩)) (.pointer (some ⟨g8, 0, none⟩)) (.pointer (some ⟨Bk, 0, none⟩)) (.pointer (some ⟨Bx, 0, none⟩)) (.agg (arr M)) (.slice (some ⟨g1, 0, none⟩) 1 1) (.map (some gm)) (.agg (arr M)) (.map (some gm)) (.int .i64 (k : Int)) (.slice p fs.length c) (.int .i64 (fs.length : Int)) (.bool true) u21 u22 (.int .i64 set) (.func (.func 56) #[] #[.pointer (some ⟨W.heap.size, 0, none⟩)]) (.agg (arr (opL x))) undef undef undef undef undef undef undef undef undef u41 undef b (.func (.func 21) #[] #[]) (.slice (some ⟨q2, 0, none⟩) gs.length c2) (.int .i64 (k : Int)) (.pointer (some ⟨q2, k * 64, none⟩)) (.agg (arr X)) (.agg (arr Y)) (.pointer (some ⟨Bn, 0, none⟩))).tmps[30]?.getD undef = .agg (arr X) := by
                  show (if b.testBit 4 = true then _ else _) = _
                  rw [if_pos d4]
                have evx : (actN7 (.agg (arr M)) (.int .i64 set) (.func (.func 21) #[] #[]) (.pointer (some ⟨w.heap.size, 0, none⟩)) undef (.pointer (some ⟨w.heap.size + 1, 0, none⟩)) (.slice none 0 0) (.pointer (some ⟨g7, 0, none⟩)) (.pointer (some ⟨g8, 0, none⟩)) (.pointer (some ⟨Bk, 0, none⟩)) (.pointer (some ⟨Bx, 0, none⟩)) (.agg (arr M)) (.slice (some ⟨g1, 0, none⟩) 1 1) (.map (some gm)) (.agg (arr M)) (.map (some gm)) (.int .i64 (k : Int)) (.slice p fs.length c) (.int .i64 (fs.length : Int)) (.bool true) u21 u22 (.int .i64 set) (.func (.func 56) #[] #[.pointer (some ⟨W.heap.size, 0, none⟩)]) (.agg (arr (opL x))) undef undef undef undef undef undef undef undef undef u41 undef b (.func (.func 21) #[] #[]) (.slice (some ⟨q2, 0, none⟩) gs.length c2) (.int .i64 (k : Int)) (.pointer (some ⟨q2, k * 64, none⟩)) (.agg (arr X)) (.agg (arr Y)) (.pointer (some ⟨Bn, 0, none⟩))).tmps[10]?.getD undef = .pointer (some ⟨Bx, 0, none⟩) := rfl
                generalize hact : actN7 (.agg (arr M)) (.int .i64 set) (.func (.func 21) #[] #[]) (.pointer (some ⟨w.heap.size, 0, none⟩)) undef (.pointer (some ⟨w.heap.size + 1, 0, none⟩)) (.slice none 0 0) (.pointer (some ⟨g7, 0, none⟩)) (.pointer (some ⟨g8, 0, none⟩)) (.pointer (some ⟨Bk, 0, none⟩)) (.pointer (some ⟨Bx, 0, none⟩)) (.agg (arr M)) (.slice (some ⟨g1, 0, none⟩) 1 1) (.map (some gm)) (.agg (arr M)) (.map (some gm)) (.int .i64 (k : Int)) (.slice p fs.length c) (.int .i64 (fs.length : Int)) (.bool true) u21 u22 (.int .i64 set) (.func (.func 56) #[] #[.pointer (some ⟨W.heap.size, 0, none⟩)]) (.agg (arr (opL x))) undef undef undef undef undef undef undef undef undef u41 undef b (.func (.func 21) #[] #[]) (.slice (some ⟨q2, 0, none⟩) gs.length c2) (.int .i64 (k : Int)) (.pointer (some ⟨q2, k * 64, none⟩)) (.agg (arr X)) (.agg (arr Y)) (.pointer (some ⟨Bn, 0, none⟩)) = act at ev0 ev4 evx ⊢
                go_simp
                gi_wp2_with fail
                refine ⟨trivial, ?_⟩
                refine (CallsIn.inRound l (callsIn_wide.2 (followed_any X (opL x) HXX.out (opL_map x) Bx _ V1 (HBx.out.below HBL.out HBx.out.lt)))).mono ?_
                rintro e V2 ⟨rfl, hb2⟩
                rw [HY.out]
                refine hK _ _ ?_
                rw [← hact]
                exact ⟨Bn, tr HBL.out hb2, K6 5 (by omega) (by omega) _ hb2, K7 5 (by omega) (by omega), actN7_5 ..⟩
              · have hb7 : b.testBit 7 = false := by
                  cases h : b.testBit 7
                  · rfl
                  · rw [H7.out h] at hb; cases hb
                refine wpOpIn_step rfl (fun K hK => ?_)
                refine Eq.mpr (if_pos (by rfl)) ?_
                generalize hact : actN7 (.agg (arr M)) (.int .i64 set) (.func (.func 21) #[] #[]) (.pointer (some ⟨w.heap.size, 0, none⟩)) undef (.pointer (some ⟨w.heap.size + 1, 0, none⟩)) (.slice none 0 0) (.pointer (some ⟨g7, 0, none⟩)) (.pointer (some ⟨g8, 0, none⟩)) (.pointer (some ⟨Bk, 0, none⟩)) (.pointer (some ⟨Bx, 0, none⟩)) (.agg (arr M)) (.slice (some ⟨g1, 0, none⟩) 1 1) (.map (some gm)) (.agg (arr M)) (.map (some gm)) (.int .i64 (k : Int)) (.slice p fs.length c) (.int .i64 (fs.length : Int)) (.bool true) u21 u22 (.int .i64 set) (.func (.func 56) #[] #[.pointer (some ⟨W.heap.size, 0, none⟩)]) (.agg (arr (opL x))) undef undef undef undef undef undef undef undef undef u41 undef b (.func (.func 21) #[] #[]) (.slice (some ⟨q2, 0, none⟩) gs.length c2) (.int .i64 (k : Int)) (.pointer (some ⟨q2, k * 64, none⟩)) (.agg (arr X)) (.agg (arr Y)) (.pointer (some ⟨Bn, 0, none⟩)) = act
                go_simp
                refine hK _ _ ?_
                rw [← hact]
                refine ⟨V1.heap.size, HBL.out.alloc HBL.out.size _, (fun _ => ⟨HBL.out.size, ?_⟩), (fun _ => tb_self _ _), actN7_6 ..⟩
                rw [tb (by omega), hb7]
                exact Blk.new V1 47 (arr zero64)
              · have d6 := hd 6 (by simp [deps7])
                have d5 := hd 5 (by simp [deps7])
                obtain ⟨n1, n2⟩ := H6.out d6
                rw [hb] at n2
                have n2 : Blk V1 Bn 47 (arr zero64) := n2
                refine wpOpIn_step rfl (fun K hK => ?_)
                refine Eq.mpr (if_pos (by rfl)) ?_
                refine operIn_store_row 47 (.tmp 11) (.tmp 31) rfl Bn (arr Y) (by show (if b.testBit 6 = true then _ else _) = _; rw [if_pos d6]) (by show (if b.testBit 5 = true then _ else _) = _; rw [if_pos d5]) 47 (arr zero64) n2 HIY.out HOY.out (arr_one _) (hK _ _ ?_)
                refine ⟨Bn, below_setRow HBL.out n1 _, (fun _ => ⟨n1, ?_⟩), (fun _ => by rw [tb (by omega)]; exact d6), ?_⟩
                · rw [tb_self]
                  exact n2.row (arr Y)
                · rw [actN7_7]
                  rfl
          case rest7 =>
            rintro _ V1 ⟨Bn, rfl, HBL, HBN⟩
            have hst := HSt.out.below HBL.out
            have hkb : KeepB w.heap.size W.heap.size V V1 := ⟨HBL.out.mono HSt.out.bl.size, fun v hv => hv.kept (grown_of_below HBL.out) (by simp)⟩
            have hkf : KeepsFrom W2.heap.size V V1 := keepsFrom_below HBL.out
            have HN := Lib.hid HBN.out.2
            clear HSt HV2 HR2 HNE HBx HC5 HC7 HCK HCX HBL HBN
            have HS1 := Lib.hid hst
            clear hst
            have hc8 := HS1.out.b8.cell
            have hbl1 := HS1.out.bl
            have HK := Lib.hid (keyM_mk HYM.out)
            obtain ⟨ie, hie, hz, hsz, hby⟩ := HIE.out
            by_cases hmem : Y ∈ gs
            · have HE := Lib.hid (show stepM X fs (pre ++ [x]) = gs by rw [stepM_snoc, HGS.out, HY.out]; unfold addM; rw [if_pos hmem])
              have HM := Lib.hid (show decide (Y ∈ gs) = true by simpa using hmem)
              clear hmem
              gi_wp2_with (first
                | (refine wpListIn_load_rowY rfl 47 (.tmp 11) rfl Bn rfl 47 (arr Y) (0, 0) _ HN.out Tryz.underlying47 rfl HIY.out ?_)
                | (gi_at_lookup; refine wpListIn_lookup_own_bool _ rfl _ _ 75 rfl 47 4 keyM Tryz.underlying75 Tryz.underlying4 (Tryz.zeroValue4 _) gm gs.length (seenM gs) rfl HS1.out.mp (.agg (arr Y)) (klM Y) rfl HK.out true (by rw [seenM_at gs HHX.out Y HYM.out, HM.out]) ?_; go_frame))
              exact ⟨hkf, hkb, by show StM _ _ _ _ _ _ _ _ (stepM X fs (pre ++ [x])) (stepM X fs (pre ++ [x])) _; rw [HE.out]; exact HS1.out⟩
            · have HE := Lib.hid (show stepM X fs (pre ++ [x]) = gs ++ [Y] by rw [stepM_snoc, HGS.out, HY.out]; unfold addM; rw [if_neg hmem])
              have HM := Lib.hid (show decide (Y ∈ gs) = false by simpa using hmem)
              clear hmem
              have HFILL := Lib.hid (fun zs (h : zs.size = 64) => fill_row (arr Y) zs 64 (by decide) (by rw [arr_size, HYM.out.1]) h)
              have HYL := Lib.hid HYM.out.1
              gi_wp2_with (first
                | (refine wpListIn_load_rowY rfl 47 (.tmp 11) rfl Bn rfl 47 (arr Y) (0, 0) _ HN.out Tryz.underlying47 rfl HIY.out ?_)
                | (gi_at_lookup; refine wpListIn_lookup_own_bool _ rfl _ _ 75 rfl 47 4 keyM Tryz.underlying75 Tryz.underlying4 (Tryz.zeroValue4 _) gm gs.length (seenM gs) rfl HS1.out.mp (.agg (arr Y)) (klM Y) rfl HK.out false (by rw [seenM_at gs HHX.out Y HYM.out, HM.out]) ?_; go_frame)
                | (gi_at_mapUpdate; refine wpListIn_mapUpdate_own _ rfl _ _ _ 75 rfl 47 4 keyM Tryz.underlying75 (plainElem (H := Value) Tryz.prog 4) gm gs.length (seenM gs) rfl HS1.out.mp (by unfold maxLen; omega) (.agg (arr Y)) (.bool true) (klM Y) rfl rfl HK.out (.lit (.bool true)) [] (plainElem_bool Tryz.underlying4 true) ?_; intro w3 hown3 hgrow3; go_frame; have st3 := HS1.out.put hown3 hgrow3 (by omega); have HST3 := Lib.hid st3; obtain ⟨v3, hv3, hrow3, hne3⟩ := st3.b7; have HNE3 := Lib.hid hne3; have HV3 := Lib.hid hv3; have HROW3 := Lib.hid hrow3; obtain ⟨p3, c3, rfl, -⟩ := gotM HHX.out hrow3; have hcv3 := hv3.cell; have hsz3 := st3.bl.size; have HG3 := Lib.hid hgrow3; have HN3 := Lib.hid (blk_grown HN.out hgrow3 HS1.out.mp); clear st3 hv3 hrow3 hne3 hown3 hgrow3 hc8)
                | (refine wpListIn_load_rowY rfl 47 (.tmp 11) rfl Bn rfl 47 (arr Y) (0, 0) _ HN3.out Tryz.underlying47 rfl HIY.out ?_)
                | (refine wpListIn_buildSliceY rfl 49 47 1 #[(0, .tmp 38)] rfl (arr Y) ie (.agg (arr zero64)) Tryz.underlying49 hie hz (by rw [hsz]; decide) (by rw [hsz]; decide) (by rw [hsz]; simp only [List.map_toArray, List.map_cons, List.map_nil]; exact HFILL.out _ (by simp)) ?_)
                | (gi_at_builtin; go_loud ((refine wpListIn_append_own_at _ rfl _ _ 49 rfl w.heap.size 47 ie (.agg (arr zero64)) 64 512 Tryz.underlying49 hie hz hsz hby rfl (by decide) _ gs.length _ rfl (HROW3.out.alloc _) ⟨w3.heap.size, 0, none⟩ 1 1 (Y.map (Value.int .i64)) rfl (by rw [List.length_map, HYL.out, Nat.one_mul]) (news_arr w3 Y) (one_arr Y) (by unfold maxLen; omega) (by omega) (by simp; omega) ?_; intro v4 w4 hown4 hgrow4 _ hat4; obtain ⟨g4, c4, rfl⟩ := ownsRow_succ hown4; go_frame; obtain ⟨st5, hk5, hb5, hv5, hbb5⟩ := HST3.out.app HV3.out HROW3.out HNE3.out (by omega) hown4 hgrow4 hat4; have hc5 := hv5.cell; have hf5 := hv5.frozen))))
              have hkb3 : KeepB w.heap.size W.heap.size V w3 := ⟨hkb.1.trans ((Below.refl _ V1).grown HG3.out hbl1.size (fun j e => by cases e; omega)), fun u hu => (hkb.2 u hu).kept HG3.out (by simp; omega)⟩
              have hkf3 : KeepsFrom W2.heap.size V w3 := hkf.trans (KeepsFrom.of_grownBy HG3.out (fun j e => by cases e; omega))
              exact ⟨(by first | exact hkf3.trans (hk5.from _) | (rw [← hsz2]; exact hkf3.trans (hk5.from _))), ⟨hkb3.1.trans hbb5, fun u hu => hb5 (W.heap.size, set) (by simp) u (hkb3.2 u hu)⟩, by show StM _ _ _ _ _ _ _ _ (stepM X fs (pre ++ [x])) (stepM X fs (pre ++ [x])) _; rw [HE.out]; exact st5⟩
        case done =>
          rintro D ys V hD rfl hSt hK
          have HSt := Lib.hid hSt
          have HFK := Lib.hid (show reachM set (k + 1) = stepM X fs (opsTo set 4) by rw [reachM, HFS.out, if_pos hlt, HXE.out])
          have hck : V.cell? ⟨Bk, 0, none⟩ = some (.int .i64 (k : Int)) := (hSt.bi (Bk, (k : Int)) (by simp)).cell
          have HKD := Lib.hid hK
          have hDV : D < V.heap.size := (Array.getElem?_eq_some_iff.1 hK).1
          clear hSt hK
          gi_wp2
          have hmk : ∀ E ∈ D :: ds, E < V.heap.size := fun E hE => by
            rcases List.mem_cons.1 hE with rfl | hE
            · exact hDV
            · exact (Array.getElem?_eq_some_iff.1 (HSt.out.mks E hE).1).1
          refine ⟨⟨k + 1, V.heap.size, D :: ds, _, _, _, _, _, _, _, _, _, rfl, ?_, by simp [HDK.out], List.nodup_cons.2 ⟨fun hm => by have := HDS.out D hm; omega, HND.out⟩, fun E hE => by have := hmk E hE; simp; omega, by rw [HFK.out]; have := (stepM_len X fs (opsTo set 4)).1; omega⟩, by simp; have := HDK.out; omega⟩
          rw [HFK.out]
          exact ((HSt.out.mark HKD.out (by omega)).box ((k : Int) + 1)).fewer (ib' := [(V.heap.size, ((k + 1 : Nat) : Int))]) (fun q hq => by simp at hq; subst hq; simp)
        case stop =>
          rintro D c pre V _ _ h _
          exact h.elim
      · obtain rfl : k = fs.length := by omega
        have HE := Lib.hid (show reachM set 52 = fs by
          rw [← HFS.out]
          exact (reachM_meet (by rw [HFS.out]; exact Nat.le_refl _) (HL52.out 52) (by rw [HFS.out]; exact hl64)).symm)
        clear hR
        gi_wp2
        refine leaves_marks w.heap.size (fun W' => W'.ownsRow w.heap.size 47 64 (.slice p fs.length c) fs.length (flatM fs) ∧ Below w.heap.size w W') ?_ ?_ ds W HND.out HST.out.mks ⟨hrow, hbl⟩
        · rintro W' D ⟨h1, h2⟩ hD hK
          exact ⟨ownsRow_putObj h1 _ hK rfl, h2.trans (belowK_b (w := w) (Nat.le_refl _) W' D _ _ hD hK rfl rfl)⟩
        · rintro W' ⟨h1, h2⟩
          exact ⟨_, results_tmp rfl _ _ _, _, rfl, by rw [HE.out]; exact h1, h2⟩
end Go.Proofs.YtojlopfjhhiilaaGreatDoor
