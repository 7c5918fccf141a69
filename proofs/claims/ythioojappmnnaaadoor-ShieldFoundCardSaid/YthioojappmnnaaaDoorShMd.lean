/-
  Package shield: Mend, for a copy of figures.
-/
import Derived.Test.YthioojappmnnaaaDoorShCo
import Derived.Test.YthioojappmnnaaaDoorShDf
import Derived.Test.YthioojappmnnaaaDoorShG
namespace Go.Proofs.YthioojappmnnaaaDoor
open Go Go.RowKit Go.Shelf
set_option linter.unusedVariables false
attribute [local go_sem] Oper.semAt_some

/-- How few marks are wrong, how many charts a copy can be of, and the first one. -/
def zeroS : List Int := List.replicate 16 0
def mendS (s : List Int) (r : Int × Nat × List Int) (x : Nat) : Int × Nat × List Int :=
  if difTo s (chV x) 16 < r.1 then (difTo s (chV x) 16, 1, chV x) else if difTo s (chV x) 16 = r.1 then (r.1, r.2.1 + 1, r.2.2) else r
def mendL (s : List Int) (pre : List Nat) : Int × Nat × List Int := pre.foldl (mendS s) (65, 0, zeroS)
theorem mendL_snoc (s : List Int) (pre : List Nat) (x : Nat) : mendL s (pre ++ [x]) = mendS s (mendL s pre) x := by simp [mendL]
def repL (r : Int × Nat × List Int) : List Int := r.1 :: (r.2.1 : Int) :: r.2.2
theorem mendL_ok (s : List Int) (pre : List Nat) : 0 ≤ (mendL s pre).1 ∧ (mendL s pre).1 ≤ 65 ∧ (mendL s pre).2.1 ≤ pre.length ∧ (mendL s pre).2.2.length = 16 := by
  have key : ∀ (pre : List Nat) (r : Int × Nat × List Int) (n : Nat), 0 ≤ r.1 → r.1 ≤ 65 → r.2.1 ≤ n → r.2.2.length = 16 → 0 ≤ (pre.foldl (mendS s) r).1 ∧ (pre.foldl (mendS s) r).1 ≤ 65 ∧ (pre.foldl (mendS s) r).2.1 ≤ n + pre.length ∧ (pre.foldl (mendS s) r).2.2.length = 16 := by
    intro pre
    induction pre with
    | nil => intro r n h0 h1 h2 h3; exact ⟨h0, h1, by simpa using h2, h3⟩
    | cons x t ih =>
      intro r n h0 h1 h2 h3
      have hd := difTo_bd s (chV x) 16
      have := ih (mendS s r x) (n + 1) (by unfold mendS; split; exact hd.1; split <;> exact h0) (by unfold mendS; split; simp only; omega; split <;> exact h1) (by unfold mendS; split; simp only; omega; split; simp only; omega; omega) (by unfold mendS; split; exact chV_len x; split <;> exact h3)
      simp only [List.foldl_cons, List.length_cons]
      refine ⟨this.1, this.2.1, by omega, this.2.2.2⟩
  have := key pre (65, 0, zeroS) 0 (by simp) (by simp) (by simp) (by simp [zeroS])
  simpa [mendL] using this
theorem repL_len {r : Int × Nat × List Int} (h : r.2.2.length = 16) : (repL r).length = 18 := by simp [repL, h]
theorem info_rep : (Tryd.prog.info? 43).map (·.size) = some 18 := by kernel_rfl
theorem list16 {l : List Int} (h : l.length = 16) : ∃ c0 c1 c2 c3 c4 c5 c6 c7 c8 c9 c10 c11 c12 c13 c14 c15, l = [c0, c1, c2, c3, c4, c5, c6, c7, c8, c9, c10, c11, c12, c13, c14, c15] := by
  match l, h with
  | [c0, c1, c2, c3, c4, c5, c6, c7, c8, c9, c10, c11, c12, c13, c14, c15], _ => exact ⟨c0, c1, c2, c3, c4, c5, c6, c7, c8, c9, c10, c11, c12, c13, c14, c15, rfl⟩
/-- The state: the repair's box, the copy's, the result's. -/
structure Ms (w : World) (s : List Int) (Br : Nat) (pre : List Nat) (W : World) : Prop where
  br : Blk W Br 43 (arr (repL (mendL s pre)))
  bs : Blk W w.heap.size 33 (arr s)
  b2 : Blk W (w.heap.size + 1) 43 (arr (List.replicate 18 0))
  bl : Below w.heap.size w W
theorem Ms.kept {w : World} {s : List Int} {Br : Nat} {pre : List Nat} {W W' : World} (h : Ms w s Br pre W) {row : Option Nat} (hg : W.grownBy W' row) (hr : ∀ r, row = some r → ∃ o : Obj, W.heap[r]? = some o ∧ o.isCells = false) (hb : Below w.heap.size w W') : Ms w s Br pre W' :=
  ⟨blk_kept h.br hg hr, blk_kept h.bs hg hr, blk_kept h.b2 hg hr, hb⟩
theorem Ms.own {w : World} {s : List Int} {Br B : Nat} (hw : w.heap.size ≤ B) : OwnFrom B (fun pre W => Ms w s Br pre W) := fun pre A A' row h hg hr =>
  h.kept hg (fun r e => (hr r e).2) (h.bl.grown hg h.bl.size (fun k e => Nat.le_trans hw (hr k e).1))
theorem Ms.below {w : World} {s : List Int} {Br : Nat} {pre : List Nat} {W W' : World} (h : Ms w s Br pre W) (hb : Below W.heap.size W W') : Ms w s Br pre W' :=
  h.kept (grown_of_below hb) (fun r e => by cases e) (h.bl.trans (hb.mono h.bl.size))

set_option maxRecDepth 100000 in
set_option maxHeartbeats 8000000 in
theorem mend_in (s : List Int) (hS : s.length = 16) (hc : chkF s = 0) (w : World) (hp : Par w) :
    CallsIn Fence.wide 6 Tryd.prog 9 #[.agg (arr s)] w fun e W' => e = .returned (.tuple #[.agg (arr (repL (mendL s (upto id 65536)))), .int .i64 0]) ∧ Below w.heap.size w W' := by
  refine callsIn_of_wp_marks Tryd.func9 rfl trivial ?_ rfl
  simp only [Tryd.ntmps9, List.size_toArray, List.length_cons, List.length_nil, Nat.reduceAdd, Nat.reduceSub, Array.replicate_succ, Array.replicate_zero, List.push_toArray, List.append_toArray, List.nil_append, List.cons_append]
  have HL := Lib.hid hS
  have HFs := Lib.hid (show Figs s from fun k hk => chkF_zero hc k (by omega))
  have H := Lib.hid hc
  have HB := Lib.hid (show Blk ((w.alloc (.cells (arr s) 33)).alloc (.cells (arr (List.replicate 18 0)) 43)) w.heap.size 33 (arr s) from (Blk.new _ _ _).alloc _)
  have HR := Lib.hid (show Blk ((w.alloc (.cells (arr s) 33)).alloc (.cells (arr (List.replicate 18 0)) 43)) (w.heap.size + 1) 43 (arr (List.replicate 18 0)) from newAt (by simp))
  have hB0 : Below w.heap.size w ((w.alloc (.cells (arr s) 33)).alloc (.cells (arr (List.replicate 18 0)) 43)) := ((Below.refl _ _).alloc (Nat.le_refl _) _).alloc (by simp) _
  clear hS hc
  gi_wp2_with fail
  obtain ⟨V, hV⟩ : ∃ V, (w.alloc (.cells (arr s) 33)).alloc (.cells (arr (List.replicate 18 0)) 43) = V := ⟨_, rfl⟩
  rw [hV] at HB HR hB0
  have e0 : (w.alloc (.cells (arr s) 33)).alloc (.cells #[.int .i64 0, .int .i64 0, .int .i64 0, .int .i64 0, .int .i64 0, .int .i64 0, .int .i64 0, .int .i64 0, .int .i64 0, .int .i64 0, .int .i64 0, .int .i64 0, .int .i64 0, .int .i64 0, .int .i64 0, .int .i64 0, .int .i64 0, .int .i64 0] 43) = V := hV
  rw [e0]
  clear hV e0
  refine ⟨trivial, ?_⟩
  refine (callsIn_wide.2 (checkF_n (some ⟨w.heap.size, 0, none⟩) s 16 16 V HL (by omega) HB.out.reads)).mono ?_
  rintro e w4 ⟨rfl, hb4⟩
  rw [H.out]
  have HS4 := Lib.hid (HB.out.below hb4 HB.out.lt)
  have HR4 := Lib.hid (HR.out.below hb4 HR.out.lt)
  have hb5 := tr hB0 hb4
  have hs4 := HR4.out.lt
  clear hb4 HB HR hB0
  have hb6 : Below w.heap.size w (w4.alloc (.cells (arr (repL (mendL s []))) 43)) := hb5.alloc hb5.size _
  have I0 : Ms w s w4.heap.size [] (w4.alloc (.cells (arr (repL (mendL s []))) 43)) := ⟨Blk.new _ _ _, HS4.out.alloc _, HR4.out.alloc _, hb6⟩
  gi_wp2_with fail
  obtain ⟨W5, hW5⟩ : ∃ W5, w4.alloc (.cells (arr (repL (mendL s []))) 43) = W5 := ⟨_, rfl⟩
  have hsz5 : W5.heap.size = w4.heap.size + 1 := by rw [← hW5]; simp
  have e0 : w4.alloc (.cells #[.int .i64 65, .int .i64 0, .int .i64 0, .int .i64 0, .int .i64 0, .int .i64 0, .int .i64 0, .int .i64 0, .int .i64 0, .int .i64 0, .int .i64 0, .int .i64 0, .int .i64 0, .int .i64 0, .int .i64 0, .int .i64 0, .int .i64 0, .int .i64 0] 43) = W5 := hW5
  rw [hW5] at I0
  rw [e0]
  clear hW5 e0 HS4 HR4 hb6
  have HI0 := Lib.hid I0
  have hb5' := I0.bl
  clear I0
  refine wpIn_rangeFunc_ownH (F := Fence.wide) rfl (by omega) (gf := 20) (lb := #[]) rfl trivial (enters_of Tryd.func20 (by kernel_rfl) rfl)
    (charts_stops' (6 - 1) (by omega) w.heap.size W5 (by omega) (fun W' h => hp.below (hb5'.trans h) (Nat.le_refl _))) belowK_t (belowK_b (by omega)) (Below.refl _ _) (fun _ => rfl)
    (fun pre W => Ms w s w4.heap.size pre W)
    (fun _ _ _ => False)
    (Ms.own (by omega))
    (fun _ _ _ _ _ h _ _ => h)
    HI0.out
    (fun x a' V' => ∃ Bc, (w4.heap.size < Bc ∧ Blk V' Bc 33 (arr (chV x))) ∧ a' = { tmps := #[.agg (arr s), .pointer (some ⟨w.heap.size, 0, none⟩), .pointer (some ⟨w.heap.size + 1, 0, none⟩), .int .i64 0, .int .i64 0, .pointer (some ⟨w4.heap.size, 0, none⟩), undef, .pointer (some ⟨Bc, 0, none⟩), undef, .slice (some ⟨w.heap.size, 0, none⟩) 16 16, .int .i64 0, .int .i64 0, .bool false, undef, undef, .agg #[.int .i64 65, .int .i64 0, .int .i64 0, .int .i64 0, .int .i64 0, .int .i64 0, .int .i64 0, .int .i64 0, .int .i64 0, .int .i64 0, .int .i64 0, .int .i64 0, .int .i64 0, .int .i64 0, .int .i64 0, .int .i64 0, .int .i64 0, .int .i64 0], .agg (arr (nibs x)), .agg (arr (chV x)), undef, undef, undef, undef, undef, undef, undef, undef, undef, undef, undef, undef, undef, undef, undef, undef, undef, undef, undef], defers := [] })
    (fun x a' s A B row h hg hr => by
      obtain ⟨Bc, ⟨h0, h2⟩, h3⟩ := h
      exact ⟨Bc, ⟨h0, blk_kept h2 hg (fun r e => (hr r e).2)⟩, h3⟩)
    ?assign ?body ?done ?stop
  case assign =>
    rintro l pre x U K hI hK
    have hCl := chV_len x
    obtain ⟨C, hC⟩ : ∃ C, chV x = C := ⟨_, rfl⟩
    obtain ⟨M, hM⟩ : ∃ M, nibs (x : Int) = M := ⟨_, rfl⟩
    have hE : encC x = #[.agg (arr M), .agg (arr C)] := by unfold encC; rw [hC, hM]
    rw [hC] at hCl hK
    rw [hM] at hK
    rw [hE]
    have HIs := Lib.hid (show (Tryd.prog.info? 33).map (·.size) = some (arr C).size by rw [arr_size, hCl]; exact info_shield)
    have HOs := Lib.hid (show (arr (List.replicate 16 0)).size = (arr C).size by rw [arr_size, arr_size, hCl]; rfl)
    clear hC hM hCl hE
    have hUz : w4.heap.size < U.heap.size := hI.br.lt
    have HI := Lib.hid hI
    clear hI
    have HN2 := Lib.hid (Blk.new U 33 (arr (List.replicate 16 0)))
    obtain ⟨U2, hU2⟩ : ∃ U2, (U.alloc (.cells (arr (List.replicate 16 0)) 33)).setRow U.heap.size (arr C) = U2 := ⟨_, rfl⟩
    have HB := Lib.hid (show Below U.heap.size U U2 from by rw [← hU2]; exact below_setRow (below1 _ _) (Nat.le_refl _) _)
    have hbk2 := Lib.hid (show Blk U2 U.heap.size 33 (arr C) from by rw [← hU2]; exact HN2.out.row (arr C))
    have e1 : (U.alloc (.cells #[.int .i64 0, .int .i64 0, .int .i64 0, .int .i64 0, .int .i64 0, .int .i64 0, .int .i64 0, .int .i64 0, .int .i64 0, .int .i64 0, .int .i64 0, .int .i64 0, .int .i64 0, .int .i64 0, .int .i64 0, .int .i64 0] 33)).setRow U.heap.size (arr C) = U2 := hU2
    have E1 := Lib.hid e1
    clear hU2 e1
    gi_wp2_with (refine wpListIn_store_row rfl 33 (.tmp 7) (.tmp 17) rfl U.heap.size (arr C) rfl rfl 33 _ HN2.out HIs.out HOs.out (arr_one _) ?_; rw [E1.out])
    exact hK _ _ (keepsFrom_below HB.out) (HB.out.mono HI.out.bl.size) (HI.out.below HB.out) ⟨U.heap.size, ⟨hUz, hbk2.out⟩, rfl⟩
  case body =>
    rintro l pre x a' U hl ⟨r, hr⟩ hC ⟨Bc, ⟨hBc, hCh⟩, rfl⟩ hlen
    have HW := Lib.hid (differing_any w.heap.size Bc s (chV x) HL (Lib.hid (chV_len x)) HFs.out (chV_figs' x) U hC.bs hCh)
    have hok := mendL_ok s pre
    have hst := mendL_snoc s pre x
    have hdb := difTo_bd s (chV x) 16
    unfold mendS at hst
    obtain ⟨c0, c1, c2, c3, c4, c5, c6, c7, c8, c9, c10, c11, c12, c13, c14, c15, hCC⟩ := list16 (chV_len x)
    obtain ⟨M, hMM⟩ : ∃ M, nibs (x : Int) = M := ⟨_, rfl⟩
    rw [hCC] at HW hst hdb hCh
    rw [hCC, hMM]
    obtain ⟨D, hD⟩ : ∃ D, difTo s [c0, c1, c2, c3, c4, c5, c6, c7, c8, c9, c10, c11, c12, c13, c14, c15] 16 = D := ⟨_, rfl⟩
    rw [hD] at HW hst hdb
    obtain ⟨bn, bs, b2, bl⟩ := hC
    obtain ⟨P, hP⟩ : ∃ P, mendL s (pre ++ [x]) = P := ⟨_, rfl⟩
    obtain ⟨⟨q, k, R⟩, hQ⟩ : ∃ Q, mendL s pre = Q := ⟨_, rfl⟩
    rw [hQ] at hok hst bn
    simp only at hok hst
    have HP := Lib.hid hP
    rw [hP] at hst
    have HST := Lib.hid hst
    have HBN := Lib.hid bn
    have HBS := Lib.hid bs
    have HB2 := Lib.hid b2
    have HCH := Lib.hid hCh
    obtain ⟨k0, k1, k2, k3⟩ := hok
    have HK3 := Lib.hid k3
    have hk6 : (k : Int) < 65536 := by omega
    have hwk : IntKind.i64.wrap ((k : Int) + 1) = (k : Int) + 1 := wraps_i64_62 _ (by omega) (by omega)
    have HLk := Lib.hid hk6
    obtain ⟨d0, d1⟩ := hdb
    clear hQ hP hst hCC hMM hD bn bs b2 hCh hlen hk6 k3 k2
    gi_wp2_with fail
    refine ⟨trivial, ?_⟩
    refine (CallsIn.inRound l (callsIn_wide.2 HW.out)).mono ?_
    rintro e w' ⟨rfl, t, rfl⟩
    have hk0 : KeepsOthers U (U.drewN t) := ⟨Nat.le_refl _, fun _ _ h _ => h⟩
    have hb0 : Below w.heap.size U (U.drewN t) := below_drewN (Below.refl _ _) t
    have hbl : Below w.heap.size w (U.drewN t) := below_drewN bl t
    have HN1 : Hid (Blk (U.drewN t) w4.heap.size 43 (arr (repL (q, k, R)))) := HBN
    have HS1 : Hid (Blk (U.drewN t) w.heap.size 33 (arr s)) := HBS
    have HR1 : Hid (Blk (U.drewN t) (w.heap.size + 1) 43 (arr (List.replicate 18 0))) := HB2
    have HC1 : Hid (Blk (U.drewN t) Bc 33 (arr [c0, c1, c2, c3, c4, c5, c6, c7, c8, c9, c10, c11, c12, c13, c14, c15])) := HCH
    generalize U.drewN t = U1 at hk0 hb0 hbl HN1 HS1 HR1 HC1 ⊢
    have cq : U1.cell? ⟨w4.heap.size, 0, none⟩ = some (.int .i64 q) := HN1.out.cell 0
    have ck : U1.cell? ⟨w4.heap.size, 1, none⟩ = some (.int .i64 k) := HN1.out.cell 1
    have fk := HN1.out.frozen 1
    clear HBN HBS HB2 HCH HW bl
    by_cases hlt : D < q
    · have HI : Hid (Ms w s w4.heap.size (pre ++ [x]) (U1.setRow w4.heap.size (arr (repL (D, 1, [c0, c1, c2, c3, c4, c5, c6, c7, c8, c9, c10, c11, c12, c13, c14, c15]))))) := by
        have e := HST.out
        rw [if_pos hlt] at e
        exact ⟨by rw [HP.out, e]; exact HN1.out.row _, blk_rowFar HS1.out (by omega) _, blk_rowFar HR1.out (by omega) _, below_setRow hbl (by omega) _⟩
      have HKr := Lib.hid (keeps_row (ds := arr (repL (D, 1, [c0, c1, c2, c3, c4, c5, c6, c7, c8, c9, c10, c11, c12, c13, c14, c15]))) HN1.out)
      have HBr := Lib.hid (show Below w.heap.size U1 (U1.setRow w4.heap.size (arr (repL (D, 1, [c0, c1, c2, c3, c4, c5, c6, c7, c8, c9, c10, c11, c12, c13, c14, c15])))) from below_setRow (Below.refl _ _) (by omega) _)
      have HOr := Lib.hid (show (arr (repL (q, k, R))).size = (arr (repL (D, 1, [c0, c1, c2, c3, c4, c5, c6, c7, c8, c9, c10, c11, c12, c13, c14, c15]))).size by rw [arr_size, arr_size, repL_len HK3.out]; rfl)
      have y1 : decide (D < q) = true := by simpa using hlt
      clear hlt HST
      gi_wp2_with (first
        | (refine wpListIn_load_row rfl 33 (.tmp 7) rfl Bc rfl 33 #[.int .i64 c0, .int .i64 c1, .int .i64 c2, .int .i64 c3, .int .i64 c4, .int .i64 c5, .int .i64 c6, .int .i64 c7, .int .i64 c8, .int .i64 c9, .int .i64 c10, .int .i64 c11, .int .i64 c12, .int .i64 c13, .int .i64 c14, .int .i64 c15] (0, 0) _ HC1.out Tryd.underlying33 rfl info_shield ?_)
        | (refine wpListIn_store_row rfl 43 (.tmp 5) (.tmp 26) rfl w4.heap.size (arr (repL (D, 1, [c0, c1, c2, c3, c4, c5, c6, c7, c8, c9, c10, c11, c12, c13, c14, c15]))) rfl rfl 43 _ HN1.out info_rep HOr.out (arr_one _) ?_))
      exact ⟨(hk0.trans HKr.out).from _, hb0.trans HBr.out, HI.out⟩
    · have y1 : decide (D < q) = false := by simpa using hlt
      by_cases heq : D = q
      · have HI : Hid (Ms w s w4.heap.size (pre ++ [x]) (U1.setCell ⟨w4.heap.size, 1, none⟩ (.int .i64 ((k : Int) + 1)))) := by
          have e := HST.out
          rw [if_neg hlt, if_pos heq] at e
          have h1 := HN1.out.set_ 1 (.int .i64 ((k : Int) + 1))
          rw [arr_set] at h1
          exact ⟨by rw [HP.out, e]; exact h1, HS1.out.far (by simp; omega) _, HR1.out.far (by simp; omega) _, hbl.setCell (p := ⟨w4.heap.size, 1, none⟩) (by simp; omega) _⟩
        have HKr := Lib.hid (KeepsOthers.setCell U1 ⟨w4.heap.size, 1, none⟩ (.int .i64 ((k : Int) + 1)))
        have HBr := Lib.hid (show Below w.heap.size U1 (U1.setCell ⟨w4.heap.size, 1, none⟩ (.int .i64 ((k : Int) + 1))) from (Below.refl _ _).setCell (p := ⟨w4.heap.size, 1, none⟩) (by simp; omega) _)
        have y2 : (D == q) = true := by simpa using heq
        have y3 : decide (D = q) = true := by simpa using heq
        clear hlt heq HST
        gi_wp2_with fail
        exact ⟨(hk0.trans HKr.out).from _, hb0.trans HBr.out, HI.out⟩
      · have HI : Hid (Ms w s w4.heap.size (pre ++ [x]) U1) := by
          have e := HST.out
          rw [if_neg hlt, if_neg heq] at e
          exact ⟨by rw [HP.out, e]; exact HN1.out, HS1.out, HR1.out, hbl⟩
        have y2 : (D == q) = false := by simpa using heq
        have y3 : decide (D = q) = false := by simpa using heq
        clear hlt heq HST
        gi_wp2_with fail
        exact ⟨hk0.from _, hb0, HI.out⟩
  case done =>
    rintro D ys U hD rfl hC hK
    have hGl := repL_len (mendL_ok s (upto id 65536)).2.2.2
    obtain ⟨G, hG⟩ : ∃ G, repL (mendL s (upto id 65536)) = G := ⟨_, rfl⟩
    obtain ⟨c1, c2, c3, c4⟩ := hC
    rw [hG] at c1 hGl
    have HE := Lib.hid hG
    have HGi := Lib.hid (show (Tryd.prog.info? 43).map (·.size) = some (arr G).size by rw [arr_size, hGl]; exact info_rep)
    have HGo := Lib.hid (show (arr (List.replicate 18 0)).size = (arr G).size by rw [arr_size, arr_size, hGl]; rfl)
    have HF := Lib.hid c1
    have HR := Lib.hid c3
    have HB := Lib.hid (show Below w.heap.size w (U.setRow (w.heap.size + 1) (arr G)) from below_setRow c4 (by omega) _)
    have HD := Lib.hid (show (U.setRow (w.heap.size + 1) (arr G)).heap[D]? = some (.deferred (some [])) from (keeps_row (ds := arr G) c3).same D _ hK rfl)
    have HX := Lib.hid (show Blk (U.setRow (w.heap.size + 1) (arr G)) (w.heap.size + 1) 43 (arr G) from Blk.row c3 _)
    clear hG c1 c2 c3 c4 hGl hK
    gi_wp2_with (first
      | (refine wpListIn_load_row rfl 43 (.tmp 5) rfl w4.heap.size rfl 43 (arr G) (0, 0) _ HF.out Tryd.underlying43 rfl HGi.out ?_)
      | (refine wpListIn_store_row rfl 43 (.tmp 2) (.tmp 36) rfl (w.heap.size + 1) (arr G) rfl rfl 43 _ HR.out HGi.out HGo.out (arr_one _) ?_))
    try gi_wp2
    refine ⟨by simp, .inl ⟨_, _, rfl, run_takeDeferred HD.out, ?_⟩⟩
    have hX2 : ((U.setRow (w.heap.size + 1) (arr G)).putObj D (.deferred none)).heap[w.heap.size + 1]? = some (.cells (arr G) 43 (0, 0)) := (World.putObj_heap_other (by have := hb5'.size; omega)).trans HX.out
    exact ⟨.tuple #[.agg (arr G), .int .i64 0], results_cell_slot rfl _ _ (w.heap.size + 1) 43 (arr G) (0, 0) _ rfl hX2 Tryd.underlying43 rfl HGi.out _ rfl, by rw [HE.out], HB.out.trans (belowK_b (w := w) (Nat.le_refl _) _ D _ _ (by have := hb5'.size; omega) HD.out rfl rfl)⟩
  case stop =>
    rintro D c pre U _ _ h _
    exact h.elim
end Go.Proofs.YthioojappmnnaaaDoor
