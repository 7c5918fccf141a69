/-
  The circle of houses: aspects.
-/
import Derived.Test.YtdnccdobnhbpeaaDoorHcC
namespace Go.Proofs.YtdnccdobnhbpeaaDoor
open Go Go.RowKit Go.Shelf Go.Maps Go.ChangeShapes
set_option linter.unusedVariables false
set_option linter.unusedSimpArgs false

theorem apartIn_run : ((List.range 12).all fun a => (List.range 12).all fun b => isI (Int.ofNat (apartN (a + 1) (b + 1))) (Ev.lstartT Tryd.prog 6 [] 2000 49 [.int .i64 (Int.ofNat (a + 1)), .int .i64 (Int.ofNat (b + 1))])) = true := by kernel_rfl
def apN (a b : Int) : Nat := apartN a.toNat b.toNat
theorem apartIn_any (a b : Int) (ha : Hou a) (hb : Hou b) (w : World) (hw : 6 ≤ w.heap.size) :
    Calls Tryd.prog 49 #[.int .i64 a, .int .i64 b] w fun e w' => e = .returned (.int .i64 (apN a b : Nat)) ∧ Below w.heap.size w w' := by
  obtain ⟨n, hn, rfl⟩ := hou_nat ha
  obtain ⟨m, hm, rfl⟩ := hou_nat hb
  have h := List.all_eq_true.1 (List.all_eq_true.1 apartIn_run n (List.mem_range.2 hn)) m (List.mem_range.2 hm)
  exact run_I follows_mixed h (by decide) hw no_tabs
theorem apN_le {a b : Int} (ha : Hou a) (hb : Hou b) : apN a b ≤ 6 := by
  obtain ⟨n, hn, rfl⟩ := hou_nat ha
  obtain ⟨m, hm, rfl⟩ := hou_nat hb
  unfold apN apartN
  simp only [Int.toNat_natCast, Int.ofNat_eq_natCast]
  omega
def isAsp (n : Nat) : Bool := n == 2 || n == 3 || n == 4 || n == 6
def asL (b : Int) (zs : List Int) : List T3 := (zs.filter fun x => isAsp (apN x b)).map fun x => (((apN x b : Nat) : Int), x, b)
theorem asL_yes {b x : Int} {zs : List Int} (h : isAsp (apN x b) = true) : asL b (zs ++ [x]) = asL b zs ++ [(((apN x b : Nat) : Int), x, b)] := by
  simp only [asL, List.filter_append, List.map_append, List.filter_cons, List.filter_nil, h]; simp
theorem asL_no {b x : Int} {zs : List Int} (h : isAsp (apN x b) = false) : asL b (zs ++ [x]) = asL b zs := by
  simp only [asL, List.filter_append, List.map_append, List.filter_cons, List.filter_nil, h]; simp
theorem asL_len (b : Int) (zs : List Int) : (asL b zs).length ≤ zs.length := by simp only [asL, List.length_map]; exact List.length_filter_le _ _
theorem info_asp : (Tryd.prog.info? 72).map (fun i => (i.zero, i.size, i.bytes)) = some (some (.agg #[.int .i64 0, .int .i64 0, .int .i64 0]), 3, 24) := by kernel_rfl
attribute [local go_sem] Oper.semAt_some
set_option maxRecDepth 100000 in
set_option maxHeartbeats 8000000 in
theorem aspects_in (cs : Array Value) (s : List Int) (mb : Nat) (hC : Circ cs s (some mb)) (a b : Int) (ha : Hou a) (hb : Hou b) (base : Nat) (Dm : DataW Unit) (w : World) (HG : Hid (w.ownsGroups Tryd.prog 22 base 3 .i64 mb 12 Dm)) (hAt : Hid (∀ f : Int, Dm.atKey (.int .i64 f) .nil = stD s f 12)) (hF : Fig (fg s a)) (hw6 : 6 ≤ w.heap.size) :
    CallsIn Fence.wide 6 Tryd.prog 42 #[.agg cs, .int .i64 a, .int .i64 b] w fun e w' => ∃ v, e = .returned v ∧ w'.ownsRow w.heap.size 72 3 v (asL b (standL s (fg s a) 12)).length (rowT (asL b (standL s (fg s a) 12))) ∧ Below w.heap.size w w' := by
  obtain ⟨i0, hi, hz0, hz1, hz2⟩ := info_parts info_asp
  have J3 := Blk.new w 84 cs
  have hB0 := below1 w (.cells cs 84)
  have HKEY := Lib.hid (show keyOf Tryd.prog 22 (.int .i64 (fg s a)) = some (.int .i64 (fg s a)) from keyOf_int_mk Tryd.underlying22 (by unfold Fig at hF; simp [Lit.wf, IntKind.min, IntKind.max, IntKind.signed, IntKind.bits]; omega))
  refine callsIn_of_wp_marks Tryd.func42 rfl trivial ?_ rfl
  simp only [Tryd.ntmps42, List.size_toArray, List.length_cons, List.length_nil, Nat.reduceAdd, Nat.reduceSub, Array.replicate_succ, Array.replicate_zero, List.push_toArray, List.append_toArray, List.nil_append, List.cons_append]
  gi_wp2_with fail
  refine wpIn_region_mono follows_mixedB [some 11, some 12, some 13, some 14, some 15, some 16, some 17, some 18] (by kernel_rfl) (MuR w.heap.size mb cs a (fg s a) base (standL s (fg s a) 12)) (MuR.stab _ _ _ _ _ _ _) ?step ?fin
  case step =>
    intro i hi a1 V FD
    have hi : i < 8 := hi
    have e : i = 0 ∨ i = 1 ∨ i = 2 ∨ i = 3 ∨ i = 4 ∨ i = 5 ∨ i = 6 ∨ i = 7 := by omega
    clear hi
    rcases e with rfl | rfl | rfl | rfl | rfl | rfl | rfl | rfl
    · have e3 : a1.tmps[3]?.getD undef = (.pointer (some ⟨w.heap.size, 0, none⟩)) := (FD.kept 3 (by kernel_rfl)).trans rfl
      refine wpOpIn_step rfl (fun K hK => ?_)
      refine Eq.mpr (if_pos (by rfl)) ?_
      go_simp
      exact hK _ _ ⟨_, rfl, rfl, Below.refl _ _⟩
    · have e11 : a1.tmps[11]?.getD undef = (.pointer (some ⟨w.heap.size, 12, none⟩)) := by
        obtain ⟨x, hx, ht⟩ := FD.dep 0 (by kernel_rfl)
        rw [ht 11 rfl]; exact hx
      refine wpOpIn_step rfl (fun K hK => ?_)
      refine Eq.mpr (if_pos (by rfl)) ?_
      have hc12 : V.cell? ⟨w.heap.size, 12, none⟩ = some (.map (some mb)) := ((J3.below FD.below J3.lt).cell 12).trans hC.map
      go_simp
      exact hK _ _ ⟨_, rfl, rfl, Below.refl _ _⟩
    · have e3 : a1.tmps[3]?.getD undef = (.pointer (some ⟨w.heap.size, 0, none⟩)) := (FD.kept 3 (by kernel_rfl)).trans rfl
      refine wpOpIn_step rfl (fun K hK => ?_)
      refine Eq.mpr (if_pos (by rfl)) ?_
      exact operIn_load_row 84 (.tmp 3) rfl w.heap.size (eval_tmp e3) 84 cs (0, 0) _ (J3.below FD.below J3.lt) Tryd.underlying84 rfl (circ_info hC) (hK _ _ ⟨_, rfl, rfl, Below.refl _ _⟩)
    · have e1 : a1.tmps[1]?.getD undef = (.int .i64 a) := (FD.kept 1 (by kernel_rfl)).trans rfl
      refine wpOpIn_step rfl (fun K hK => ?_)
      refine Eq.mpr (if_pos (by rfl)) ?_
      go_simp
      exact hK _ _ ⟨_, rfl, rfl, Below.refl _ _⟩
    · have e13 : a1.tmps[13]?.getD undef = (.agg cs) := by
        obtain ⟨x, hx, ht⟩ := FD.dep 2 (by kernel_rfl)
        rw [ht 13 rfl]; exact hx
      have e14 : a1.tmps[14]?.getD undef = (.int .i64 a) := by
        obtain ⟨x, hx, ht⟩ := FD.dep 3 (by kernel_rfl)
        rw [ht 14 rfl]; exact hx
      refine wpOpIn_step rfl (fun K hK => ?_)
      refine Eq.mpr (if_pos (by rfl)) ?_
      go_simp
      gi_wp2_with fail
      refine ⟨trivial, ?_⟩
      refine (callsIn_wide.2 (figureC_any cs s (some mb) hC a ha _)).mono ?_
      rintro e V2 ⟨rfl, hb2⟩
      exact hK _ _ ⟨_, rfl, rfl, hb2⟩
    · have e12 : a1.tmps[12]?.getD undef = (.map (some mb)) := by
        obtain ⟨x, hx, ht⟩ := FD.dep 1 (by kernel_rfl)
        rw [ht 12 rfl]; exact hx
      have e15 : a1.tmps[15]?.getD undef = (.int .i64 (fg s a)) := by
        obtain ⟨x, hx, ht⟩ := FD.dep 4 (by kernel_rfl)
        rw [ht 15 rfl]; exact hx
      refine wpOpIn_step rfl (fun K hK => ?_)
      refine Eq.mpr (if_pos (by rfl)) ?_
      refine operIn_lookup_groups (.tmp 12) (.tmp 15) 82 rfl 22 25 3 .i64 keyedF Tryd.underlying82 (zeroSI V) base mb 12 Dm (eval_tmp e12) (groups_kept HG.out (grown_of_below (hB0.trans (FD.below.mono hB0.size))) (fun r e => by cases e)) (by unfold maxLen; omega) (.int .i64 (fg s a)) (.int .i64 (fg s a)) (eval_tmp e15) HKEY.out ?_
      intro v zs hat hoi hzl
      exact hK _ _ ⟨_, rfl, ⟨zs, hoi, look_stand hoi (((hAt.out (fg s a)).symm.trans hat))⟩, Below.refl _ _⟩
    · obtain ⟨x20, ⟨zs, hoi, hzs⟩, ht20⟩ := FD.dep 5 (by kernel_rfl)
      have e20 := ht20 16 rfl
      obtain ⟨p20, c20, rfl, hr20⟩ := Got.of_owns hoi.1
      refine wpOpIn_step rfl (fun K hK => ?_)
      refine Eq.mpr (if_pos (by rfl)) ?_
      go_simp
      exact hK _ _ ⟨_, rfl, (by first | rfl | (rw [hzs]; rfl)), Below.refl _ _⟩
    · refine wpOpIn_step rfl (fun K hK => ?_)
      refine Eq.mpr (if_pos (by rfl)) ?_
      go_simp
      exact hK _ _ ⟨_, rfl, rfl, Below.refl _ _⟩
  case fin =>
    intro vv V hb3 hv
    have h0 : vv 0 = .pointer (some ⟨w.heap.size, 12, none⟩) := hv 0 (by decide)
    have h1 : vv 1 = .map (some mb) := hv 1 (by decide)
    have h2 : vv 2 = .agg cs := hv 2 (by decide)
    have h3 : vv 3 = .int .i64 a := hv 3 (by decide)
    have h4 : vv 4 = .int .i64 (fg s a) := hv 4 (by decide)
    obtain ⟨ys, hoi, hys⟩ : ∃ ys, V.ownsInts base 3 .i64 (vv 5) ys ∧ ys = standL s (fg s a) 12 := hv 5 (by decide)
    have h6 : vv 6 = .int .i64 ((standL s (fg s a) 12).length : Int) := hv 6 (by decide)
    have h7 : vv 7 = .int .i64 0 := hv 7 (by decide)
    have hzH : ∀ k, k < (standL s (fg s a) 12).length → Hou (nth (standL s (fg s a) 12) k) := standL_hou s (fg s a)
    have hzL := standL_len s (fg s a) 12
    obtain ⟨zs, hzs⟩ : ∃ zs, standL s (fg s a) 12 = zs := ⟨_, rfl⟩
    rw [hzs] at hys h6 hzH hzL
    have HZS := Lib.hid hzs
    have HZH := Lib.hid hzH
    subst hys
    have hoi1 := hoi.1
    obtain ⟨pz, cz, hvz, _⟩ := Got.of_owns hoi1
    simp only [finD, List.set_cons_succ, List.set_cons_zero, h0, h1, h2, h3, h4, h6, h7, hvz]
    rw [hvz] at hoi1
    have hBV := hB0.trans (hb3.mono hB0.size)
    clear h0 h1 h2 h3 h4 h6 h7 hzs hoi hvz hv hb3 J3 hB0 hzH HG HKEY
    obtain ⟨n, hn⟩ : ∃ n, ys.length = n := ⟨_, rfl⟩
    have HNL := Lib.hid hn
    have hnI : (n : Int) ≤ 12 := by omega
    rw [hn] at hoi1 hzL ⊢
    clear hn
    gi_wp2
    refine wpIn_loop (fun ac W => ∃ (k : Nat) (u7 u9 u10 u19 u20 u21 u22 u23 u24 u25 u26 u27 u28 u29 u30 u31 u32 u33 u34 u35 u36 u37 u38 : Value), k ≤ n ∧ W.ownsRow w.heap.size 72 3 u7 (asL b (ys.take k)).length (rowT (asL b (ys.take k))) ∧ Below w.heap.size w W ∧ W.ownsRow base 3 1 (.slice pz n cz) n (ys.map (Value.int .i64)) ∧ ac = { tmps := #[.agg cs, .int .i64 a, .int .i64 b, .pointer (some ⟨w.heap.size, 0, none⟩), undef, undef, .slice none 0 0, u7, undef, u9, u10, .pointer (some ⟨w.heap.size, 12, none⟩), .map (some mb), .agg cs, .int .i64 a, .int .i64 (fg s a), .slice pz n cz, .int .i64 (n : Int), .int .i64 (k : Int), u19, u20, u21, u22, u23, u24, u25, u26, u27, u28, u29, u30, u31, u32, u33, u34, u35, u36, u37, u38, undef], defers := [] }) (fun ac W => n - (intOf (ac.tmps.getD 18 undef)).toNat) ?start ?round
    case start => exact ⟨0, .slice none 0 0, undef, undef, undef, undef, undef, undef, undef, undef, undef, undef, undef, undef, undef, undef, undef, undef, undef, undef, undef, undef, undef, undef, Nat.zero_le _, World.ownsRow_nil _ _ _ _, hBV, hoi1, rfl⟩
    case round =>
      rintro ac wr ⟨k, u7, u9, u10, u19, u20, u21, u22, u23, u24, u25, u26, u27, u28, u29, u30, u31, u32, u33, u34, u35, u36, u37, u38, hk, hrw, hbl, hvz, rfl⟩
      by_cases hlt : k < n
      · have hlt2 : k < ys.length := by rw [HNL.out]; exact hlt
        have hvzL : wr.ownsRow base 3 1 (.slice pz n cz) ys.length (ys.map (Value.int .i64)) := by rw [HNL.out]; exact hvz
        obtain ⟨pz2, cz2, hvz2, hRz⟩ := Got.of_owns hvzL
        simp only [Value.slice.injEq] at hvz2
        obtain ⟨rfl, hnn, rfl⟩ := hvz2
        clear hnn
        obtain ⟨q, o, rfl, hcz⟩ := hRz k hlt2
        have hxh := HZH.out k hlt2
        have hki : (k : Int) < (n : Int) := by omega
        have hwk : IntKind.i64.wrap ((k : Int) + 1) = ((k + 1 : Nat) : Int) := IntWalk.i64_in _ (by omega)
        have HTK := Lib.hid (take_succ hlt2)
        have hTb := asL_len b (ys.take k)
        rw [List.length_take] at hTb
        obtain ⟨x, hx⟩ : ∃ x, nth ys k = x := ⟨_, rfl⟩
        rw [hx] at hcz hxh HTK
        obtain ⟨T, hT⟩ : ∃ T, asL b (ys.take k) = T := ⟨_, rfl⟩
        rw [hT] at hrw hTb
        have HT := Lib.hid hT
        have hTb2 : T.length ≤ 12 := by omega
        have hw6r := Nat.le_trans hw6 hbl.size
        clear hx hT hRz hvzL hTb hoi1 hBV hlt2
        gi_wp2_with fail
        refine ⟨trivial, ?_⟩
        refine (callsIn_wide.2 (apartIn_any x b hxh hb wr hw6r)).mono ?_
        rintro e w2 ⟨rfl, hb2⟩
        have hbl2 := hbl.trans (hb2.mono hbl.size)
        have hrw2 := ownsRow_keptB hrw (grown_of_below hb2) (fun r e => by cases e)
        have hvz2 := ownsRow_keptB hvz (grown_of_below hb2) (fun r e => by cases e)
        have hd6 := apN_le hxh hb
        have hsz2 := hbl2.size
        obtain ⟨d, hd⟩ : ∃ d, apN x b = d := ⟨_, rfl⟩
        have HD := Lib.hid hd
        rw [hd] at hd6 ⊢
        clear hd hrw hvz hb2 hbl hcz
        have e : d = 0 ∨ d = 1 ∨ d = 2 ∨ d = 3 ∨ d = 4 ∨ d = 5 ∨ d = 6 := by omega
        rcases e with rfl | rfl | rfl | rfl | rfl | rfl | rfl
        · have HI := Lib.hid (show isAsp (apN x b) = false by rw [HD.out]; rfl)
          have HN := Lib.hid (asL_no (zs := ys.take k) HI.out)
          gi_wp2
          refine ⟨⟨k + 1, _, _, _, _, _, _, _, _, _, _, _, _, _, _, _, _, _, _, _, _, _, _, _, by omega, by rw [HTK.out, HN.out, HT.out]; exact hrw2, hbl2, hvz2, rfl⟩, ?_⟩
          simp [intOf]; omega
        · have HI := Lib.hid (show isAsp (apN x b) = false by rw [HD.out]; rfl)
          have HN := Lib.hid (asL_no (zs := ys.take k) HI.out)
          gi_wp2
          refine ⟨⟨k + 1, _, _, _, _, _, _, _, _, _, _, _, _, _, _, _, _, _, _, _, _, _, _, _, by omega, by rw [HTK.out, HN.out, HT.out]; exact hrw2, hbl2, hvz2, rfl⟩, ?_⟩
          simp [intOf]; omega
        · have HI := Lib.hid (show isAsp (apN x b) = true by rw [HD.out]; rfl)
          have HN := Lib.hid (asL_yes (zs := ys.take k) HI.out)
          gi_wp2_with (gi_at_builtin; refine wpListIn_append_own _ rfl _ _ 43 rfl w.heap.size 72 i0 (.agg #[.int .i64 0, .int .i64 0, .int .i64 0]) 3 24 Tryd.underlying43 hi hz0 hz1 hz2 rfl (by decide) _ _ _ rfl (hrw2.alloc _) ⟨w2.heap.size, 0, none⟩ 1 1 [.int .i64 2, .int .i64 x, .int .i64 b] rfl rfl (cell_three_new _ _ _ _ _) (by simp [Value.oneCell']) (by unfold maxLen; omega) (by omega) (by simp; omega) ?_)
          intro v' w4 hown' hgrow _
          have hq4 : ∀ j, u7.ownBlock = some j → w.heap.size ≤ j := owns_base hrw2
          have hvz4 := (hvz2.alloc (.cells #[.int .i64 2, .int .i64 x, .int .i64 b] 72)).kept hgrow (own_ne hvz2 hrw2 (by decide))
          have hbl4 := (hbl2.alloc hbl2.size (.cells #[.int .i64 2, .int .i64 x, .int .i64 b] 72)).grown hgrow (by simp; omega) hq4
          gi_wp2
          refine ⟨⟨k + 1, _, _, _, _, _, _, _, _, _, _, _, _, _, _, _, _, _, _, _, _, _, _, _, by omega, by rw [HTK.out, HN.out, HT.out, HD.out, rowT_snoc, List.length_append]; exact hown', hbl4, hvz4, rfl⟩, ?_⟩
          simp [intOf]; omega
        · have HI := Lib.hid (show isAsp (apN x b) = true by rw [HD.out]; rfl)
          have HN := Lib.hid (asL_yes (zs := ys.take k) HI.out)
          gi_wp2_with (gi_at_builtin; refine wpListIn_append_own _ rfl _ _ 43 rfl w.heap.size 72 i0 (.agg #[.int .i64 0, .int .i64 0, .int .i64 0]) 3 24 Tryd.underlying43 hi hz0 hz1 hz2 rfl (by decide) _ _ _ rfl (hrw2.alloc _) ⟨w2.heap.size, 0, none⟩ 1 1 [.int .i64 3, .int .i64 x, .int .i64 b] rfl rfl (cell_three_new _ _ _ _ _) (by simp [Value.oneCell']) (by unfold maxLen; omega) (by omega) (by simp; omega) ?_)
          intro v' w4 hown' hgrow _
          have hq4 : ∀ j, u7.ownBlock = some j → w.heap.size ≤ j := owns_base hrw2
          have hvz4 := (hvz2.alloc (.cells #[.int .i64 3, .int .i64 x, .int .i64 b] 72)).kept hgrow (own_ne hvz2 hrw2 (by decide))
          have hbl4 := (hbl2.alloc hbl2.size (.cells #[.int .i64 3, .int .i64 x, .int .i64 b] 72)).grown hgrow (by simp; omega) hq4
          gi_wp2
          refine ⟨⟨k + 1, _, _, _, _, _, _, _, _, _, _, _, _, _, _, _, _, _, _, _, _, _, _, _, by omega, by rw [HTK.out, HN.out, HT.out, HD.out, rowT_snoc, List.length_append]; exact hown', hbl4, hvz4, rfl⟩, ?_⟩
          simp [intOf]; omega
        · have HI := Lib.hid (show isAsp (apN x b) = true by rw [HD.out]; rfl)
          have HN := Lib.hid (asL_yes (zs := ys.take k) HI.out)
          gi_wp2_with (gi_at_builtin; refine wpListIn_append_own _ rfl _ _ 43 rfl w.heap.size 72 i0 (.agg #[.int .i64 0, .int .i64 0, .int .i64 0]) 3 24 Tryd.underlying43 hi hz0 hz1 hz2 rfl (by decide) _ _ _ rfl (hrw2.alloc _) ⟨w2.heap.size, 0, none⟩ 1 1 [.int .i64 4, .int .i64 x, .int .i64 b] rfl rfl (cell_three_new _ _ _ _ _) (by simp [Value.oneCell']) (by unfold maxLen; omega) (by omega) (by simp; omega) ?_)
          intro v' w4 hown' hgrow _
          have hq4 : ∀ j, u7.ownBlock = some j → w.heap.size ≤ j := owns_base hrw2
          have hvz4 := (hvz2.alloc (.cells #[.int .i64 4, .int .i64 x, .int .i64 b] 72)).kept hgrow (own_ne hvz2 hrw2 (by decide))
          have hbl4 := (hbl2.alloc hbl2.size (.cells #[.int .i64 4, .int .i64 x, .int .i64 b] 72)).grown hgrow (by simp; omega) hq4
          gi_wp2
          refine ⟨⟨k + 1, _, _, _, _, _, _, _, _, _, _, _, _, _, _, _, _, _, _, _, _, _, _, _, by omega, by rw [HTK.out, HN.out, HT.out, HD.out, rowT_snoc, List.length_append]; exact hown', hbl4, hvz4, rfl⟩, ?_⟩
          simp [intOf]; omega
        · have HI := Lib.hid (show isAsp (apN x b) = false by rw [HD.out]; rfl)
          have HN := Lib.hid (asL_no (zs := ys.take k) HI.out)
          gi_wp2
          refine ⟨⟨k + 1, _, _, _, _, _, _, _, _, _, _, _, _, _, _, _, _, _, _, _, _, _, _, _, by omega, by rw [HTK.out, HN.out, HT.out]; exact hrw2, hbl2, hvz2, rfl⟩, ?_⟩
          simp [intOf]; omega
        · have HI := Lib.hid (show isAsp (apN x b) = true by rw [HD.out]; rfl)
          have HN := Lib.hid (asL_yes (zs := ys.take k) HI.out)
          gi_wp2_with (gi_at_builtin; refine wpListIn_append_own _ rfl _ _ 43 rfl w.heap.size 72 i0 (.agg #[.int .i64 0, .int .i64 0, .int .i64 0]) 3 24 Tryd.underlying43 hi hz0 hz1 hz2 rfl (by decide) _ _ _ rfl (hrw2.alloc _) ⟨w2.heap.size, 0, none⟩ 1 1 [.int .i64 6, .int .i64 x, .int .i64 b] rfl rfl (cell_three_new _ _ _ _ _) (by simp [Value.oneCell']) (by unfold maxLen; omega) (by omega) (by simp; omega) ?_)
          intro v' w4 hown' hgrow _
          have hq4 : ∀ j, u7.ownBlock = some j → w.heap.size ≤ j := owns_base hrw2
          have hvz4 := (hvz2.alloc (.cells #[.int .i64 6, .int .i64 x, .int .i64 b] 72)).kept hgrow (own_ne hvz2 hrw2 (by decide))
          have hbl4 := (hbl2.alloc hbl2.size (.cells #[.int .i64 6, .int .i64 x, .int .i64 b] 72)).grown hgrow (by simp; omega) hq4
          gi_wp2
          refine ⟨⟨k + 1, _, _, _, _, _, _, _, _, _, _, _, _, _, _, _, _, _, _, _, _, _, _, _, by omega, by rw [HTK.out, HN.out, HT.out, HD.out, rowT_snoc, List.length_append]; exact hown', hbl4, hvz4, rfl⟩, ?_⟩
          simp [intOf]; omega
      · have hkn : n = k := by omega
        subst hkn
        rw [List.take_of_length_le (Nat.le_of_eq HNL.out)] at hrw
        have hki : ¬ ((n : Int) < (n : Int)) := by omega
        clear hoi1 hvz
        gi_wp2
        exact ⟨_, results_tmp rfl _ _ _, u7, rfl, by rw [HZS.out]; exact hrw, hbl⟩
end Go.Proofs.YtdnccdobnhbpeaaDoor
