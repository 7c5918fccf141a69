/-
  The walk of Mix of package odds where nothing is refused.
-/
import Derived.Test.YtnpnnfbmnlgioaaP
namespace Go.Proofs.Ytnpnnfbmnlgioaa
open Go.RowKit Go.Maps

theorem total_mix (g : Nat) (xs : List Int) (n : Nat) (w : World) (hn : n ≤ 4096) (hs : Small xs) (hl : xs.length = n) (hR : Reads w (some ⟨g, 0, none⟩) xs) :
    Calls Try.prog 44 #[.slice (some ⟨g, 0, none⟩) n n] w fun e W' => e = .returned (.int .i64 (lsum xs)) ∧ Below w.heap.size w W' := by
  subst hl
  exact total_any _ xs _ w hn hs hR

set_option maxRecDepth 100000 in
set_option maxHeartbeats 8000000 in
theorem mix_ok (p : Option Addr) (c0 : List Int) (c : Nat) (q o : Nat) (ls : List (List Int)) (cl : Nat) (w : World) (n : Nat) (hn : n ≤ 4096) (hll : ls.length = c0.length) (hR : Reads w p c0) (hL : ReadsL w (some ⟨q, o, none⟩) ls) (h0 : chk1 c0 = 0) (h1 : chkL ls = 0)
    (hv : ∀ j, j < ls.length → (nthL ls j).length = n) (cs : List Int) (hcs : cs = low c0) (L : Int) (hLd : L = lcmTo cs ls cs.length) (hL2 : L ≤ 1000000000000000) (hCL : lsum cs ≤ 1000000000000000 / L) (hne : 1 ≤ ls.length) (hvv : ∀ j, j < ls.length → chk1 (nthL ls j) = 0) :
    Calls Try.prog 17 #[.slice p c0.length c, .slice (some ⟨q, o, none⟩) ls.length cl] w fun e w' => ∃ g, e = .returned (.tuple #[.slice (some ⟨g, 0, none⟩) n n, .int .i64 0]) ∧ Reads w' (some ⟨g, 0, none⟩) (low (mixL cs ls n)) ∧ Below w.heap.size w w' := by
  obtain ⟨i0, hi, hz0, hz1, hz2⟩ := info_parts (show (Try.prog.info? 3).map (fun i => (i.zero, i.size, i.bytes)) = some (some (.int .i64 0), 1, 8) by kernel_rfl)
  obtain ⟨a1, a2, a3, a4⟩ := chk1_ok h0
  obtain ⟨l1, l2, l3, l4⟩ := low_facts a2 a3
  rw [← hcs] at l2 l3 l4
  have hcl : cs.length = c0.length := by rw [hcs, low_length]
  have hvx : ∀ j, j < ls.length → Small (low (nthL ls j)) ∧ 1 ≤ lsum (low (nthL ls j)) := fun j hj => by
    obtain ⟨x1, x2, x3, x4⟩ := chk1_ok (hvv j hj)
    have := low_facts x2 x3
    exact ⟨this.2.1, this.2.2.1⟩
  have hvy : ∀ j, j < cs.length → Small (low (nthL ls j)) ∧ 1 ≤ lsum (low (nthL ls j)) ∧ (nthL ls j).length = n := fun j hj => ⟨(hvx j (by omega)).1, (hvx j (by omega)).2, hv j (by omega)⟩
  obtain ⟨L1, L3, _⟩ := lcmTo_facts (cs := cs) (ls := ls) (k := cs.length) fun j hj _ => (hvy j hj).2.1
  rw [← hLd] at L1 L3
  have hCL2 := (le_div L1).1 hCL
  obtain ⟨M1, M2⟩ := mix_facts l2 l3 hvy (by rw [← hLd]; exact hCL2)
  have hMl : (mixL cs ls n).length = n := tab_length _ _
  obtain ⟨m1, m2, m3, m4⟩ := low_facts M1 M2
  have hbd : ∀ (left : Nat → Bool) k, 0 ≤ mixF cs ls L left cs.length k ∧ mixF cs ls L left cs.length k ≤ 1000000000000000 := fun left k => by
    have := mixF_bd (cs := cs) (ls := ls) (L := L) (left := left) (m := cs.length) l2.pos (by omega) (fun j hj => ⟨(hvy j hj).1, (hvy j hj).2.1⟩) (Nat.le_refl _) k
    rw [psum_all] at this
    omega
  have hmD : mixL cs ls n = tab n fun k => mixF cs ls L (fun _ => false) cs.length k := by unfold mixL; rw [← hLd]
  rw [hcl] at hmD L3 hLd
  have hbd' : ∀ (left : Nat → Bool) k, 0 ≤ mixF cs ls L left c0.length k ∧ mixF cs ls L left c0.length k ≤ 1000000000000000 := fun left k => by have := hbd left k; rwa [hcl] at this
  have HmD := Lib.hid hmD
  have Hbd := Lib.hid hbd'
  have HL3 := Lib.hid L3
  have Hvx := Lib.hid hvx
  have Hvv := Lib.hid hvv
  have Hv := Lib.hid hv
  have H0 := Lib.hid h0
  have H1 := Lib.hid h1
  have Hcs : Hid (c0.map (· / gcdl c0) = cs) := hcs.symm
  have Hcl := Lib.hid hcl
  have Hll := Lib.hid hll
  have HLd := Lib.hid hLd
  have HMl := Lib.hid hMl
  clear h0 h1 hcs hcl hll hLd hmD hbd hbd' L3 hvx hvy hvv hv hMl
  go_enter Try.func17, Try.ntmps17
  go_wp2_with fail
  go_call (checkMix_ok p c0 c q o ls cl w n (by omega) (by omega) Hll.out hR hL H0.out H1.out Hv.out) as e w1 ⟨rfl, hb1⟩
  go_wp2_with fail
  go_call (lowest_any p c0 c w1 a1 a2 l1 (hR.below hb1 (Nat.le_refl _))) as e w2 ⟨gc, rfl, hrowc, hb2⟩
  rw [Hcs.out] at hrowc
  have hRc := hrowc.reads
  go_wp2_with fail
  have hT := canBeChosen_any (some ⟨gc, 0, none⟩) cs cs.length (some ⟨q, o, none⟩) ls cl w2 (by rw [Hcl.out]; exact a1) (by rw [Hcl.out]; exact Hll.out) hRc (hL.below (tr hb1 hb2) (Nat.le_refl _)) Hvv.out
  rw [Hcl.out] at hT
  refine hT.mono ?_
  rintro e w3 ⟨b, D, rfl, hbge, hown, hch, hb3⟩
  clear hT
  have hsz12 := tr hb1 hb2
  go_wp2_with fail
  go_call (commonSum_any b c0.length cs ls D w3 hown hch (fun j hj => Hvv.out j (by have := Hll.out; omega))) as e w4 ⟨hcp, hb4⟩
  have he := hcp.1 (by rw [← HLd.out]; exact hL2)
  rw [← HLd.out] at he
  subst he
  clear hcp
  have hown4 := hown.kept (grown_of_below hb4) (by simp)
  have hch4 := hch.below hb4 (Nat.le_refl _)
  have hRc4 := hRc.below (tr hb3 hb4) (Nat.le_refl _)
  go_wp2_with fail
  have hT := total_any (some ⟨gc, 0, none⟩) cs cs.length w4 (by rw [Hcl.out]; exact a1) l2 hRc4
  rw [Hcl.out] at hT
  refine hT.mono ?_
  rintro e w5 ⟨rfl, hb5⟩
  clear hT
  go_wp2_with fail
  go_call (product_ok (lsum cs) L w5 (by omega) L1 hCL) as e w' ⟨rfl, rfl⟩
  have hown5 := hown4.kept (grown_of_below hb5) (by simp)
  have hch5 := hch4.below hb5 (Nat.le_refl _)
  have hRc5 := hRc4.below hb5 (Nat.le_refl _)
  have hb15 := tr hsz12 (tr hb3 (tr hb4 hb5))
  have hbB : b < w5.heap.size := hown5.lt
  obtain ⟨q1, o1, e1, r1, c1, hc1, _⟩ := hL.below hb15 (Nat.le_refl _) 0 (by omega)
  cases e1
  rw [Nat.add_zero, Hv.out 0 (by omega)] at hc1
  clear hb1 hb2 hb3 hb4 hb5 hown hch hown4 hch4 hRc hRc4 hrowc hsz12 hbge
  have hlp : (0 : Int) < (ls.length : Int) := by omega
  go_wp2_with (at_make; refine wpList_make_full _ rfl _ _ 34 rfl w5.heap.size 3 i0 (.int .i64 0) 1 Try.underlying34 hi hz0 hz1 .i64 .i64 _ _ n rfl rfl rfl rfl ?c1 ?c2 ?c3 ?_)
  case c1 => rw [hz2]; omega
  case c2 => unfold maxLen; omega
  case c3 => exact Nat.le_refl _
  intro w6 hownr hgr
  have hrow := Row.made hownr
  have hb6 : Below w5.heap.size w5 w6 := (Below.refl _ w5).grown hgr (Nat.le_refl _) (fun k e => by cases e)
  have hown6 := hown5.kept (grown_of_below hb6) (by simp)
  clear hownr hgr hown5
  obtain ⟨g, hg⟩ : ∃ g, w5.heap.size = g := ⟨_, rfl⟩
  rw [hg] at hrow ⊢
  have Hg := Lib.hid hg
  clear hg
  go_wp2_with (at_range; refine wpList_range_own _ rfl _ 72 rfl 3 34 keyedI Try.underlying72 RS b c0.length D rfl hown6 ?_; intro w7 hrg7 hg7 hs7)
  have hb7 : Below w5.heap.size w5 w7 := hb6.grown hg7 hb6.size (fun k e => by cases e)
  have hrow7 : Row w7 g g n (List.replicate n 0) := ⟨hrow.1, hrow.2.kept hg7 (Or.inr (by simp [Value.ownBlock]))⟩
  have hgl := hrow.lt.2
  obtain ⟨r, hr⟩ : ∃ r, w6.heap.size = r := ⟨_, rfl⟩
  rw [hr] at hrg7 hgl ⊢
  have Hr := Lib.hid hr
  clear hr hb6 hg7 hs7 hrow hown6
  have hbg : b < g := by have := Hg.out; omega
  have hg5 : w5.heap.size ≤ g := by have := Hg.out; omega
  go_frame
  go_loopw [13] (fun _ wr => ∃ (left : Lit → Bool) (cnt : Nat), wr.ranges Try.prog 3 RS b r c0.length D left cnt ∧ Row wr g g n (tab n (mixF cs ls L (fun j => left (.int .i64 (j : Int))) c0.length)) ∧ Hid (∀ kl, left kl = true → has D kl = true) ∧ Below w5.heap.size w5 wr)
    (fun _ wr => wr.rangeLeft b r)
  case atStart =>
    refine ⟨_, _, hrg7, ?_, (fun kl h => h), hb7⟩
    have e : tab n (mixF cs ls L (fun j => has D (.int .i64 (j : Int))) c0.length) = List.replicate n 0 := by
      rw [← tab_zero]
      exact tab_congr fun k _ => mixF_none (fun j hj hp => (hch5.yes j hj hp).1) k
    rw [e]; exact hrow7
  case round =>
    obtain ⟨left, cnt, hrg, hrw, Hleft, hb⟩ := hrel
    go_wp2_with (at_next; refine wpList_next_ranges _ rfl _ rfl 3 keyedI RS (Value.int .i64) (fun c : Addr × Nat × Nat => .slice (some c.1) c.2.1 c.2.2) (fun key kl hkey => by obtain ⟨x, rfl, _⟩ := Maps.keyOf_int_inv Try.underlying3 hkey; exact ⟨x, rfl⟩) RS_inv b r c0.length D _ _ rfl hrg ?_ ?_)
    · intro _ hl0
      have e : tab n (mixF cs ls L (fun j => left (.int .i64 (j : Int))) c0.length) = mixL cs ls n := by
        rw [HmD.out]
        exact tab_congr fun k _ => mixF_congr (fun j _ _ => hl0 _) k
      rw [e] at hrw
      have hT := lowest_any (some ⟨g, 0, none⟩) (mixL cs ls n) n wr (by rw [HMl.out]; exact hn) M1 m1 hrw.reads
      rw [HMl.out] at hT
      have hBf := tr hb15 hb
      clear hrg hl0 e hrw
      go_wp2_with fail
      go_call hT as e w8 ⟨g8, rfl, hrow8, hb8⟩
      go_wp2
      go_ret2
      exact ⟨g8, rfl, hrow8.reads, tr hBf hb8⟩
    · intro x ca cn cc kl y1 y2 w8 cnt1 hkey hlk hy hat hrg1 hlt hg1 hs1 hen
      obtain ⟨j, gj, hj, rfl, rfl, hp, hcc, hrd⟩ := hch5.entry (c := (ca, cn, cc)) (y := (y1, y2)) hkey (Hleft.out _ hlk) hy hat
      cases hcc
      have hjl : j < ls.length := by have := Hll.out; omega
      obtain ⟨z2, z3⟩ := Hvx.out j hjl
      have hll := low_length (nthL ls j)
      rw [Hv.out j hjl] at hll hen ⊢
      have hb8 : Below w5.heap.size w5 w8 := hb.grown hg1 hb.size (fun k e => by cases e; omega)
      have hrd8 := hrd.below hb8 (Nat.le_refl _)
      have hrw8 : Row w8 g g n (tab n (mixF cs ls L (fun j => left (.int .i64 (j : Int))) c0.length)) := ⟨hrw.1, hrw.2.kept hg1 (Or.inr (by simp [Value.ownBlock]; omega))⟩
      have Hlt : Hid (cnt1 < cnt) := hlt
      have Hlm : Hid (wr.rangeLeft b r = cnt) := hrg.left_eq
      have Hleft1 : Hid (∀ kl, (left kl && !kl.sameKey (.int .i64 (j : Int))) = true → has D kl = true) := fun kl hk => Hleft.out kl (by simp at hk; exact hk.1)
      have Hlkj : Hid (left (.int .i64 (j : Int)) = true) := hlk
      clear hkey hlk hy hat hg1 hs1 hlt hrg hrw hb
      have cc0 : 0 ≤ nth cs j := by omega
      obtain ⟨F, hF⟩ : ∃ F, F = mixF cs ls L (fun j => left (.int .i64 (j : Int))) c0.length := ⟨_, rfl⟩
      rw [← hF] at hrw8
      obtain ⟨t, ht⟩ : ∃ t, t = lsum (low (nthL ls j)) := ⟨_, rfl⟩
      rw [← ht] at z3
      have hLt0 : 0 ≤ L / t := Int.ediv_nonneg (by omega) (by omega)
      have hLt1 : L / t ≤ L := Int.ediv_le_self _ (by omega)
      have hone : ∀ k, mixOne cs ls L j k = nth cs j * (L / t) * nth (low (nthL ls j)) k := fun k => by rw [ht]; rfl
      have hnew : ∀ k, mixF cs ls L (fun i => left (.int .i64 (i : Int)) && !(Lit.int .i64 (i : Int)).sameKey (.int .i64 (j : Int))) c0.length k = F k + mixOne cs ls L j k := fun k => by
        rw [hF]
        refine mixF_step hj hp Hlkj.out (by simp [Lit.sameKey]) (fun i hi => ?_) k
        have hne : (Lit.int .i64 (i : Int)).sameKey (.int .i64 (j : Int)) = false := sameKey_ne (by simp; omega)
        simp [hne]
      have hFb : ∀ k, 0 ≤ F k := fun k => by rw [hF]; exact (Hbd.out _ k).1
      have hGb : ∀ k, F k + mixOne cs ls L j k ≤ 1000000000000000 := fun k => by rw [← hnew k]; exact (Hbd.out _ k).2
      have hO0 : ∀ k, 0 ≤ mixOne cs ls L j k := fun k => by rw [hone]; exact Int.mul_nonneg (Int.mul_nonneg cc0 hLt0) (z2.pos k)
      have hfac : nth cs j * (L / t) ≤ 1000000000000000 := by
        obtain ⟨k, hk, hk1⟩ := exists_pos (show 1 ≤ lsum (low (nthL ls j)) by omega)
        have h1 := hGb k
        have h2 := hFb k
        rw [hone] at h1
        have h3 : nth cs j * (L / t) * 1 ≤ nth cs j * (L / t) * nth (low (nthL ls j)) k := Int.mul_le_mul_of_nonneg_left hk1 (Int.mul_nonneg cc0 hLt0)
        omega
      have hfac0 : 0 ≤ nth cs j * (L / t) := Int.mul_nonneg cc0 hLt0
      have e1 : IntKind.i64.wrap (L.tdiv t) = L / t := wdiv (by omega) (by omega) z3
      have e2 : IntKind.i64.wrap (nth cs j * (L / t)) = nth cs j * (L / t) := IntWalk.i64_in _ (by omega)
      have E := Lib.hid (And.intro e1 e2)
      have Hnew := Lib.hid hnew
      have Hone := Lib.hid hone
      have HFb := Lib.hid hFb
      have HGb := Lib.hid hGb
      have HO0 := Lib.hid hO0
      have Ht := Lib.hid ht
      have HF := Lib.hid hF
      clear e1 e2 hnew hone hFb hGb hO0 ht hF
      have hcj := (hRc5.below hb8 (Nat.le_refl _)).at0 (k := j) (by rw [Hcl.out]; exact hj)
      have hj0 : (j : Int) < (c0.length : Int) := by omega
      have hzt : ¬ t = 0 := by omega
      go_wp2_with fail
      obtain ⟨e1, e2⟩ := E.out
      go_region_held3 (fun w' => w'.cell? ⟨gc, j, none⟩ = some (.int .i64 (nth cs j)) ∧ Below w8.heap.size w8 w')
        (first
          | exact ⟨hcj, (Below.refl _ _).drew⟩
          | assumption
          | exact ⟨cell_tr hbk (by exact hcj), tr (Below.drew (Below.refl w8.heap.size w8)) hbk⟩)
        (first | (go_at_call 44; refine (total_mix gj (low (nthL ls j)) n _ (by omega) z2 hll (hrd8.below (Below.drew (Below.refl w8.heap.size w8)) (Nat.le_refl _))).mono ?_; rintro e w' ⟨rfl, hbk⟩; rw [← Ht.out]))
      clear e1 e2
      rename_i hh
      obtain ⟨_, hbx⟩ := hh
      have hgw8 : g < w8.heap.size := hrw8.lt.2
      have hrg2 := hrg1.kept (grown_of_below hbx) (by simp) (by simp)
      have hrw2 := hrw8.kept hbx hgw8
      have hBw := hb8.trans (hbx.mono hb8.size)
      clear hrg1 hrw8 hb8 hbx hrd8 hcj
      go_wp2
      obtain ⟨wo, rfl⟩ : ∃ wo : World, wo = wr := ⟨_, rfl⟩
      go_loopw [70] (fun i wr => ∃ m : Nat, m ≤ n ∧ i = .int .i64 m ∧ wr.ranges Try.prog 3 RS b r c0.length D (fun z => left z && !z.sameKey (.int .i64 (j : Int))) cnt1 ∧ Row wr g g n (tab n (fun k => if k < m then F k + mixOne cs ls L j k else F k)) ∧ Below w5.heap.size w5 wr) (fun i _ => n - (intOf i).toNat)
      case atStart =>
        refine ⟨0, Nat.zero_le _, rfl, hrg2, ?_, hBw⟩
        rw [tab_congr (G := F) (fun k _ => by simp)]
        exact hrw2
      case round =>
        obtain ⟨m, hm, rfl, hrgm, hrwm, hbm⟩ := hrel
        by_cases hmt : m < n
        · have hcx := (hrd.below hbm (Nat.le_refl _)).at0 (k := m) (by rw [hll]; exact hmt)
          have hcr := hrwm.cell hmt
          have hfr := hrwm.frozen m
          rw [nth_tab _ hmt, if_neg (by omega)] at hcr
          have p0 := HO0.out m
          have p1 := HFb.out m
          have p2 := HGb.out m
          rw [Hone.out] at p0 p2
          have hmi : (m : Int) < (n : Int) := by omega
          have Hset := Lib.hid (hrwm.set m (F m + nth cs j * (L / t) * nth (low (nthL ls j)) m))
          have hrgs := hrgm.kept (set_grown _ g m (.int .i64 (F m + nth cs j * (L / t) * nth (low (nthL ls j)) m))) (by simp; omega) (by simp; omega)
          have Hrgs := Lib.hid hrgs
          clear hrgs
          go_wp2
          go_roundw
          case rel =>
            refine ⟨m + 1, by omega, by go_num, Hrgs.out, ?_, hbm.setCell (p := ⟨g, m, none⟩) hg5 _⟩
            have h := Hset.out
            rw [tab_set] at h
            rw [tab_congr (G := fun i => if i = m then F m + nth cs j * (L / t) * nth (low (nthL ls j)) m else if i < m then F i + mixOne cs ls L j i else F i) (fun k _ => by
              by_cases e : k = m
              · subst e; simp [Hone.out]
              · by_cases h1 : k < m
                · rw [if_pos (by omega), if_neg e, if_pos h1]
                · rw [if_neg (by omega), if_neg e, if_neg h1])]
            exact h
          case measure => simp [intOf]; omega
        · obtain rfl : m = n := by omega
          have hfin : tab m (fun k => if k < m then F k + mixOne cs ls L j k else F k) = tab m (mixF cs ls L (fun i => left (.int .i64 (i : Int)) && !(Lit.int .i64 (i : Int)).sameKey (.int .i64 (j : Int))) c0.length) :=
            tab_congr fun k hk => by rw [if_pos hk, Hnew.out]
          rw [hfin] at hrwm
          have Hle := Lib.hid hrgm.left_eq
          clear hfin
          go_wp2
          go_roundw
          case rel => exact ⟨_, cnt1, hrgm, hrwm, Hleft1, hbm⟩
          case measure => rw [Hle.out, Hlm.out]; exact Hlt.out
end Go.Proofs.Ytnpnnfbmnlgioaa
