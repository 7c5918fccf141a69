/-
  HabitDecks: the law's walk.
-/
import Derived.Test.YtahmhdjoaoldcaaHbBb
import Derived.Test.YtahmhdjoaoldcaaHbKnown
import Derived.Deep.RegionHeldLaw
import Derived.Deep.AppendLies
namespace Go.Proofs.Ytahmhdjoaoldcaa
open Go Go.RowKit
set_option linter.unusedVariables false
set_option linter.unusedSimpArgs false

set_option maxRecDepth 100000 in
theorem decks_out1 (nl : Nat) (pc pt : Option Addr) (cc ct : Nat) (after : Int) (w : World) :
    Calls Try.prog 4 #[.slice pc 0 cc, .int .u8 after, .slice pt nl ct] w fun e w' => e = .returned (.bool true) ∧ Below w.heap.size w w' := by
  go_enter Try.func4, Try.ntmps4
  go_wp2_with fail
  refine (known_any _).mono ?_
  rintro e w1 ⟨rfl, hb⟩
  go_wp2
  go_ret
  exact ⟨rfl, hb⟩
set_option maxRecDepth 100000 in
theorem decks_out2 (n nl : Nat) (h : 8 < n) (pc pt : Option Addr) (cc ct : Nat) (after : Int) (w : World) :
    Calls Try.prog 4 #[.slice pc n cc, .int .u8 after, .slice pt nl ct] w fun e w' => e = .returned (.bool true) ∧ Below w.heap.size w w' := by
  have i1 : (8 : Int) < (n : Int) := by omega
  have i2 : (1 : Int) ≤ (n : Int) := by omega
  go_enter Try.func4, Try.ntmps4
  go_wp2_with fail
  refine (known_any _).mono ?_
  rintro e w1 ⟨rfl, hb⟩
  go_wp2
  go_ret
  exact ⟨rfl, hb⟩
set_option maxRecDepth 100000 in
theorem decks_out3 (n nl : Nat) (h1 : 1 ≤ n) (h8 : n ≤ 8) (h : 100 < nl) (pc pt : Option Addr) (cc ct : Nat) (after : Int) (w : World) :
    Calls Try.prog 4 #[.slice pc n cc, .int .u8 after, .slice pt nl ct] w fun e w' => e = .returned (.bool true) ∧ Below w.heap.size w w' := by
  have i1 : (1 : Int) ≤ (n : Int) := by omega
  have i2 : (n : Int) ≤ 8 := by omega
  have i3 : (100 : Int) < (nl : Int) := by omega
  go_enter Try.func4, Try.ntmps4
  go_wp2_with fail
  refine (known_any _).mono ?_
  rintro e w1 ⟨rfl, hb⟩
  go_wp2
  go_ret
  exact ⟨rfl, hb⟩
set_option maxRecDepth 100000 in
set_option maxHeartbeats 16000000 in
theorem decks_ok (pc : Option Addr) (cards : List Int) (n cc : Nat) (after : Int) (pt : Option Addr) (casts : List Int) (nl ct : Nat) (w : World) (hn : Hid (cards.length = n)) (hnl : Hid (casts.length = nl)) (h1 : 1 ≤ n) (h8 : n ≤ 8) (h100 : nl ≤ 100) (ha : 0 ≤ after) (ha2 : after ≤ 255)
    (hR : ReadsB w pc cards) (hB : Hid (Byte cards)) (hRt : ReadsB w pt casts) (hBt : Hid (Byte casts)) :
    Calls Try.prog 4 #[.slice pc n cc, .int .u8 after, .slice pt nl ct] w fun e w' => e = .returned (.bool true) ∧ Below w.heap.size w w' := by
  obtain ⟨i0, hi, hz0, hz1, hz2⟩ := info_parts (show (Try.prog.info? 3).map (fun i => (i.zero, i.size, i.bytes)) = some (some (.int .i64 0), 1, 8) by kernel_rfl)
  have j1 : (1 : Int) ≤ (n : Int) := by omega
  have j8 : (n : Int) ≤ 8 := by omega
  have j100 : (nl : Int) ≤ 100 := by omega
  go_enter Try.func4, Try.ntmps4
  go_wp2
  go_loopw [7, 8, 10] (fun v s i wr => ∃ k : Nat, k ≤ n ∧ i = .int .i64 (k : Int) ∧ s = .int .i64 (lsum (upto (restF cards 9) k)) ∧ wr.ownsRow w.heap.size 3 1 v k ((upto (restF cards 9) k).map (Value.int .i64)) ∧ v.ownBlock ≠ some (w.heap.size + 1) ∧ wr.heap[w.heap.size + 1]? = some (.cells #[] 3) ∧ Below w.heap.size w wr) (fun _ _ i _ => n - (intOf i).toNat)
  case atStart =>
    refine ⟨0, by omega, rfl, rfl, (none_ownsI w).alloc _, by simp [Value.ownBlock], ?_, (below1 w _).alloc (by simp) _⟩
    have := heap_alloc_new (w.alloc (.cells #[] 3)) (.cells #[] 3)
    simpa using this
  case round =>
    obtain ⟨k, hk, rfl, rfl, hrw, hnb, hlb, hb⟩ := hrel
    by_cases hlt : k < n
    · obtain ⟨q, o, rfl, hcell0⟩ := hR k (by rw [hn.out]; exact hlt)
      have hq : q < w.heap.size := World.block_lt_of_cell? w _ hcell0
      have hcell := (hb.cell (p := ⟨q, o + k, none⟩) hq).trans hcell0
      obtain ⟨S, hS⟩ : ∃ S, lsum (upto (restF cards 9) k) = S := ⟨_, rfl⟩
      have hSb := row_sum cards k
      rw [hS] at hSb ⊢
      have HS := Lib.hid hS
      obtain ⟨x, hx⟩ : ∃ x, nth cards k = x := ⟨_, rfl⟩
      have hxb := hB.out k
      rw [hx] at hcell hxb
      have HX := Lib.hid hx
      clear hS hx hcell0
      obtain ⟨hS0, hS1⟩ := hSb
      obtain ⟨hx0, hx1⟩ := hxb
      have hwt : IntKind.i64.wrap (x.tmod 9) = x % 9 := by rw [Int.tmod_eq_emod_of_nonneg hx0]; exact IntWalk.i64_in _ (by omega)
      have hwr : IntKind.i64.wrap (S + x % 9) = S + x % 9 := IntWalk.i64_in _ (by omega)
      have hl1 : w.heap.size + 1 < wr.heap.size := (Array.getElem?_eq_some_iff.1 hlb).1
      have hki : (k : Int) < (n : Int) := by omega
      have hbs := hb.size
      have hL : (upto (restF cards 9) k).length = k := upto_length _ _
      have HLn := Lib.hid hL
      clear hL
      have hnq : u7.ownBlock ≠ some q := fun e => by
        have h9 := hrw.lt q e
        omega
      have g1 : q < wr.heap.size := by omega
      go_wp2_with fail
      go_region_held_law (fun w' => w'.cell? ⟨q, o + k, none⟩ = some (.int .u8 x))
        (first
          | go_keep
          | (rw [hgrow.cell_far _ (by simp; omega) (Ne.symm hnq)]; assumption))
        ((refine step_append_lies _ (by rfl) _ _ _ (by rfl) w.heap.size 3 i0 _ 1 8 Try.underlying22 hi hz0 hz1 hz2 rfl (by omega) u7 k ((upto (restF cards 9) k).map (Value.int .i64)) (by rfl) ((hrw.alloc _).drew)
            ⟨wr.heap.size, 0, none⟩ 1 1 [.int .i64 (x % 9)] (by rfl) (by rfl) (World.news_of_block (cs := #[.int .i64 (x % 9)]) (t := 3) (fr := (0, 0)) (heap_alloc_new wr _)) (by simp [Value.oneCell'])
            (by omega) (by unfold maxLen; omega) (by omega) (by simp; omega) (wr.heap.size + 1) (by simp) ?_; intro gg cap w7 hown' hgrow hat hlt))
      clear hwr hwt
      go_wp2
      go_roundw
      case rel =>
        refine ⟨k + 1, by omega, by go_num, ?_, ?_, ?_, ?_, ?_⟩
        · rw [lsum_upto_succ, HS.out]; simp only [restF, HX.out]
        · rw [upto_succ, List.map_append]; simp only [restF, List.map_cons, List.map_nil, HX.out]; exact hown'
        · intro e
          have e : gg = w.heap.size + 1 := by simpa [Value.ownBlock] using e
          subst e
          rcases hat with hat | hat
          · exact hnb hat
          · simp at hat; omega
        · rw [hgrow.block _ (by simp; omega) (fun e => hnb e.symm)]
          show (wr.alloc _).heap[w.heap.size + 1]? = _
          exact ((below1 wr _).block _ hl1).trans hlb
        · exact ((hb.alloc hb.size _).drew).grown hgrow (by simp; omega) (fun k e => by
            have h9 := (hrw.lt k e)
            omega)
      case measure => simp [intOf]; omega
    · have hkn : n = k := by omega
      subst hkn
      obtain ⟨S, hS⟩ : ∃ S, lsum (upto (restF cards 9) n) = S := ⟨_, rfl⟩
      have hSb := row_sum cards n
      rw [hS] at hSb ⊢
      have HS := Lib.hid hS
      obtain ⟨hS0, hS1⟩ := hSb
      clear hS
      by_cases hz : S = 0
      · subst hz
        clear hS0 hS1
        go_wp2_with fail
        refine (known_any _).mono ?_
        rintro e w1 ⟨rfl, hb1⟩
        go_wp2
        go_ret
        exact ⟨rfl, tr hb hb1⟩
      · have hq : (S == 0) = false := by simp [hz]
        obtain ⟨pr, cr, hu7, hRd⟩ := Got.of_owns hrw
        have hown7 := hrw.2
        have hlo : wr.ownsRow w.heap.size 3 1 (.slice (some ⟨w.heap.size + 1, 0, none⟩) 0 0) 0 ((upto (restF casts (n : Int)) 0).map (Value.int .i64)) :=
          ⟨rfl, Or.inr ⟨w.heap.size + 1, 0, #[], rfl, by omega, hlb, Nat.le_refl _, by simp [maxLen], rfl, rfl⟩⟩
        rcases hown7 with ⟨hu, h0⟩ | ⟨g, cap, cur, hu, hgB, hgh, hcap1, hcap2, _⟩
        · omega
        · rw [hu] at hu7 hnb ⊢
          have hu8 := hu7
          simp only [Value.slice.injEq] at hu8
          obtain ⟨hp7, hl7, hc7⟩ := hu8
          subst hp7 hc7
          have hgw : g < wr.heap.size := (Array.getElem?_eq_some_iff.1 hgh).1
          have hgne : g ≠ w.heap.size + 1 := fun e => hnb (by rw [e]; rfl)
          clear hu hu7 hl7 hrw hnb hlb hgh
          obtain ⟨wo, rfl⟩ : ∃ wo : World, wo = wr := ⟨_, rfl⟩
          go_wp2
          go_loopw [9, 11] (fun v i wr => ∃ k : Nat, k ≤ nl ∧ i = .int .i64 (k : Int) ∧ wr.ownsRow w.heap.size 3 1 v k ((upto (restF casts (n : Int)) k).map (Value.int .i64)) ∧ v.ownBlock ≠ some g ∧ wr.heap[g]? = wo.heap[g]? ∧ Below w.heap.size w wr ∧ wo.heap.size ≤ wr.heap.size) (fun _ i _ => nl - (intOf i).toNat)
          case atStart => exact ⟨0, by omega, rfl, hlo, by simp [Value.ownBlock]; exact fun e => hgne e.symm, rfl, hb, Nat.le_refl _⟩
          case round =>
            obtain ⟨k, hk, rfl, hrr, hnx, hgx, hbx, hszx⟩ := hrel
            by_cases hlt : k < nl
            · obtain ⟨q, o, rfl, hcell0⟩ := hRt k (by rw [hnl.out]; exact hlt)
              have hq' : q < w.heap.size := World.block_lt_of_cell? w _ hcell0
              have hcell := (hbx.cell (p := ⟨q, o + k, none⟩) hq').trans hcell0
              obtain ⟨x, hx⟩ : ∃ x, nth casts k = x := ⟨_, rfl⟩
              have hxb := hBt.out k
              rw [hx] at hcell hxb
              have HX := Lib.hid hx
              clear hx hcell0
              obtain ⟨hx0, hx1⟩ := hxb
              have hd1 : 0 ≤ x % (n : Int) := Int.emod_nonneg _ (by omega)
              have hd2 : x % (n : Int) < n := Int.emod_lt_of_pos _ (by omega)
              have hwt : IntKind.i64.wrap (x.tmod (n : Int)) = x % (n : Int) := by rw [Int.tmod_eq_emod_of_nonneg hx0]; exact IntWalk.i64_in _ (by omega)
              have hne : ((n : Int) == 0) = false := by simp; omega
              have hki : (k : Int) < (nl : Int) := by omega
              have hbs := hbx.size
              have hL : (upto (restF casts (n : Int)) k).length = k := upto_length _ _
              go_wp2_with (at_builtin; refine wpList_append_lies _ rfl _ _ 22 rfl w.heap.size 3 i0 (.int .i64 0) 1 8 Try.underlying22 hi hz0 hz1 hz2 rfl (by decide) _ _ _ rfl (hrr.alloc _) ⟨wr.heap.size, 0, none⟩ 1 1 [.int .i64 (x % (n : Int))] rfl rfl (World.news_of_block (cs := #[.int .i64 (x % (n : Int))]) (t := 3) (fr := (0, 0)) (heap_alloc_new wr _)) (by simp [Value.oneCell']) (by omega) ?c3 ?c4 ?c5 _ rfl ?_)
              case c3 => unfold maxLen; omega
              case c4 => omega
              case c5 => simp; omega
              intro g' cap' w4 hown' hgrow hat hlt'
              have hq4 : ∀ j, u9.ownBlock = some j → w.heap.size ≤ j := owns_base hrr
              go_wp2
              go_roundw
              case rel =>
                refine ⟨k + 1, by omega, by go_num, ?_, ?_, ?_, ?_, ?_⟩
                · rw [upto_succ, List.map_append]; simp only [restF, List.map_cons, List.map_nil, HX.out]; exact hown'
                · intro e
                  have e : g' = g := by simpa [Value.ownBlock] using e
                  subst e
                  rcases hat with hat | hat
                  · exact hnx hat
                  · first | omega | (simp at hat; omega)
                · rw [hgrow.block _ (by simp; omega) (fun e => hnx e.symm)]
                  exact ((below1 wr _).block _ (by omega)).trans hgx
                · exact (hbx.alloc hbx.size _).grown hgrow (by simp; omega) (fun j e => hq4 j e)
                · have h9 := hgrow.size
                  first | omega | (simp at h9; omega)
              case measure => simp [intOf]; omega
            · have hkn : nl = k := by omega
              subst hkn
              have fE : regE (upto (restF casts (n : Int)) nl) n = 0 := reg_E h1 (by omega)
              have fI : InReg (upto (restF casts (n : Int)) nl) n := reg_in h1
              have fC : chk1 (upto (restF cards 9) n) = 0 := row_chk h8 (by rw [HS.out]; omega)
              have fO : anyB (outB 0 1000) (upto (restF cards 9) n) = false := row_any _ _
              have fB : ∀ j, 0 ≤ nth (upto (restF cards 9) n) j ∧ nth (upto (restF cards 9) n) j ≤ 1000 := fun j => by have := row_bd cards n j; omega
              have fX : (upto (restF casts (n : Int)) nl).length = nl := upto_length _ _
              have fR : (upto (restF cards 9) n).length = n := upto_length _ _
              have fS := HS.out
              have hRr : Reads wr (some ⟨g, 0, none⟩) (upto (restF cards 9) n) := fun j hj => by
                obtain ⟨q, o, h1, h2⟩ := hRd j hj
                have e := h1
                simp only [Option.some.injEq, Addr.mk.injEq] at e
                obtain ⟨rfl, rfl, _⟩ := e
                exact ⟨_, _, h1, (World.cell?_of_block (a := ⟨g, 0 + j, none⟩) hgx).trans h2⟩
              generalize upto (restF casts (n : Int)) nl = xs at fE fI fX hrr
              generalize upto (restF cards 9) n = row at fC fO fB fR fS hRr hRd
              obtain ⟨pl, cl, hu9, hRx⟩ := Got.of_owns hrr
              have hCm : Came wr pl xs cl := by
                refine ⟨fun e => ?_, hRx, fun j hj => by have := fI j hj; omega⟩
                subst e
                rcases hrr.2 with ⟨hu, h0⟩ | ⟨g, cap, cur, hu, _⟩
                · rw [hu] at hu9
                  simp only [Value.slice.injEq, true_and] at hu9
                  exact ⟨List.length_eq_zero_iff.1 hu9.1.symm, hu9.2.symm⟩
                · rw [hu] at hu9
                  simp at hu9
              subst hu9
              rw [fX] at hnx ⊢
              have hr0 := Int.emod_nonneg after hz
              have hr1 := Int.emod_lt_of_pos after (show 0 < S by omega)
              obtain ⟨r, hr⟩ : ∃ r, after % S = r := ⟨_, rfl⟩
              obtain ⟨n0, hn0⟩ : ∃ n0 : Nat, 1 + r = (n0 : Int) := ⟨(1 + r).toNat, by omega⟩
              rw [hr] at hr0 hr1
              have hn0a : 1 ≤ n0 := by omega
              have hn0b : (n0 : Int) ≤ S := by omega
              clear hRd HS hB hBt hR hRt hrr
              have HH := (deck_any (n0 : Int) (some ⟨g, 0, none⟩) n cap wr)
              have hgr : g < wr.heap.size := by omega
              clear hgx hb hlo hszx
              go_wp2_with fail
              refine HH.mono ?_
              rintro e w1 ⟨⟨dp, rfl, hdc, hdl⟩, hb1⟩
              clear HH
              have hB1 := tr hbx hb1
              have hC1 := hCm.below hb1 (Nat.le_refl _)
              have hRr1 := hRr.below hb1 (Nat.le_refl _)
              have hg1 := hb1.size
              clear hb1 hbx hCm hRr hRx
              have HI := ints_any pl xs cl w1 hC1 (by rw [fX]; omega)
              rw [fX] at HI
              go_wp2_with fail
              refine HI.mono ?_
              rintro e w2 ⟨⟨qa, ca, rfl, hRa, hca, hca2⟩, hb2⟩
              clear HI
              have hB2 := tr hB1 hb2
              have hC2 := hC1.below hb2 (Nat.le_refl _)
              have hRr2 := hRr1.below hb2 (Nat.le_refl _)
              have hdc2 := (hb2.cell (p := ⟨dp, 0, none⟩) hdl).trans hdc
              have hg2 := hb2.size
              clear hb2 hB1 hC1 hRr1 hdc
              have HX := excluded_any dp g 0 row xs n cap nl ca n0 qa S w2 (by omega) (by omega) hdc2 hRr2 hRa (Lib.hid fR) (Lib.hid fX) (by omega) (by omega) (Lib.hid fC) (Lib.hid fS) hn0a hn0b (by omega) (Lib.hid fI) (Lib.hid fB) (Lib.hid fO) h1 (Lib.hid fE)
              go_wp2_with fail
              refine HX.mono ?_
              rintro e w3 ⟨⟨res, rfl, hres⟩, hb3⟩
              clear HX
              have hB3 := tr hB2 hb3
              have hC3 := hC2.below hb3 (Nat.le_refl _)
              have hRr3 := hRr2.below hb3 (Nat.le_refl _)
              have hg3 := hb3.size
              clear hb3 hB2 hC2 hRr2 hdc2 hRa
              have HI := ints_any pl xs cl w3 hC3 (by rw [fX]; omega)
              rw [fX] at HI
              go_wp2_with fail
              refine HI.mono ?_
              rintro e w4 ⟨⟨qb, cb, rfl, hRb, hcb, hcb2⟩, hb4⟩
              clear HI
              have hB4 := tr hB3 hb4
              have hRr4 := hRr3.below hb4 (Nat.le_refl _)
              have hg4 := hb4.size
              clear hb4 hB3 hC3 hRr3
              have hqp : ∃ q0 o0, qb = some ⟨q0, o0, none⟩ ∨ nl = 0 := by
                by_cases h0 : nl = 0
                · exact ⟨0, 0, .inr h0⟩
                · obtain ⟨q0, o0, h1, _⟩ := hRb 0 (by rw [fX]; omega)
                  exact ⟨q0, o0, .inl h1⟩
              obtain ⟨q0, o0, hqp⟩ := hqp
              have HN := need_ok_any qb q0 o0 xs nl cb (Lib.hid fX) (by omega) (by omega) hqp n n0 (by omega) (by omega) (by omega) (by omega) (Lib.hid fE) w4 hRb
              go_wp2_with fail
              refine HN.mono ?_
              rintro e w5 ⟨⟨pn, cn, rfl, hRn⟩, hb5⟩
              clear HN
              have hB5 := tr hB4 hb5
              have hRr5 := hRr4.below hb5 (Nat.le_refl _)
              clear hb5 hB4 hRr4 hRb
              have hagree := decks_agree (S := S) (row := row) fX fI (by omega) hn0a hn0b (fun j _ => (fB j).1)
              have hfin : (res = -1) ↔ ∀ j, j < n → nth (needTo xs n n0 (manyP nl n0)) j ≤ nth row j := hres.trans hagree
              have fL : (needTo xs n n0 (manyP nl n0)).length = n := needTo_len _ _ _ _
              generalize needTo xs n n0 (manyP nl n0) = need at hRn hfin fL
              clear hagree hres fE fI fC fO fS fX hn0 hn0a hn0b hr hr0 hr1
              go_wp2
              obtain ⟨w6, rfl⟩ : ∃ w6 : World, w6 = w5 := ⟨_, rfl⟩
              go_loopw [17, 18] (fun b i wr => ∃ k : Nat, k ≤ n ∧ i = .int .i64 (k : Int) ∧ b = .bool (decide (∀ j, j < k → nth need j ≤ nth row j)) ∧ Below w6.heap.size w6 wr) (fun _ i _ => n - (intOf i).toNat)
              case atStart => exact ⟨0, by omega, rfl, by simp, Below.refl _ _⟩
              case round =>
                obtain ⟨k, hk, rfl, rfl, hb7⟩ := hrel
                by_cases hlt : k < n
                · obtain ⟨qr, orr, hqr, hcr⟩ := hRr5.below hb7 (Nat.le_refl _) k (by rw [fR]; exact hlt)
                  obtain ⟨qn, on, rfl, hcn⟩ := hRn.below hb7 (Nat.le_refl _) k (by rw [fL]; exact hlt)
                  simp only [Option.some.injEq, Addr.mk.injEq] at hqr
                  obtain ⟨rfl, rfl, _⟩ := hqr
                  rw [Nat.zero_add] at hcr
                  have hki : (k : Int) < (n : Int) := by omega
                  have hstep : (decide (∀ j, j < k + 1 → nth need j ≤ nth row j)) = (decide (∀ j, j < k → nth need j ≤ nth row j) && decide (nth need k ≤ nth row k)) := by
                    rw [← Bool.decide_and]
                    refine decide_eq_decide.2 ⟨fun h => ⟨fun j hj => h j (by omega), h k (by omega)⟩, fun h j hj => ?_⟩
                    by_cases e : j = k
                    · rw [e]; exact h.2
                    · exact h.1 j (by omega)
                  have HST := Lib.hid hstep
                  clear hstep
                  obtain ⟨x, hx⟩ : ∃ x, nth row k = x := ⟨_, rfl⟩
                  obtain ⟨y, hy⟩ : ∃ y, nth need k = y := ⟨_, rfl⟩
                  rw [hx] at hcr
                  rw [hy] at hcn
                  have HXX := Lib.hid hx
                  have HYY := Lib.hid hy
                  clear hx hy
                  generalize hdb : decide (∀ j, j < k → nth need j ≤ nth row j) = b
                  have HDB := Lib.hid hdb
                  clear hdb
                  cases b
                  · go_wp2_with fail
                    go_quiet (fail)
                    go_wp2
                    go_roundw
                    case rel => exact ⟨k + 1, by omega, by first | rfl | go_num, by rw [HST.out, HDB.out]; rfl, below_drewN hb7 _⟩
                    case measure => simp [intOf]; omega
                  · go_wp2_with fail
                    go_quiet (fail)
                    go_wp2
                    go_roundw
                    case rel => exact ⟨k + 1, by omega, by first | rfl | go_num, by rw [HST.out, HDB.out, HXX.out, HYY.out]; simp, below_drewN hb7 _⟩
                    case measure => simp [intOf]; omega
                · have hkn : n = k := by omega
                  subst hkn
                  have hB7 := tr hB5 hb7
                  by_cases hE : ∀ j, j < n → nth need j ≤ nth row j
                  · have hr1 := hfin.2 hE
                    subst hr1
                    rw [decide_eq_true hE]
                    clear hfin hE hRr5 hRn hb7 hB5
                    go_wp2_with fail
                    refine (known_any _).mono ?_
                    rintro e w9 ⟨rfl, hb9⟩
                    go_wp2
                    go_ret
                    exact ⟨rfl, tr hB7 hb9⟩
                  · have hr1 : (res == -1) = false := by
                      simp only [beq_eq_false_iff_ne]
                      exact fun e => hE (hfin.1 e)
                    rw [decide_eq_false hE]
                    clear hfin hE hRr5 hRn hb7 hB5
                    go_wp2_with fail
                    refine (known_any _).mono ?_
                    rintro e w9 ⟨rfl, hb9⟩
                    go_wp2
                    go_ret
                    exact ⟨rfl, tr hB7 hb9⟩
end Go.Proofs.Ytahmhdjoaoldcaa
