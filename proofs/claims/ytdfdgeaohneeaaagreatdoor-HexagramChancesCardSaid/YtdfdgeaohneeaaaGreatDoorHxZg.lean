/-
  HexagramChances: the walk of the law.
-/
import Derived.Test.YtdfdgeaohneeaaaGreatDoorHxZe
import Derived.Test.YtdfdgeaohneeaaaGreatDoorHxZf
import Derived.Test.YtdfdgeaohneeaaaGreatDoorHxZd
import Derived.Test.YtdfdgeaohneeaaaGreatDoorHxZh
import Derived.Test.YtdfdgeaohneeaaaGreatDoorHxCl
import Derived.Test.YtdfdgeaohneeaaaGreatDoorHxCi
import Derived.Test.YtdfdgeaohneeaaaGreatDoorHxWt
import Derived.Test.YtdfdgeaohneeaaaGreatDoorHxW
import Derived.Deep.CutRange
namespace Go.Proofs.YtdfdgeaohneeaaaGreatDoor
open Go Go.RowKit
set_option linter.unusedVariables false
set_option linter.unusedSimpArgs false

theorem came_row {V : World} {B g : Nat} {Z : List Int} (h : Row V B g 10 Z) (hT : Ten Z) : Came V (some ⟨g, 0, none⟩) Z 10 :=
  ⟨(fun e => by cases e), h.reads, fun k hk => by
    obtain ⟨a, b⟩ := hT.bd k
    omega⟩

set_option maxRecDepth 100000 in
set_option maxHeartbeats 8000000 in
theorem chances_law (bs : List Int) (hl4 : bs.length = 4) (hbs : ∀ k, k < 4 → 0 ≤ nth bs k ∧ nth bs k ≤ 255) (eq : Bool) (w : World) (hs0 : Src w) (hf0 : Fst w) :
    Calls Tryz.prog 6 #[.agg (arr8 bs), .bool eq] w fun e w' => e = .returned (.bool true) ∧ Below w.heap.size w w' := by
  obtain ⟨i0, hi, hz0, hz1, hz2⟩ := info_parts info_int
  go_enter Tryz.func6, Tryz.ntmps6
  go_upto_region 1 with fail
  have hBox : ∀ n, n < 4 → (w.alloc (.cells (arr8 bs) 48)).cell? ⟨w.heap.size, n, none⟩ = some (.int .u8 (nth bs n)) := fun n hn => by
    rw [(Blk.new w 48 (arr8 bs)).cell n, arr8_get (by omega)]
  have hbW0 : Below w.heap.size w (w.alloc (.cells (arr8 bs) 48)) := below1 _ _
  have hsW := hs0.below hbW0 (Nat.le_refl _)
  have hfW := hf0.below hbW0 (Nat.le_refl _)
  have hltW : w.heap.size < (w.alloc (.cells (arr8 bs) 48)).heap.size := by simp
  generalize hW0 : w.alloc (.cells (arr8 bs) 48) = W0 at *
  go_wp2_with (at_make; refine wpList_make_full _ rfl _ _ 22 rfl W0.heap.size 3 i0 (.int .i64 0) 1 Tryz.underlying22 hi hz0 hz1 .i64 .i64 _ _ 10 rfl rfl rfl rfl ?c1 ?c2 ?c3 ?_)
  case c1 => rw [hz2]; omega
  case c2 => unfold maxLen; omega
  case c3 => exact Nat.le_refl _
  intro w2 hown hgr
  have hrow := Lib.hid (show Row w2 W0.heap.size W0.heap.size 10 (tenTo bs 0) from Row.made hown)
  have hb2 : Below W0.heap.size W0 w2 := (Below.refl _ W0).grown hgr (Nat.le_refl _) (fun k e => by cases e)
  clear hown hgr
  go_wp2_with fail
  go_loopw [6] (fun i wr => ∃ k : Nat, k ≤ 4 ∧ i = .int .i64 k ∧ Hid (Row wr W0.heap.size W0.heap.size 10 (tenTo bs k)) ∧ Below W0.heap.size W0 wr) (fun i _ => 4 - (intOf i).toNat)
  case atStart => exact ⟨0, by omega, rfl, hrow, hb2⟩
  case round =>
    obtain ⟨k, hk, rfl, HR, hb⟩ := hrel
    by_cases hlt : k < 4
    · have hki : (k : Int) < 4 := by omega
      have hcell := cell_tr hb (hBox k hlt)
      obtain ⟨b0, b1⟩ := hbs k hlt
      have HS := Lib.hid (show tenTo bs (k + 1) = (tenTo bs k).set (6 + k) (nth bs k % 80) from rfl)
      generalize hv : nth bs k = v at hcell b0 b1 HS
      have hc3 := HR.out.cell (show 6 + k < 10 by omega)
      have hf3 := HR.out.frozen (6 + k)
      generalize hu : nth (tenTo bs k) (6 + k) = u at hc3
      have e0 : IntKind.i64.wrap (6 + (k : Int)) = ((6 + k : Nat) : Int) := by
        rw [show 6 + (k : Int) = ((6 + k : Nat) : Int) by omega]
        exact IntWalk.i64_in _ (by omega)
      have e2 : 6 + (k : Int) = ((6 + k : Nat) : Int) := by omega
      have hsz := HR.out.lt
      obtain ⟨j, hj⟩ : ∃ j, 6 + k = j := ⟨_, rfl⟩
      rw [hj] at hc3 hf3 HS e0 e2
      have hj10 : j < 10 := by omega
      have hji : (j : Int) < 10 := by omega
      clear hu hv hj
      go_wp2
      go_roundw
      case rel => exact ⟨k + 1, by omega, by go_num, by rw [HS.out]; exact HR.out.set j (v % 80), hb.setCell (p := ⟨W0.heap.size, j, none⟩) (Nat.le_refl _) _⟩
      case measure => simp [intOf]; omega
    · obtain rfl : k = 4 := by omega
      clear hrow hb2 hbs hBox
      obtain ⟨W, hW⟩ : ∃ W, tenV bs eq = W := ⟨_, rfl⟩
      have hT : Ten W := hW ▸ ten_v bs eq
      have H6 := Lib.hid (show W = if eq = true then equalW (tenTo bs 4) else tenTo bs 4 from hW.symm)
      clear hW
      go_upto_if 40 with fail
      go_cut [] from 41 to 50 (fun wx => Hid (Row wx W0.heap.size W0.heap.size 10 W) ∧ Below W0.heap.size W0 wx)
      case first =>
        cases eq with
        | false =>
          have HR2 := Lib.hid (show Row wr W0.heap.size W0.heap.size 10 W by rw [H6.out]; exact HR.out)
          clear HR H6
          go_wp2_with fail
          go_meet
          exact ⟨HR2, hb⟩
        | true =>
          have HB := Lib.hid (show W = (((tenTo bs 4).set 9 (nth (tenTo bs 4) 6)).set 8 (nth (tenTo bs 4) 7)) from H6.out)
          have c6 := HR.out.cell (show 6 < 10 by omega)
          have c7 := HR.out.cell (show 7 < 10 by omega)
          have c8 := HR.out.cell (show 8 < 10 by omega)
          have c9 := HR.out.cell (show 9 < 10 by omega)
          have f8 := HR.out.frozen 8
          have f9 := HR.out.frozen 9
          generalize nth (tenTo bs 4) 6 = x6 at *
          generalize nth (tenTo bs 4) 7 = x7 at *
          generalize nth (tenTo bs 4) 8 = x8 at *
          generalize nth (tenTo bs 4) 9 = x9 at *
          clear H6
          go_upto_region 7 with fail
          go_region
          have HR3 := Lib.hid (show Row (((wr.setCell ⟨W0.heap.size, 9, none⟩ (.int .i64 x6)).setCell ⟨W0.heap.size, 8, none⟩ (.int .i64 x7)).drew) W0.heap.size W0.heap.size 10 W by rw [HB.out]; exact (HR.out.set 9 x6).set 8 x7)
          have hb3 : Below W0.heap.size W0 (((wr.setCell ⟨W0.heap.size, 9, none⟩ (.int .i64 x6)).setCell ⟨W0.heap.size, 8, none⟩ (.int .i64 x7)).drew) := ((hb.setCell (p := ⟨W0.heap.size, 9, none⟩) (Nat.le_refl _) _).setCell (p := ⟨W0.heap.size, 8, none⟩) (Nat.le_refl _) _).drew
          generalize ((wr.setCell ⟨W0.heap.size, 9, none⟩ (.int .i64 x6)).setCell ⟨W0.heap.size, 8, none⟩ (.int .i64 x7)).drew = V3 at HR3 hb3 ⊢
          clear HR HB hb c6 c7 c8 c9 f8 f9
          go_wp2_with fail
          go_meet
          exact ⟨HR3, hb3⟩
      case rest =>
        obtain ⟨HRV, hbV⟩ := hcut
        have HE := Lib.hid (show eq = true → nth W 9 = nth W 6 ∧ nth W 8 = nth W 7 from fun e => by rw [H6.out, e]; exact ten_same bs)
        clear HR hb H6
        obtain ⟨V, hV⟩ : ∃ x : World, wc = x := ⟨_, rfl⟩
        rw [hV] at HRV hbV ⊢
        clear hV
        have HC := Lib.hid (came_row HRV.out hT)
        have hsV := hsW.below hbV (Nat.le_refl _)
        have hfV := hfW.below hbV (Nat.le_refl _)
        have hgV := HRV.out.lt
        have hbw := hbW0.trans (hbV.mono (by omega))
        obtain ⟨L0, L1, L2, L3⟩ := ten_lines hT
        have hn := Lib.hid hT.len
        have I := fun (V' : World) (hV : Came V' (some ⟨W0.heap.size, 0, none⟩) W 10) => ints_any _ W 10 V' hV (by rw [hT.len]; omega)
        rw [hT.len] at I
        have b6 := hT.bd 6
        have b7 := hT.bd 7
        have b8 := hT.bd 8
        have b9 := hT.bd 9
        unfold linesS at L0 L1 L2 L3
        by_cases h0 : nth W 6 + nth W 7 + nth W 8 + nth W 9 = 0
        · have HZ := Lib.hid (L0 h0)
          have x6 : nth W 6 = 0 := by omega
          have x7 : nth W 7 = 0 := by omega
          have x8 : nth W 8 = 0 := by omega
          have x9 : nth W 9 = 0 := by omega
          have F := fun (V : World) (q : Option Addr) (d : Nat) (h1 : Reads V q W) (h2 : 10 ≤ d) (h3 : d ≤ 9223372036854775807) => figures_bad q W 10 d V 2 hn (by omega) h2 h3 h1 HZ (by omega)
          have G := fun (V : World) (q : Option Addr) (d : Nat) (h1 : Reads V q W) (h2 : 10 ≤ d) (h3 : d ≤ 9223372036854775807) => changes_bad q W 10 d V 2 hn (by omega) h2 h3 h1 HZ (by omega)
          have M := fun (V : World) (q : Option Addr) (d : Nat) (h1 : Reads V q W) (h2 : 10 ≤ d) (h3 : d ≤ 9223372036854775807) => moving_bad q W 10 d V 2 hn (by omega) h2 h3 h1 HZ (by omega)
          clear L0 L1 L2 L3 b6 b7 b8 b9 h0 HE
          go_wp2_with fail
          refine (I _ HC.out).mono ?_
          rintro e w1 ⟨⟨q1, c1, rfl, hr1, hc1, hc1'⟩, hb1⟩
          go_wp2_with fail
          refine (F _ q1 c1 hr1 hc1 hc1').mono ?_
          rintro e w3 ⟨rfl, hb3⟩
          have hb5 := tr hb1 hb3
          clear hr1 hb1 hb3
          go_wp2_with fail
          refine (I _ (HC.out.below hb5 (Nat.le_refl _))).mono ?_
          rintro e w6 ⟨⟨q2, c2, rfl, hr2, hc2, hc2'⟩, hb6⟩
          have hb7 := tr hb5 hb6
          clear hb5 hb6
          go_wp2_with fail
          refine (G _ q2 c2 hr2 hc2 hc2').mono ?_
          rintro e w8 ⟨rfl, hb8⟩
          have hb9 := tr hb7 hb8
          clear hr2 hb7 hb8
          go_wp2_with fail
          refine (I _ (HC.out.below hb9 (Nat.le_refl _))).mono ?_
          rintro e w9 ⟨⟨q3, c3, rfl, hr3, hc3, hc3'⟩, hb10⟩
          have hb11 := tr hb9 hb10
          clear hb9 hb10
          go_wp2_with fail
          refine (M _ q3 c3 hr3 hc3 hc3').mono ?_
          rintro e w12 ⟨rfl, hb12⟩
          have hb13 := tr hb11 hb12
          have HRZ := (HC.out.below hb13 (Nat.le_refl _)).2.1
          clear hr3 hb11 hb12 I F G M
          obtain ⟨g6, o6, e6, y6⟩ := HRZ 6 (by rw [hn.out]; omega)
          cases e6
          obtain ⟨g7, o7, e7, y7⟩ := HRZ 7 (by rw [hn.out]; omega)
          cases e7
          obtain ⟨g8, o8, e8, y8⟩ := HRZ 8 (by rw [hn.out]; omega)
          cases e8
          obtain ⟨g9, o9, e9, y9⟩ := HRZ 9 (by rw [hn.out]; omega)
          cases e9
          rw [x6, Nat.zero_add] at y6
          rw [x7, Nat.zero_add] at y7
          rw [x8, Nat.zero_add] at y8
          rw [x9, Nat.zero_add] at y9
          have hbZ := tr hbw hb13
          clear hbw hsW hfW HRZ
          go_wp2_with fail
          go_quiet (fail)
          go_wp2_with fail
          refine (known_any _ (hsV.below (below_drewN hb13 _) (Nat.le_refl _)) (hfV.below (below_drewN hb13 _) (Nat.le_refl _))).mono ?_
          rintro e wz ⟨rfl, hbz⟩
          go_wp2
          go_ret
          exact ⟨rfl, tr (below_drewN hbZ _) hbz⟩
        · have hE0 := Lib.hid (L1 (by omega))
          have LT0 := lots hE0.out (N := 64 * 64) rfl
          have LB := Lib.hid (show Mid (pairsTo W (64 * 64)) ∧ Mid (weighTo W figuresP 64 (64 * 64)) ∧ Mid (weighTo W movingP 7 (64 * 64)) ∧ 1 ≤ gcdl (pairsTo W (64 * 64)) from
            ⟨weighTo_mid (fit_of hE0.out) _ _ _ (by omega), weighTo_mid (fit_of hE0.out) _ _ _ (by omega), weighTo_mid (fit_of hE0.out) _ _ _ (by omega), weigh_gcd hE0.out rfl fun x y hx hy => changesP_bd hx hy⟩)
          obtain ⟨LP, hLP⟩ : ∃ L, pairsTo W (64 * 64) = L := ⟨_, rfl⟩
          obtain ⟨LF, hLF⟩ : ∃ L, weighTo W figuresP 64 (64 * 64) = L := ⟨_, rfl⟩
          obtain ⟨LM, hLM⟩ : ∃ L, weighTo W movingP 7 (64 * 64) = L := ⟨_, rfl⟩
          rw [hLP, hLF, hLM] at LT0 LB
          have PF := Lib.hid (show ∀ m : Nat, m = 64 * 64 → weighTo W figuresP 64 m = LF from fun m e => by rw [e]; exact hLF)
          have PP := Lib.hid (show ∀ m : Nat, m = 64 * 64 → weighTo W changesP 4096 m = LP from fun m e => by rw [e]; exact hLP)
          have PM := Lib.hid (show ∀ m : Nat, m = 64 * 64 → weighTo W movingP 7 m = LM from fun m e => by rw [e]; exact hLM)
          obtain ⟨all, hall⟩ : ∃ a, lsum (low LP) = a := ⟨_, rfl⟩
          obtain ⟨gg, hgg⟩ : ∃ a, gcdl LP = a := ⟨_, rfl⟩
          rw [hall, hgg] at LT0
          have LT := Lib.hid LT0
          have mP := Lib.hid LB.out.1
          have mF := Lib.hid LB.out.2.1
          have mM := Lib.hid LB.out.2.2.1
          have gP := Lib.hid LB.out.2.2.2
          have lP := Lib.hid LT0.plen
          have lF := Lib.hid LT0.flen
          have lM := Lib.hid LT0.mlen
          have gF := Lib.hid LT0.ff.gl
          have gM := Lib.hid LT0.fm.gl
          obtain ⟨KP, hKP⟩ : ∃ K, low LP = K := ⟨_, rfl⟩
          obtain ⟨KF, hKF⟩ : ∃ K, low LF = K := ⟨_, rfl⟩
          obtain ⟨KM, hKM⟩ : ∃ K, low LM = K := ⟨_, rfl⟩
          have F := fun (V : World) (q : Option Addr) (d : Nat) (h1 : Reads V q W) (h2 : 10 ≤ d) (h3 : d ≤ 9223372036854775807) => figures_ok q W 10 d V hn (by omega) h2 h3 h1 hE0 LF PF mF lF gF
          have G := fun (V : World) (q : Option Addr) (d : Nat) (h1 : Reads V q W) (h2 : 10 ≤ d) (h3 : d ≤ 9223372036854775807) => changes_ok q W 10 d V hn (by omega) h2 h3 h1 hE0 LP PP mP lP gP
          have M := fun (V : World) (q : Option Addr) (d : Nat) (h1 : Reads V q W) (h2 : 10 ≤ d) (h3 : d ≤ 9223372036854775807) => moving_ok q W 10 d V hn (by omega) h2 h3 h1 hE0 LM PM mM lM gM
          rw [hKP] at G
          rw [hKF] at F
          rw [hKM] at M
          have HKP := Lib.hid hKP
          have HKF := Lib.hid hKF
          have HKM := Lib.hid hKM
          have HON := Lib.hid (show eq = true → ∀ k, k < 64 → nth KF k = 1 from fun e => by rw [← hKF]; exact LT.out.ones (HE.out e).1 (HE.out e).2)
          have HAF : ∃ s q, Hid (∀ n m, n = 64 → m = 4096 → Like KF (figTo KP m) all n s q) := by
            obtain ⟨s, q, h⟩ := LT.out.ff.like LT.out.fs.1 LT.out.fs.2 LT.out.alle
            rw [hKF, LT.out.flen, hKP] at h
            exact ⟨s, q, fun n m e1 e2 => by subst e1; subst e2; exact h⟩
          have HAM : ∃ s q, Hid (∀ n m, n = 7 → m = 4096 → Like KM (movTo KP m) all n s q) := by
            obtain ⟨s, q, h⟩ := LT.out.fm.like LT.out.ms.1 LT.out.ms.2 LT.out.alle
            rw [hKM, LT.out.mlen, hKP] at h
            exact ⟨s, q, fun n m e1 e2 => by subst e1; subst e2; exact h⟩
          obtain ⟨sF, qF, HAF⟩ := HAF
          obtain ⟨sM, qM, HAM⟩ := HAM
          have HALL := Lib.hid hall
          have HGG := Lib.hid hgg
          clear hKP hKF hKM hall hgg hLP hLF hLM PF PP PM LT0 LB mP mF mM gP gF gM L0 L1 L2 L3
          go_wp2_with fail
          refine (I _ HC.out).mono ?_
          rintro e w1 ⟨⟨q1, c1, rfl, hr1, hc1, hc1'⟩, hb1⟩
          go_wp2_with fail
          refine (F _ q1 c1 hr1 hc1 hc1').mono ?_
          rintro e w3 ⟨gA, ⟨rfl, hrA3⟩, hb3⟩
          have hb5 := tr hb1 hb3
          clear hr1 hb1 hb3
          go_wp2_with fail
          refine (I _ (HC.out.below hb5 (Nat.le_refl _))).mono ?_
          rintro e w6 ⟨⟨q2, c2, rfl, hr2, hc2, hc2'⟩, hb6⟩
          have hb7 := tr hb5 hb6
          have hrA6 := hrA3.below hb6 (Nat.le_refl _)
          clear hb5 hb6 hrA3
          go_wp2_with fail
          refine (G _ q2 c2 hr2 hc2 hc2').mono ?_
          rintro e w8 ⟨gB, ⟨rfl, hrB8⟩, hb8⟩
          have hb9 := tr hb7 hb8
          have hrA8 := hrA6.below hb8 (Nat.le_refl _)
          clear hr2 hb7 hb8 hrA6
          go_wp2_with fail
          refine (I _ (HC.out.below hb9 (Nat.le_refl _))).mono ?_
          rintro e w9 ⟨⟨q3, c3, rfl, hr3, hc3, hc3'⟩, hb10⟩
          have hb11 := tr hb9 hb10
          have hrA9 := hrA8.below hb10 (Nat.le_refl _)
          have hrB9 := hrB8.below hb10 (Nat.le_refl _)
          clear hb9 hb10 hrA8 hrB8
          go_wp2_with fail
          refine (M _ q3 c3 hr3 hc3 hc3').mono ?_
          rintro e w12 ⟨gC, ⟨rfl, hrC12⟩, hb12⟩
          have hb13 := tr hb11 hb12
          have hrA12 := hrA9.below hb12 (Nat.le_refl _)
          have hrB12 := hrB9.below hb12 (Nat.le_refl _)
          have HRZ := (HC.out.below hb13 (Nat.le_refl _)).2.1
          clear hr3 hb11 hb12 I F G M hrA9 hrB9
          obtain ⟨g6, o6, e6, y6⟩ := HRZ 6 (by rw [hn.out]; omega)
          cases e6
          obtain ⟨g7, o7, e7, y7⟩ := HRZ 7 (by rw [hn.out]; omega)
          cases e7
          obtain ⟨g8, o8, e8, y8⟩ := HRZ 8 (by rw [hn.out]; omega)
          cases e8
          obtain ⟨g9, o9, e9, y9⟩ := HRZ 9 (by rw [hn.out]; omega)
          cases e9
          rw [Nat.zero_add] at y6
          rw [Nat.zero_add] at y7
          rw [Nat.zero_add] at y8
          rw [Nat.zero_add] at y9
          generalize nth W 6 = x6 at y6 b6 h0 HE
          generalize nth W 7 = x7 at y7 b7 h0 HE
          generalize nth W 8 = x8 at y8 b8 h0 HE
          generalize nth W 9 = x9 at y9 b9 h0 HE
          have hbZ := tr hbw hb13
          have hrA := Lib.hid hrA12
          have hrB := Lib.hid hrB12
          have hrC := Lib.hid hrC12
          clear hbw hsW hfW HRZ hrA12 hrB12 hrC12 HRV HC hn hE0 lP lF lM
          go_wp2_with fail
          go_quiet (fail)
          go_upto_region 15 with fail
          have hmm := @run_makeMap Tryz.prog
          go_cut [13, 14, 15, 16] from 41 to 138 (fun s13 s14 s15 s16 wx => ∃ gK gF gM : Nat, s13 = .pointer (some ⟨gF, 0, none⟩) ∧ s14 = .pointer (some ⟨gM, 0, none⟩) ∧ s15 = .int .i64 0 ∧ s16 = .map (some gK) ∧ Hid (gK = w12.heap.size ∧ gF = gK + 1 ∧ gM = gK + 2) ∧ Hid (Blk wx gF 51 (arr (figTo KP 0))) ∧ Hid (Blk wx gM 52 (arr (movTo KP 0))) ∧ Hid (wx.ownsMap Tryz.prog 57 (plainElem (H := Value) Tryz.prog 3) gK 0 (.map [])) ∧ Below w12.heap.size w12 wx)
          case first =>
            have N0 := fun n : Nat => three4 (w12.drewN n) (.map #[] 0) (.cells (arr (List.replicate 64 0)) 51) (.cells (arr (List.replicate 7 0)) 52)
            have NF : ∀ n, Blk ((((w12.drewN n).alloc (.map #[] 0)).alloc (.cells (arr (List.replicate 64 0)) 51)).alloc (.cells (arr (List.replicate 7 0)) 52)) (w12.heap.size + 1) 51 (arr (List.replicate 64 0)) := fun n => (N0 n).1
            have NM : ∀ n, Blk ((((w12.drewN n).alloc (.map #[] 0)).alloc (.cells (arr (List.replicate 64 0)) 51)).alloc (.cells (arr (List.replicate 7 0)) 52)) (w12.heap.size + 2) 52 (arr (List.replicate 7 0)) := fun n => (N0 n).2.1
            have NB : ∀ n, Below w12.heap.size w12 ((((w12.drewN n).alloc (.map #[] 0)).alloc (.cells (arr (List.replicate 64 0)) 51)).alloc (.cells (arr (List.replicate 7 0)) 52)) := fun n => (below_drewN (Below.refl _ w12) n).trans (N0 n).2.2
            have NK : ∀ n, ((((w12.drewN n).alloc (.map #[] 0)).alloc (.cells (arr (List.replicate 64 0)) 51)).alloc (.cells (arr (List.replicate 7 0)) 52)).ownsMap Tryz.prog 57 (plainElem (H := Value) Tryz.prog 3) w12.heap.size 0 (.map []) := fun n => ((World.ownsMap_made (w12.drewN n) _ _ _).alloc _).alloc _
            have HNF := Lib.hid NF
            have HNM := Lib.hid NM
            have HNB := Lib.hid NB
            have HNK := Lib.hid NK
            clear N0 NF NM NB NK
            go_wp2_with (first
              | (refine wpList_store_row rfl 51 (.tmp 13) (.tmp 136) rfl (w12.heap.size + 1) (arr (List.replicate 64 0)) rfl rfl 51 _ (HNF.out _) info_sixty rfl (arr_one _) ?_)
              | (refine wpList_store_row rfl 52 (.tmp 14) (.tmp 137) rfl (w12.heap.size + 2) (arr (List.replicate 7 0)) rfl rfl 52 _ (Blk.rowFar (HNM.out _) (by omega) _) info_seven rfl (arr_one _) ?_)
              | fail)
            generalize hW : World.setRow (World.setRow _ _ _) _ _ = W'
            have k1 : Blk W' (w12.heap.size + 1) 51 (arr (figTo KP 0)) := by rw [← hW]; exact ((HNF.out _).row _).rowFar (by omega) _
            have k2 : Blk W' (w12.heap.size + 2) 52 (arr (movTo KP 0)) := by rw [← hW]; exact ((HNM.out _).rowFar (by omega) _).row _
            have k3 : W'.ownsMap Tryz.prog 57 (plainElem (H := Value) Tryz.prog 3) w12.heap.size 0 (.map []) := by rw [← hW]; exact map_row (map_row (HNK.out _) (by omega)) (by omega)
            have k4 : Below w12.heap.size w12 W' := by rw [← hW]; exact below_setRow (below_setRow (HNB.out _) (by omega) _) (by omega) _
            clear hW HNF HNM HNB HNK hmm
            go_meet
            exact ⟨_, _, _, rfl, rfl, rfl, rfl, Lib.hid ⟨rfl, rfl, rfl⟩, Lib.hid k1, Lib.hid k2, Lib.hid k3, k4⟩
          case rest =>
            obtain ⟨gK, gF, gM, rfl, rfl, rfl, rfl, HG, KF0, KM0, KK0, hbY⟩ := hcut
            clear hmm
            obtain ⟨Y, hY⟩ : ∃ x : World, wc = x := ⟨_, rfl⟩
            rw [hY] at KF0 KM0 KK0 hbY ⊢
            clear hY
            have lK := Lib.hid (show KP.length = 4096 by rw [← HKP.out, low_len2]; exact LT.out.plen)
            have bK := Lib.hid (show ∀ k, 0 ≤ nth KP k ∧ nth KP k ≤ 995686217814016 by rw [← HKP.out]; exact LT.out.bpos)
            have sK := Lib.hid (show lsum KP = all ∧ 1 ≤ all ∧ all ≤ 995686217814016 by rw [← HKP.out]; exact ⟨HALL.out, LT.out.all1, LT.out.alle⟩)
            have fK := Lib.hid (show ∀ i, i < 4096 → nth KP i = kindV W (manyTo (i / 64 : Nat) (i % 64 : Nat) 6) / gg by rw [← HKP.out]; exact LT.out.kind)
            clear c1 c2 c3 hc1 hc1' hc2 hc2' hc3 hc3' y6 y7 y8 y9 b6 b7 b8 b9 h0 hlt hk
            go_wp2_with fail
            go_loopw [15, 17] (fun al i wr => ∃ k : Nat, k ≤ 4096 ∧ i = .int .i64 k ∧ (∃ A : Int, al = .int .i64 A ∧ Hid (A = psum KP k)) ∧ Hid (Blk wr gF 51 (arr (figTo KP k))) ∧ Hid (Blk wr gM 52 (arr (movTo KP k))) ∧ (∃ D, Hid (Kinds (fun m => kindV W m / gg) D) ∧ Hid (wr.ownsMap Tryz.prog 57 (plainElem (H := Value) Tryz.prog 3) gK k D)) ∧ Below w12.heap.size w12 wr) (fun _ i _ => 4096 - (intOf i).toNat)
            case atStart => exact ⟨0, by omega, rfl, ⟨0, rfl, Lib.hid (psum_zero _).symm⟩, KF0, KM0, ⟨.map [], Lib.hid (kinds_none _), KK0⟩, hbY⟩
            case round =>
              obtain ⟨k, hk, rfl, ⟨A, rfl, HA⟩, HF, HM, ⟨D, HD, HK⟩, hb⟩ := hrel
              obtain ⟨wo, rfl⟩ : ∃ wo : World, wo = wr := ⟨_, rfl⟩
              have hA := psum_bds bK.out (show k ≤ KP.length by have := lK.out; omega)
              rw [← HA.out, sK.out.1] at hA
              have ha1 := sK.out.2.1
              have ha2 := sK.out.2.2
              by_cases hlt : k < 4096
              · obtain ⟨x, hx⟩ : ∃ x, k / 64 = x := ⟨_, rfl⟩
                obtain ⟨y, hy⟩ : ∃ y, k % 64 = y := ⟨_, rfl⟩
                have hx64 : x < 64 := by omega
                have hy64 : y < 64 := by omega
                have hki : (k : Int) < 4096 := by omega
                have ex : IntKind.i64.wrap ((k : Int) / 64) = (x : Int) := by
                  rw [show (k : Int) / 64 = (x : Int) by omega]
                  exact IntWalk.i64_in _ (by omega)
                have ey : (k : Int) % 64 = (y : Int) := by omega
                obtain ⟨gq, oq, e, hcB⟩ := (hrB.out.below hb (Nat.le_refl _)) k (by have := lK.out; omega)
                cases e
                rw [Nat.zero_add] at hcB
                obtain ⟨b0, b1⟩ := bK.out k
                have HX := Lib.hid (show k / 64 = x ∧ k % 64 = y from ⟨hx, hy⟩)
                obtain ⟨bv, hbv⟩ : ∃ bv, nth KP k = bv := ⟨_, rfl⟩
                have HBV := Lib.hid hbv
                rw [hbv] at hcB b0 b1
                have HBF := Lib.hid (show bv = kindV W (manyTo x y 6) / gg by rw [← hbv, fK.out k hlt, hx, hy])
                clear hx hy hbv
                have HI := Lib.hid (show (Tryz.prog.info? 54).map (·.size) = some (arr (castsL x y)).size by rw [arr_size, castsL_length]; exact info_six)
                have HO := Lib.hid (show (arr (List.replicate 6 0)).size = (arr (castsL x y)).size by rw [arr_size, arr_size, castsL_length]; rfl)
                go_wp2_with fail
                refine (lines_hex x y ⟨by omega, by omega⟩ ⟨by omega, by omega⟩ _).mono ?_
                rintro e w1 ⟨rfl, hb1⟩
                have N := Lib.hid (newAt (W := w1) (o := .cells (arr (List.replicate 6 0)) 54) rfl)
                go_upto_region 20 with (first | (refine wpList_store_row rfl 54 (.tmp 18) (.tmp 149) rfl w1.heap.size (arr (castsL x y)) rfl rfl 54 _ N.out HI.out HO.out (arr_one _) ?_) | fail)
                generalize hW2 : World.setRow _ _ _ = w2
                have kL : Blk w2 w1.heap.size 54 (arr (castsL x y)) := by rw [← hW2]; exact Blk.row N.out (arr (castsL x y))
                have hgL : wo.heap.size ≤ w1.heap.size := hb1.size
                have hb2 : Below wo.heap.size wo w2 := by rw [← hW2]; exact below_setRow (hb1.alloc hb1.size _) hb1.size _
                have HKL := Lib.hid kL
                clear hW2 N HI HO hb1 kL
                generalize w1.heap.size = gL at HKL hgL ⊢
                have hcB2 := cell_tr hb2 hcB
                go_upto_region 22 with fail
                have N := Lib.hid (newAt (W := w2) (o := .cells (arr (List.replicate 4 0)) 57) rfl)
                go_upto_region 23 with (first | (refine wpList_store_row rfl 57 (.tmp 20) (.tmp 171) rfl w2.heap.size (arr (List.replicate 4 0)) rfl rfl 57 _ N.out info_four rfl (arr_one _) ?_) | fail)
                generalize hW3 : World.setRow _ _ _ = w3
                have kP : Blk w3 w2.heap.size 57 (arr (manyTo x y 0)) := by rw [← hW3]; exact Blk.row N.out (arr (List.replicate 4 0))
                have hgP : wo.heap.size ≤ w2.heap.size := hb2.size
                have hgPL : gL < w2.heap.size := HKL.out.lt
                have hb3 : Below wo.heap.size wo w3 := by rw [← hW3]; exact below_setRow (hb2.alloc hb2.size _) hb2.size _
                have HKL3 := Lib.hid (show Blk w3 gL 54 (arr (castsL x y)) by rw [← hW3]; exact (HKL.out.alloc _).rowFar (by omega) _)
                have HKP3 := Lib.hid kP
                clear hW3 N hb2 kP HKL hcB2
                have HCB := Lib.hid hcB
                clear hcB
                generalize w2.heap.size = gP at HKP3 hgP hgPL ⊢
                go_wp2_with fail
                go_loopw [21] (fun i wr => ∃ j : Nat, j ≤ 6 ∧ i = .int .i64 j ∧ Hid (Blk wr gP 57 (arr (manyTo x y j))) ∧ Hid (Blk wr gL 54 (arr (castsL x y))) ∧ Below wo.heap.size wo wr) (fun i _ => 6 - (intOf i).toNat)
                case atStart => exact ⟨0, by omega, rfl, HKP3, HKL3, hb3⟩
                case round =>
                  obtain ⟨j, hj, rfl, HP, HL, hbr⟩ := hrel
                  by_cases hj6 : j < 6
                  · have hji : (j : Int) < 6 := by omega
                    obtain ⟨cv, hcv⟩ : ∃ cv, castV x y j = cv := ⟨_, rfl⟩
                    obtain ⟨v0, v1⟩ := castV_bd x y j
                    have hcL : wr.cell? ⟨gL, j, none⟩ = some (.int .i64 cv) := by rw [HL.out.cell j, arr_get (by rw [castsL_length]; exact hj6), castsL_nth x y hj6, hcv]
                    rw [hcv] at v0 v1
                    obtain ⟨d, hd⟩ : ∃ d, (cv - 6).toNat = d := ⟨_, rfl⟩
                    have hd4 : d < 4 := by omega
                    have hdi : (d : Int) < 4 := by omega
                    have ed : IntKind.i64.wrap (cv - 6) = (d : Int) := by
                      rw [show cv - 6 = (d : Int) by omega]
                      exact IntWalk.i64_in _ (by omega)
                    have hcP := HP.out.cell d
                    rw [arr_get (by rw [many_len]; exact hd4)] at hcP
                    have hfP := HP.out.frozen d
                    obtain ⟨u0, u1⟩ := many_bd x y j d
                    have HS := Lib.hid (show manyTo x y (j + 1) = (manyTo x y j).set d (nth (manyTo x y j) d + 1) by show (manyTo x y j).set (castV x y j - 6).toNat (nth (manyTo x y j) (castV x y j - 6).toNat + 1) = _; rw [hcv, hd])
                    generalize nth (manyTo x y j) d = u at hcP u0 u1 HS
                    have eu : IntKind.i64.wrap (u + 1) = u + 1 := IntWalk.i64_in _ (by omega)
                    have ed2 : cv - 6 = (d : Int) := by omega
                    clear hcv hd
                    go_wp2
                    go_roundw
                    case rel => exact ⟨j + 1, by omega, by go_num, by rw [HS.out, ← arr_set]; exact HP.out.set_ d (.int .i64 (u + 1)), HL.out.far (p := ⟨gP, d, none⟩) (show gL ≠ gP by omega) _, hbr.setCell (p := ⟨gP, d, none⟩) hgP _⟩
                    case measure => simp [intOf]; omega
                  · obtain rfl : j = 6 := by omega
                    have hM4 := four_many x y 6 (Nat.le_refl _)
                    have hmv := many_moves (x := x) (y := y) ⟨by omega, by omega⟩ ⟨by omega, by omega⟩
                    have hm0 := many_bd x y 6 0
                    have hm3 := many_bd x y 6 3
                    have hml := many_len x y 6
                    generalize manyTo x y 6 = mm at HP hM4 hmv hm0 hm3 hml HBF
                    obtain ⟨wA, hwA⟩ : ∃ z : World, wr = z := ⟨_, rfl⟩
                    rw [hwA] at HP hbr ⊢
                    clear hwA HL HKP3 HKL3 hb3
                    have HK2 := Lib.hid (map_below HK.out hbr)
                    have HF2 := Lib.hid (HF.out.below hbr HF.out.lt)
                    have HM2 := Lib.hid (HM.out.below hbr HM.out.lt)
                    have hcB := cell_tr hbr HCB.out
                    have hbA : Below w12.heap.size w12 wA := hb.trans (hbr.mono hb.size)
                    have HKEY := Lib.hid (key4_mk hM4)
                    have HIm := Lib.hid (show (Tryz.prog.info? 57).map (·.size) = some (arr mm).size by rw [arr_size, hml]; exact info_four)
                    have hgK : gK < wo.heap.size := HK.out.lt
                    have hgF : gF < wo.heap.size := HF.out.lt
                    have hgM : gM < wo.heap.size := HM.out.lt
                    clear HK HF HM HCB hbr
                    go_upto_region 30 with (first
                      | (refine wpList_load_row rfl 57 (.tmp 20) rfl gP rfl 57 (arr mm) (0, 0) _ HP.out Tryz.underlying57 rfl HIm.out ?_)
                      | (at_lookup; refine wpList_lookup_own_ok_int _ rfl _ _ 53 rfl 57 3 .i64 key4 Tryz.underlying53 Tryz.underlying3 (Tryz.zeroValue3 _) gK k D rfl HK2.out _ _ rfl HKEY.out ?_; intro c hat hwc)
                      | fail)
                    have hc : Maps.has D (kl4 mm) = true → c = bv := fun hh => by
                      have h1 := HD.out mm hM4 hh
                      rw [h1] at hat
                      rw [HBF.out]
                      simpa using hat.symm
                    generalize Maps.has D (kl4 mm) = hs at hc ⊢
                    clear hat
                    go_cut [22, 23, 208] from 194 to 207 (fun s22 s23 s208 wx => s208 = .bool false ∧ wx = wA)
                    case first =>
                      cases hs with
                      | false =>
                        go_wp2_with fail
                        go_meet
                        exact ⟨rfl, rfl⟩
                      | true =>
                        obtain rfl := hc rfl
                        go_wp2_with fail
                        go_meet
                        exact ⟨rfl, rfl⟩
                    case rest =>
                      obtain ⟨rfl, rfl⟩ := hcut
                      go_upto_region 32 with fail
                      refine wp_region_still_tail 6 (by kernel_rfl) (by kernel_rfl) ?_
                      simp only [List.take_succ_cons, List.take_zero, List.drop_succ_cons, List.drop_zero]
                      still_step
                      refine still_load_row rfl 57 (.tmp 20) rfl gP rfl 57 (arr mm) (0, 0) _ HP.out Tryz.underlying57 rfl HIm.out ?_
                      repeat still_step
                      try refine wpStill_nil ?_
                      go_upto_region 33 with (first
                        | (at_mapUpdate; refine wpList_mapUpdate_in _ rfl _ _ _ 53 rfl 57 3 key4 Tryz.underlying53 (plainElem (H := Value) Tryz.prog 3) gK k D rfl HK2.out.drew (by unfold maxLen; omega) _ _ _ rfl rfl HKEY.out (.lit (.int .i64 bv)) [] (plainElem_int Tryz.underlying3 (WalkArith.wf_i64 (by omega))) ?_; intro wM hown hturn)
                        | fail)
                      have e5 : kindV W mm / gg = bv := HBF.out.symm
                      have hk5 := kinds_put (f := fun m => kindV W m / gg) HD.out HK2.out.isMap hM4
                      simp only [e5] at hk5
                      have HD5 := Lib.hid hk5
                      have HK5 := Lib.hid hown
                      have hG := HG.out
                      have HF5 := Lib.hid (blk_turned (w := wc.drew) HF2.out hturn (by omega))
                      have HM5 := Lib.hid (blk_turned (w := wc.drew) HM2.out hturn (by omega))
                      have HP5 := Lib.hid (blk_turned (w := wc.drew) HP.out hturn (by omega))
                      have hb5 : Below w12.heap.size w12 wM := below_turned hbA.drew hturn (by omega) hbA.size
                      clear hG e5 hk5 hown hturn HF2 HM2 HP HK2 HD hbA hcB HKEY HIm HBF hc hwc
                      have hcF := HF5.out.cell x
                      rw [arr_get (by rw [figTo_length]; exact hx64)] at hcF
                      have hfF := HF5.out.frozen x
                      obtain ⟨p0, p1⟩ := figTo_bd bK.out (show k ≤ 4096 by omega) x
                      have HS1 := Lib.hid (fig_next (P := KP) HX.out.1)
                      rw [HBV.out] at HS1
                      generalize nth (figTo KP k) x = uF at hcF p0 p1 HS1
                      obtain ⟨gq, oq, e, hcB⟩ := (hrB.out.below hb5 (Nat.le_refl _)) k (by have := lK.out; omega)
                      cases e
                      rw [Nat.zero_add, HBV.out] at hcB
                      have hxi : (x : Int) < 64 := by omega
                      have hcP0 := HP5.out.cell 0
                      have hcP3 := HP5.out.cell 3
                      rw [arr_get (by omega)] at hcP0 hcP3
                      (try simp only [Act.put, List.setIfInBounds_toArray, List.set_cons_zero, List.set_cons_succ, List.getElem_toArray, List.getElem_cons_succ, List.getElem_cons_zero])
                      go_cut [] from 215 to 224 (fun wx => Hid (Blk wx gF 51 (arr (figTo KP (k + 1)))) ∧ Hid (Blk wx gM 52 (arr (movTo KP k))) ∧ Hid (Blk wx gP 57 (arr mm)) ∧ Hid (wx.ownsMap Tryz.prog 57 (plainElem (H := Value) Tryz.prog 3) gK (k + 1) (D.put (kl4 mm) (.lit (.int .i64 bv)))) ∧ Below w12.heap.size w12 wx)
                      case first =>
                        have e1 : IntKind.i64.wrap (uF + bv) = uF + bv := IntWalk.i64_in _ (by omega)
                        go_still_tail 10, (by kernel_rfl)
                        go_wp2_with fail
                        go_meet
                        exact ⟨by rw [HS1.out, ← arr_set]; exact HF5.out.set_ x (.int .i64 (uF + bv)), HM5.out.far (p := ⟨gF, x, none⟩) (show gM ≠ gF by have := HG.out; omega) _, HP5.out.far (p := ⟨gF, x, none⟩) (show gP ≠ gF by omega) _, HK5.out.setCell (a := ⟨gF, x, none⟩) (show gK ≠ gF by have := HG.out; omega) _, (hb5.setCell (p := ⟨gF, x, none⟩) (show w12.heap.size ≤ gF by have := HG.out; omega) _).drew⟩
                      case rest =>
                        clear HF5 HM5 HP5 HK5 hb5 hcF hfF p0 p1 HS1 hcB hcP0 hcP3
                        obtain ⟨HF6, HM6, HP6, HK6, hb6⟩ := hcut
                        obtain ⟨wN, hwN⟩ : ∃ z : World, wc = z := ⟨_, rfl⟩
                        rw [hwN] at HF6 HM6 HP6 HK6 hb6 ⊢
                        clear hwN
                        go_upto_region 34 with fail
                        obtain ⟨d0, d1⟩ := difTo_bd (x : Int) (y : Int) 6
                        obtain ⟨dd, hdd⟩ : ∃ dd, (difTo (x : Int) (y : Int) 6).toNat = dd := ⟨_, rfl⟩
                        have hdd7 : dd < 7 := by omega
                        have hddi : (dd : Int) < 7 := by omega
                        have HS2 := Lib.hid (mov_next (P := KP) (k := k) (j := dd) (by rw [HX.out.1, HX.out.2]; exact hdd))
                        rw [HBV.out] at HS2
                        have hcM := HM6.out.cell dd
                        rw [arr_get (by rw [movTo_length]; exact hdd7)] at hcM
                        have hfM := HM6.out.frozen dd
                        obtain ⟨p0, p1⟩ := movTo_bd bK.out (show k ≤ 4096 by omega) dd
                        generalize nth (movTo KP k) dd = uM at hcM p0 p1 HS2
                        obtain ⟨gq, oq, e, hcB⟩ := (hrB.out.below hb6 (Nat.le_refl _)) k (by have := lK.out; omega)
                        cases e
                        rw [Nat.zero_add, HBV.out] at hcB
                        have hcP0 := HP6.out.cell 0
                        have hcP3 := HP6.out.cell 3
                        rw [arr_get (by omega)] at hcP0 hcP3
                        have ed : IntKind.i64.wrap (nth mm 0 + nth mm 3) = (dd : Int) := by
                          rw [show nth mm 0 + nth mm 3 = (dd : Int) by omega]
                          exact IntWalk.i64_in _ (by omega)
                        clear hdd hmv d0 d1
                        generalize nth mm 0 = m0 at hcP0 hm0 ed
                        generalize nth mm 3 = m3 at hcP3 hm3 ed
                        go_cut [] from 225 to 237 (fun wx => Hid (Blk wx gF 51 (arr (figTo KP (k + 1)))) ∧ Hid (Blk wx gM 52 (arr (movTo KP (k + 1)))) ∧ Hid (wx.ownsMap Tryz.prog 57 (plainElem (H := Value) Tryz.prog 3) gK (k + 1) (D.put (kl4 mm) (.lit (.int .i64 bv)))) ∧ Below w12.heap.size w12 wx)
                        case first =>
                          have e1 : IntKind.i64.wrap (uM + bv) = uM + bv := IntWalk.i64_in _ (by omega)
                          go_still_tail 13, (by kernel_rfl)
                          go_wp2_with fail
                          go_meet
                          exact ⟨HF6.out.far (p := ⟨gM, dd, none⟩) (show gF ≠ gM by have := HG.out; omega) _, by rw [HS2.out, ← arr_set]; exact HM6.out.set_ dd (.int .i64 (uM + bv)), HK6.out.setCell (a := ⟨gM, dd, none⟩) (show gK ≠ gM by have := HG.out; omega) _, (hb6.setCell (p := ⟨gM, dd, none⟩) (show w12.heap.size ≤ gM by have := HG.out; omega) _).drew⟩
                        case rest =>
                          clear HF6 HM6 HP6 HK6 hb6 hcM hfM p0 p1 HS2 hcP0 hcP3 ed hcB
                          obtain ⟨HF7, HM7, HK7, hb7⟩ := hcut
                          obtain ⟨wN2, hwN⟩ : ∃ z : World, wc = z := ⟨_, rfl⟩
                          rw [hwN] at HF7 HM7 HK7 hb7 ⊢
                          clear hwN
                          obtain ⟨gq, oq, e, hcB⟩ := (hrB.out.below hb7 (Nat.le_refl _)) k (by have := lK.out; omega)
                          cases e
                          rw [Nat.zero_add, HBV.out] at hcB
                          have HS3 := Lib.hid (show A + bv = psum KP (k + 1) by rw [psum_succ (by have := lK.out; omega), HBV.out, HA.out])
                          go_wp2
                          go_roundw
                          case rel => exact ⟨k + 1, by omega, by go_num, ⟨A + bv, by first | rfl | go_num, HS3⟩, HF7, HM7, ⟨_, HD5, HK7⟩, hb7⟩
                          case measure => simp [intOf]; omega
              · have hk4 : k = 4096 := by omega
                have LKF := Lib.hid (HAF.out 64 k rfl hk4)
                have LKM := Lib.hid (HAM.out 7 k rfl hk4)
                have HB1 := Lib.hid (fun j => figTo_bd bK.out (show k ≤ 4096 by omega) j)
                have HB2 := Lib.hid (fun j => movTo_bd bK.out (show k ≤ 4096 by omega) j)
                have HL1 := Lib.hid (figTo_length KP k)
                have HL2 := Lib.hid (movTo_length KP k)
                have HALL2 := Lib.hid (show A = all by rw [HA.out, hk4, ← sK.out.1, ← psum_all, lK.out])
                generalize figTo KP k = SF at LKF HB1 HL1 HF
                generalize movTo KP k = SM at LKM HB2 HL2 HM
                subst hk4
                obtain ⟨wE, hwE⟩ : ∃ z : World, wo = z := ⟨_, rfl⟩
                rw [hwE] at HF HM hb ⊢
                have hrAE := Lib.hid (hrA.out.below hb (Nat.le_refl _))
                have hrCE := Lib.hid (hrC.out.below hb (Nat.le_refl _))
                have hsE := (hsV.below hb13 (Nat.le_refl _)).below hb (Nat.le_refl _)
                have hfE := (hfV.below hb13 (Nat.le_refl _)).below hb (Nat.le_refl _)
                have hbE := tr hbZ hb
                have hAll : A = all := HALL2.out
                clear hwE HK HD hA HA KF0 KM0 KK0 hbY hrA hrB hrC HAF HAM
                subst hAll
                have hA0 : ¬ A = 0 := by omega
                have hAb : (A == 0) = false := by simp; omega
                go_wp2_with fail
                go_loopw [24] (fun i wr => ∃ j : Nat, j ≤ 64 ∧ i = .int .i64 j ∧ ∃ r, wr = wE.drewN r) (fun i _ => 64 - (intOf i).toNat)
                case atStart => exact ⟨0, by omega, rfl, 0, rfl⟩
                case round =>
                  obtain ⟨j, hj, rfl, r, hw⟩ := hrel
                  by_cases hlt : j < 64
                  · have hji : (j : Int) < 64 := by omega
                    have hrV := hrAE.out.below (below_drewN (Below.refl _ wE) r) (Nat.le_refl _)
                    obtain ⟨g0, o0, e, hcA⟩ := hrV j (by rw [LKF.out.len]; exact hlt)
                    cases e
                    rw [Nat.zero_add] at hcA
                    have hcF : (wE.drewN r).cell? ⟨gF, j, none⟩ = some (.int .i64 (nth SF j)) := by
                      have := HF.out.cell j
                      rw [arr_get (by rw [HL1.out]; exact hlt)] at this
                      exact this
                    have C := Lib.hid (alike_of LKF.out (by omega) j hlt (some ⟨gA, 0, none⟩) (wE.drewN r).drew (by exact hrV) (HB1.out j))
                    have HO := Lib.hid (show eq = true → nth KF j = 1 from fun e => HON.out e j hlt)
                    rw [← hw] at hcA hcF C
                    have HW := Lib.hid hw
                    clear hrV hw
                    obtain ⟨a, ha⟩ : ∃ a, nth KF j = a := ⟨_, rfl⟩
                    rw [ha] at hcA C HO
                    clear ha
                    (try clear HALL2); (try clear LKM); (try clear LKF); (try clear hAb); (try clear hA0); (try clear ha2); (try clear ha1); (try clear sK); (try clear HALL); (try clear LT); (try clear hbE); (try clear hfE); (try clear hsE); (try clear hrCE); (try clear hrAE); (try clear HF); (try clear HM); (try clear hb); (try clear HL2); (try clear HB2); (try clear HL1); (try clear HB1); (try clear fK); (try clear bK); (try clear lK); (try clear HG); (try clear hbZ); (try clear hb13); (try clear HGG); (try clear HKM); (try clear HKF); (try clear HKP); (try clear hgV); (try clear hfV); (try clear hsV); (try clear hbV); (try clear hT); (try clear hltW); (try clear hbW0); (try clear hW0); (try clear hz2); (try clear hz1); (try clear hz0); (try clear hi); (try clear hf0); (try clear hs0); (try clear hl4)
                    cases eq with
                    | false =>
                      clear HO HON HE
                      go_wp2_with fail
                      refine wp_region_still_lit (by kernel_rfl) (by kernel_rfl) ?_
                      repeat still_step
                      still_call C.out
                      still_step
                      still_step
                      still_step
                      still_step
                      with_reducible refine wpStill_step (fun K hK => ?_)
                      go_simp
                      with_reducible refine hK _ ?_
                      clear hK K
                      with_reducible refine wpStill_step (fun K hK => ?_)
                      go_simp
                      with_reducible refine hK _ ?_
                      clear hK K
                      with_reducible refine wpStill_step (fun K hK => ?_)
                      go_simp
                      with_reducible refine hK _ ?_
                      clear hK K
                      with_reducible refine wpStill_step (fun K hK => ?_)
                      go_simp
                      with_reducible refine hK _ ?_
                      clear hK K
                      with_reducible refine wpStill_step (fun K hK => ?_)
                      go_simp
                      with_reducible refine hK _ ?_
                      clear hK K
                      with_reducible refine wpStill_step (fun K hK => ?_)
                      go_simp
                      with_reducible refine hK _ ?_
                      clear hK K
                      with_reducible refine wpStill_step (fun K hK => ?_)
                      go_simp
                      with_reducible refine hK _ ?_
                      clear hK K
                      with_reducible refine wpStill_nil ?_
                      go_wp2_with fail
                      go_roundw
                      case rel => exact ⟨j + 1, by omega, by go_num, r + 1, by rw [HW.out]; first | rfl | exact World.drewN_drewN ..⟩
                      case measure => simp [intOf]; omega
                    | true =>
                      obtain rfl := HO.out rfl
                      go_wp2_with fail
                      refine wp_region_still_lit (by kernel_rfl) (by kernel_rfl) ?_
                      repeat still_step
                      still_call C.out
                      with_reducible refine wpStill_step (fun K hK => ?_)
                      go_simp
                      with_reducible refine hK _ ?_
                      clear hK K
                      with_reducible refine wpStill_step (fun K hK => ?_)
                      go_simp
                      with_reducible refine hK _ ?_
                      clear hK K
                      with_reducible refine wpStill_step (fun K hK => ?_)
                      go_simp
                      with_reducible refine hK _ ?_
                      clear hK K
                      with_reducible refine wpStill_step (fun K hK => ?_)
                      go_simp
                      with_reducible refine hK _ ?_
                      clear hK K
                      with_reducible refine wpStill_step (fun K hK => ?_)
                      go_simp
                      with_reducible refine hK _ ?_
                      clear hK K
                      with_reducible refine wpStill_step (fun K hK => ?_)
                      go_simp
                      with_reducible refine hK _ ?_
                      clear hK K
                      with_reducible refine wpStill_step (fun K hK => ?_)
                      go_simp
                      with_reducible refine hK _ ?_
                      clear hK K
                      with_reducible refine wpStill_step (fun K hK => ?_)
                      go_simp
                      with_reducible refine hK _ ?_
                      clear hK K
                      with_reducible refine wpStill_step (fun K hK => ?_)
                      go_simp
                      with_reducible refine hK _ ?_
                      clear hK K
                      with_reducible refine wpStill_step (fun K hK => ?_)
                      go_simp
                      with_reducible refine hK _ ?_
                      clear hK K
                      with_reducible refine wpStill_step (fun K hK => ?_)
                      go_simp
                      with_reducible refine hK _ ?_
                      clear hK K
                      with_reducible refine wpStill_nil ?_
                      go_wp2_with fail
                      go_roundw
                      case rel => exact ⟨j + 1, by omega, by go_num, r + 1, by rw [HW.out]; first | rfl | exact World.drewN_drewN ..⟩
                      case measure => simp [intOf]; omega
                  · obtain rfl : j = 64 := by omega
                    have hsW := hsE.below (below_drewN (Below.refl _ wE) r) (Nat.le_refl _)
                    have hfW := hfE.below (below_drewN (Below.refl _ wE) r) (Nat.le_refl _)
                    have hbW := below_drewN hbE r
                    have hrW := hrCE.out.below (below_drewN (Below.refl _ wE) r) (Nat.le_refl _)
                    have HMW := Lib.hid (show Blk (wE.drewN r) gM 52 (arr SM) from HM.out)
                    rw [← hw] at hsW hfW hbW hrW HMW
                    have HRW := Lib.hid hrW
                    clear hw hrW HON hsE hfE hbE hrAE hrCE HM HF hb HL1 HB1 LKF
                    (try clear HALL2); (try clear LT); (try clear HALL); (try clear sK); (try clear bK); (try clear fK); (try clear lK); (try clear HGG); (try clear HKP); (try clear HKF); (try clear HKM); (try clear HG); (try clear hbZ); (try clear hb13); (try clear hgV); (try clear hfV); (try clear hsV); (try clear hbV); (try clear hT); (try clear hltW); (try clear hbW0); (try clear hW0); (try clear hz2); (try clear hz1); (try clear hz0); (try clear hi); (try clear hf0); (try clear hs0); (try clear hl4)
                    obtain ⟨wF, hwF⟩ : ∃ z : World, wr = z := ⟨_, rfl⟩
                    rw [hwF] at hsW hfW hbW HRW HMW ⊢
                    clear hwF
                    go_wp2_with fail
                    go_loopw [25] (fun i wr => ∃ j : Nat, j ≤ 7 ∧ i = .int .i64 j ∧ ∃ r, wr = wF.drewN r) (fun i _ => 7 - (intOf i).toNat)
                    case atStart => exact ⟨0, by omega, rfl, 0, rfl⟩
                    case round =>
                      obtain ⟨j, hj, rfl, r, hw⟩ := hrel
                      have HW := Lib.hid hw
                      by_cases hlt : j < 7
                      · have hji : (j : Int) < 7 := by omega
                        have hjd : decide ((j : Int) < 7) = true := by simp; omega
                        have hrV := HRW.out.below (below_drewN (Below.refl _ wF) r) (Nat.le_refl _)
                        obtain ⟨g0, o0, e, hcA⟩ := hrV j (by rw [LKM.out.len]; exact hlt)
                        cases e
                        rw [Nat.zero_add] at hcA
                        have hcF : (wF.drewN r).cell? ⟨gM, j, none⟩ = some (.int .i64 (nth SM j)) := by
                          have := HMW.out.cell j
                          rw [arr_get (by rw [HL2.out]; exact hlt)] at this
                          exact this
                        have C := Lib.hid (alike_of LKM.out (by omega) j hlt (some ⟨gC, 0, none⟩) (wF.drewN r).drew (by exact hrV) (HB2.out j))
                        rw [← hw] at hcA hcF C
                        clear hrV hw hsW hfW hbW HRW HMW HL2 HB2 LKM
                        generalize nth KM j = a at hcA C
                        generalize nth SM j = b at hcF C
                        go_wp2_with fail
                        refine wp_region_still_lit (by kernel_rfl) (by kernel_rfl) ?_
                        repeat still_step
                        still_call C.out
                        repeat still_step
                        refine wpStill_nil ?_
                        go_wp2_with fail
                        go_roundw
                        case rel => first | exact ⟨j + 1, by omega, by go_num, r + 1, by rw [HW.out]; first | rfl | exact World.drewN_drewN ..⟩ | ((repeat apply Exists.intro); exact ⟨⟨j + 1, by omega, by go_num, r + 1, by rw [HW.out]; first | rfl | exact World.drewN_drewN ..⟩, rfl⟩)
                        case measure => simp [intOf]; omega
                      · obtain rfl : j = 7 := by omega
                        have hsX := hsW.below (below_drewN (Below.refl _ wF) r) (Nat.le_refl _)
                        have hfX := hfW.below (below_drewN (Below.refl _ wF) r) (Nat.le_refl _)
                        have hbX := below_drewN hbW r
                        rw [← hw] at hsX hfX hbX
                        clear hw HRW HMW hsW hfW hbW HL2 HB2 LKM
                        go_wp2_with fail
                        refine (known_any _ hsX hfX).mono ?_
                        rintro e wz ⟨rfl, hbz⟩
                        go_wp2
                        go_ret
                        exact ⟨rfl, tr hbX hbz⟩
end Go.Proofs.YtdfdgeaohneeaaaGreatDoor
