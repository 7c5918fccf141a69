/-
  ShieldFound: the walk of the law.
-/
import Derived.Test.YthioojappmnnaaaDoorShFd
import Derived.Test.YthioojappmnnaaaDoorShMe
import Derived.Test.YthioojappmnnaaaDoorShK
import Derived.Test.YthioojappmnnaaaDoorShQ
import Derived.Test.YthioojappmnnaaaDoorShOe
namespace Go.Proofs.YthioojappmnnaaaDoor
open Go Go.RowKit
set_option linter.unusedVariables false

theorem mothersF (n : Int) (h0 : 0 ≤ n) (h1 : n ≤ 65535) (w : World) : Calls Tryd.prog 5 #[.int .i64 n] w fun e w' => e = .returned (.tuple #[.agg (arr (nibs n)), .int .i64 0]) ∧ Below w.heap.size w w' := by
  have := mothers_any n w
  have ho : outB 0 65535 n = false := by simp [outB]; omega
  rwa [show mothV n = nibs n by unfold mothV; rw [ho]; rfl, show mothE n = 0 by unfold mothE; rw [ho]; rfl] at this
theorem deriveF (m : List Int) (hl : m.length = 4) (hm : ∀ k, k < 4 → Fig (nth m k)) (w : World) (hp : Par w) : Calls Tryd.prog 6 #[.agg (arr m)] w fun e w' => e = .returned (.tuple #[.agg (arr (dP m 16)), .int .i64 0]) ∧ Below w.heap.size w w' := by
  obtain ⟨a, b, c, d, rfl⟩ := four hl
  have := derive_any a b c d w hp
  rwa [show deriveV [a, b, c, d] = dP [a, b, c, d] 16 by unfold deriveV; rw [if_pos (chkF_moth rfl hm)], chkF_moth rfl hm] at this

theorem rep_cells {w : World} {g : Nat} {t : TypeId} {a b : Int} {C : List Int} (h : Blk w g t (arr (a :: b :: C))) : ∀ j v, (arr C).toList[j]? = some v → w.cell? ((⟨g, 2, none⟩ : Addr).add j) = some v := fun j v hj => by
  rw [Go.WideShapes.add_plain, h.cell, Nat.add_comm 2 j]
  simpa [arr] using hj

set_option maxRecDepth 100000 in
set_option maxHeartbeats 4000000 in
theorem found_many (nb : Int) (p : Option Addr) (n c : Nat) (w : World) (h5 : 5 < n) (hp : Par w) (hn : Nam w) :
    Calls Tryd.prog 3 #[.int .u16 nb, .slice p n c] w fun e w' => e = .returned (.bool true) ∧ Below w.heap.size w w' := by
  have x0 : (5 : Int) < (n : Int) := by omega
  go_enter Tryd.func3, Tryd.ntmps3
  go_wp2_with fail
  refine (known_any _ hp hn).mono ?_
  rintro e w1 ⟨rfl, hb⟩
  go_wp2
  go_ret
  exact ⟨rfl, hb⟩

set_option maxRecDepth 100000 in
set_option maxHeartbeats 16000000 in
theorem found_few (N : Nat) (hN : N < 65536) (p : Option Addr) (n c : Nat) (X Y : Nat → Int) (w : World) (hSl : Slips w p X Y n) (h5 : n ≤ 5) (hp : Par w) (hn : Nam w) :
    Calls Tryd.prog 3 #[.int .u16 (N : Int), .slice p n c] w fun e w' => e = .returned (.bool true) ∧ Below w.heap.size w w' := by
  have x0 : ¬ (5 : Int) < (n : Int) := by omega
  have hN1 : (N : Int) ≤ 65535 := by omega
  have HSL := Lib.hid hSl
  have HN := Lib.hid hN
  clear hSl hN
  go_enter Tryd.func3, Tryd.ntmps3
  go_wp2_with fail
  refine (mothersF (N : Int) (by omega) hN1 _).mono ?_
  rintro e w1 ⟨rfl, hb1⟩
  have HM := Lib.hid (Blk.new w1 28 (arr [0, 0, 0, 0]))
  go_wp2_with (first
    | (refine wpList_store_row rfl 28 (.tmp 5) (.tmp 24) rfl w1.heap.size (arr (nibs (N : Int))) rfl rfl 28 _ HM.out info_moth rfl (arr_one _) ?_)
    | (refine wpList_load_row rfl 28 (.tmp 5) rfl w1.heap.size rfl 28 (arr (nibs (N : Int))) (0, 0) _ (HM.out.row _) Tryd.underlying28 rfl info_moth ?_))
  have hb2 : Below w.heap.size w ((w1.alloc (.cells (arr [0, 0, 0, 0]) 28)).setRow w1.heap.size (arr (nibs (N : Int)))) := below_setRow (hb1.alloc hb1.size _) hb1.size _
  refine (deriveF (nibs (N : Int)) rfl (nibs_figs (by omega) hN1) _ (hp.below hb2 (Nat.le_refl _))).mono ?_
  rintro e w2 ⟨rfl, hb3⟩
  have hb4 := tr hb2 hb3
  clear hb1 hb2 hb3 HM
  have HS := Lib.hid (Blk.new w2 33 (arr (List.replicate 16 0)))
  have hC : IsChart (chV N) := chV_is N
  rw [show dP (nibs (N : Int)) 16 = chV N from rfl]
  have HF := Lib.hid (fun B (h1 : B.length = 16) (h2 : Figs B) (h3 : difTo B (chV N) 16 ≤ 5) => found_facts HN.out h1 h2 h3)
  obtain ⟨S, hS⟩ : ∃ S, chV N = S := ⟨_, rfl⟩
  rw [hS] at hC HF ⊢
  have HC := Lib.hid hC
  have HL := Lib.hid hC.len
  have HI := Lib.hid (show (Tryd.prog.info? 33).map (·.size) = some (arr S).size by rw [arr_size, HL.out]; exact info_shield)
  have HO := Lib.hid (show (arr (List.replicate 16 0)).size = (arr S).size by rw [arr_size, arr_size, HL.out]; rfl)
  have HS2 := Lib.hid (HS.out.row (arr S))
  have hb5 : Below w.heap.size w ((w2.alloc (.cells (arr (List.replicate 16 0)) 33)).setRow w2.heap.size (arr S)) := below_setRow (hb4.alloc hb4.size _) hb4.size _
  clear hS hC HN
  have hsz : ((w2.alloc (.cells (arr (List.replicate 16 0)) 33)).setRow w2.heap.size (arr S)).heap.size = w2.heap.size + 1 := by simp
  have HT := Lib.hid (show Blk (((w2.alloc (.cells (arr (List.replicate 16 0)) 33)).setRow w2.heap.size (arr S)).alloc (.cells (arr (List.replicate 16 0)) 33)) (w2.heap.size + 1) 33 (arr (List.replicate 16 0)) from newAt hsz)
  go_wp2_with (first
    | (refine wpList_store_row rfl 33 (.tmp 7) (.tmp 29) rfl w2.heap.size (arr S) rfl rfl 33 _ HS.out HI.out HO.out (arr_one _) ?_)
    | (refine wpList_load_row rfl 33 (.tmp 7) rfl w2.heap.size rfl 33 (arr S) (0, 0) _ HS2.out Tryd.underlying33 rfl HI.out ?_)
    | (refine wpList_store_row rfl 33 (.tmp 9) (.tmp 37) rfl (w2.heap.size + 1) (arr S) rfl rfl 33 _ HT.out HI.out HO.out (arr_one _) ?_))
  have HB7 := Lib.hid (show Blk ((((w2.alloc (.cells (arr (List.replicate 16 0)) 33)).setRow w2.heap.size (arr S)).alloc (.cells (arr (List.replicate 16 0)) 33)).setRow (w2.heap.size + 1) (arr S)) w2.heap.size 33 (arr S) from
    (HS2.out.alloc _).below (below_setRow (Below.refl (w2.heap.size + 1) _) (Nat.le_refl _) _) (by omega))
  have HB9 := Lib.hid (show Blk ((((w2.alloc (.cells (arr (List.replicate 16 0)) 33)).setRow w2.heap.size (arr S)).alloc (.cells (arr (List.replicate 16 0)) 33)).setRow (w2.heap.size + 1) (arr S)) (w2.heap.size + 1) 33 (arr S) from HT.out.row _)
  have hb6 : Below w.heap.size w ((((w2.alloc (.cells (arr (List.replicate 16 0)) 33)).setRow w2.heap.size (arr S)).alloc (.cells (arr (List.replicate 16 0)) 33)).setRow (w2.heap.size + 1) (arr S)) :=
    below_setRow (hb5.alloc hb5.size _) (by have := hb4.size; omega) _
  have hle2 := hb4.size
  obtain ⟨W, hW⟩ : ∃ W, (((w2.alloc (.cells (arr (List.replicate 16 0)) 33)).setRow w2.heap.size (arr S)).alloc (.cells (arr (List.replicate 16 0)) 33)).setRow (w2.heap.size + 1) (arr S) = W := ⟨_, rfl⟩
  rw [hW] at HB7 HB9 hb6
  have e0 : (((w2.alloc (.cells #[.int .i64 0, .int .i64 0, .int .i64 0, .int .i64 0, .int .i64 0, .int .i64 0, .int .i64 0, .int .i64 0, .int .i64 0, .int .i64 0, .int .i64 0, .int .i64 0, .int .i64 0, .int .i64 0, .int .i64 0, .int .i64 0] 33)).setRow w2.heap.size (arr S)).alloc (.cells #[.int .i64 0, .int .i64 0, .int .i64 0, .int .i64 0, .int .i64 0, .int .i64 0, .int .i64 0, .int .i64 0, .int .i64 0, .int .i64 0, .int .i64 0, .int .i64 0, .int .i64 0, .int .i64 0, .int .i64 0, .int .i64 0] 33)).setRow (w2.heap.size + 1) (arr S) = W := hW
  rw [e0]
  clear hW e0 HS HO HS2 hb5 hsz HT hb4
  have hsW := HB9.out.lt
  go_loopw [10] (fun v wr => ∃ i : Nat, i ≤ n ∧ v = .int .i64 i ∧ ∃ B : List Int, Hid (B.length = 16) ∧ Hid (Figs B) ∧ Hid (difTo B S 16 ≤ i) ∧ Hid (Blk wr (w2.heap.size + 1) 33 (arr B)) ∧ Below (w2.heap.size + 1) W wr) (fun v _ => n - (intOf v).toNat)
  case atStart => exact ⟨0, by omega, rfl, S, HL, Lib.hid HC.out.figs, Lib.hid (by rw [difTo_eq HC.out.figs (Nat.le_refl 16) fun _ _ => rfl]; exact Int.le_refl _), HB9, Below.refl _ _⟩
  case round =>
    obtain ⟨i, hi, rfl, B, HBl, HBf, HBd, HBb, hBi⟩ := hrel
    clear HB9
    by_cases hlt : i < n
    · have hbw : Below w.heap.size w wr := hb6.trans (hBi.mono (by omega))
      obtain ⟨g, o, rfl, k1, k2, a0, a1, b0, b1⟩ := (HSL.out.below hbw (Nat.le_refl _)) i hlt
      obtain ⟨P, hP⟩ : ∃ P : Nat, X i % 16 = (P : Int) := ⟨(X i % 16).toNat, by omega⟩
      obtain ⟨L, hL⟩ : ∃ L : Nat, Y i % 4 = (L : Int) := ⟨(Y i % 4).toNat, by omega⟩
      have hP16 : P < 16 := by omega
      have hL4 : L < 4 := by omega
      have c3 : wr.cell? ⟨w2.heap.size + 1, P, none⟩ = some (.int .i64 (nth B P)) := by rw [HBb.out.cell P, arr_get (by rw [HBl.out]; exact hP16)]
      have f3 := HBb.out.frozen P
      have HM1 := Lib.hid (mark_more HBl.out HBf.out HC.out.figs hP16 hL4)
      have HS := Lib.hid (show Blk (wr.setCell ⟨w2.heap.size + 1, P, none⟩ (.int .i64 (xorF (nth B P) (2 ^ L)))) (w2.heap.size + 1) 33 (arr (B.set P (xorF (nth B P) (2 ^ L)))) from by
        have := HBb.out.set_ P (.int .i64 (xorF (nth B P) (2 ^ L)))
        rw [arr_set] at this
        exact this)
      obtain ⟨x, hx⟩ : ∃ x, X i = x := ⟨_, rfl⟩
      obtain ⟨y, hy⟩ : ∃ y, Y i = y := ⟨_, rfl⟩
      obtain ⟨z, hz⟩ : ∃ z, nth B P = z := ⟨_, rfl⟩
      rw [hx] at k1 a0 a1 hP
      rw [hy] at k2 b0 b1 hL
      rw [hz] at c3 HS HM1
      have hT1 : x.tmod 16 = (P : Int) := by rw [Int.tmod_eq_emod_of_nonneg a0]; exact hP
      have hT2 : y.tmod 4 = (L : Int) := by rw [Int.tmod_eq_emod_of_nonneg b0]; exact hL
      have hPi : (P : Int) < 16 := by omega
      have hiN : (i : Int) < (n : Int) := by omega
      have HXR := Lib.hid (fun q => show xorF z q = bits BinOp.xor IntKind.i64 z q from rfl)
      have HP16 := Lib.hid hP16
      clear hx hy hz hP hL hP16
      have e : L = 0 ∨ L = 1 ∨ L = 2 ∨ L = 3 := by omega
      clear hL4
      go_wp2_with fail
      have EM := Lib.hid (fun (v : Int) (hv : (2 : Int) ^ L = v) => show Hid (Blk (wr.setCell ⟨w2.heap.size + 1, P, none⟩ (.int .i64 (bits BinOp.xor IntKind.i64 z v))) (w2.heap.size + 1) 33 (arr (B.set P (bits BinOp.xor IntKind.i64 z v)))) ∧ Hid (Figs (B.set P (bits BinOp.xor IntKind.i64 z v))) ∧ Hid (difTo (B.set P (bits BinOp.xor IntKind.i64 z v)) S 16 ≤ ((i + 1 : Nat) : Int)) ∧ Hid ((B.set P (bits BinOp.xor IntKind.i64 z v)).length = 16) from by
        subst hv
        refine ⟨HS, Lib.hid HM1.out.1, Lib.hid ?_, Lib.hid (by rw [List.length_set]; exact HBl.out)⟩
        have h1 := HM1.out.2
        have h2 := HBd.out
        show difTo (B.set P (xorF z (2 ^ L))) S 16 ≤ _
        omega)
      clear HS HM1 HBb HBl HBf HBd HXR
      rcases e with rfl | rfl | rfl | rfl
      all_goals
        have wi1 : IntKind.i64.wrap 1 = 1 := by decide
        have wi2 : IntKind.i64.wrap 2 = 2 := by decide
        have wi4 : IntKind.i64.wrap 4 = 4 := by decide
        have wi8 : IntKind.i64.wrap 8 = 8 := by decide
        have wu0 : IntKind.u64.wrap 0 = 0 := by decide
        have wu1 : IntKind.u64.wrap 1 = 1 := by decide
        have wu2 : IntKind.u64.wrap 2 = 2 := by decide
        have wu3 : IntKind.u64.wrap 3 = 3 := by decide
        go_still_tail 18, (by kernel_rfl)
        go_wp2
        go_roundw
        case rel => first
          | exact ⟨i + 1, by omega, by go_num, B.set P (bits BinOp.xor IntKind.i64 z 1), (EM.out 1 (by decide)).2.2.2, (EM.out 1 (by decide)).2.1, (EM.out 1 (by decide)).2.2.1, (EM.out 1 (by decide)).1, (hBi.setCell (by simp) _).drew⟩
          | exact ⟨i + 1, by omega, by go_num, B.set P (bits BinOp.xor IntKind.i64 z 2), (EM.out 2 (by decide)).2.2.2, (EM.out 2 (by decide)).2.1, (EM.out 2 (by decide)).2.2.1, (EM.out 2 (by decide)).1, (hBi.setCell (by simp) _).drew⟩
          | exact ⟨i + 1, by omega, by go_num, B.set P (bits BinOp.xor IntKind.i64 z 4), (EM.out 4 (by decide)).2.2.2, (EM.out 4 (by decide)).2.1, (EM.out 4 (by decide)).2.2.1, (EM.out 4 (by decide)).1, (hBi.setCell (by simp) _).drew⟩
          | exact ⟨i + 1, by omega, by go_num, B.set P (bits BinOp.xor IntKind.i64 z 8), (EM.out 8 (by decide)).2.2.2, (EM.out 8 (by decide)).2.1, (EM.out 8 (by decide)).2.2.1, (EM.out 8 (by decide)).1, (hBi.setCell (by simp) _).drew⟩
        case measure => simp [intOf]; omega
    · obtain rfl : i = n := by omega
      have hB1 : Below w.heap.size w wr := hb6.trans (hBi.mono (by omega))
      have HB7' := Lib.hid (HB7.out.below hBi (by omega))
      have hs1 := HBb.out.lt
      obtain ⟨U0, hU0⟩ : ∃ U0, wr = U0 := ⟨_, rfl⟩
      subst hU0
      have HD5 := Lib.hid (show difTo B S 16 ≤ 5 by have := HBd.out; omega)
      clear hBi HB7 hb6 hsW HBd
      go_wp2_with fail
      go_loopw [11, 12] (fun m j wz => ∃ k : Nat, k ≤ 16 ∧ j = .int .i64 k ∧ m = .int .i64 (difTo B S k) ∧ ∃ r, wz = wr.drewN r) (fun _ j _ => 16 - (intOf j).toNat)
      case atStart => exact ⟨0, by omega, rfl, rfl, 0, rfl⟩
      case round =>
        obtain ⟨k, hk, rfl, rfl, r, hwz⟩ := hrel
        subst hwz
        by_cases hlt2 : k < 16
        · have c1 : wr.cell? ⟨w2.heap.size + 1, k, none⟩ = some (.int .i64 (nth B k)) := by rw [HBb.out.cell k, arr_get (by rw [HBl.out]; exact hlt2)]
          have c2 : wr.cell? ⟨w2.heap.size, k, none⟩ = some (.int .i64 (nth S k)) := by rw [HB7'.out.cell k, arr_get (by rw [HL.out]; exact hlt2)]
          have hf := xorF_fig (HBf.out k hlt2) (HC.out.figs k hlt2)
          have ES := Lib.hid (show difTo B S (k + 1) = difTo B S k + onesF (xorF (nth B k) (nth S k)) from rfl)
          have hq := difTo_bd B S k
          have ho := onesF_bd (xorF (nth B k) (nth S k))
          have hX : xorF (nth B k) (nth S k) = bits BinOp.xor IntKind.i64 (nth B k) (nth S k) := rfl
          obtain ⟨Xk, hXX⟩ : ∃ Xk, xorF (nth B k) (nth S k) = Xk := ⟨_, rfl⟩
          rw [hXX] at hf ES ho hX
          obtain ⟨u, hu⟩ : ∃ u, nth B k = u := ⟨_, rfl⟩
          obtain ⟨v, hv⟩ : ∃ v, nth S k = v := ⟨_, rfl⟩
          rw [hu, hv] at hX
          rw [hu] at c1
          rw [hv] at c2
          obtain ⟨q, hqq⟩ : ∃ q, difTo B S k = q := ⟨_, rfl⟩
          rw [hqq] at hq ES ⊢
          obtain ⟨o, hoo⟩ : ∃ o, onesF Xk = o := ⟨_, rfl⟩
          have CO := Lib.hid (fun W => ones_any Xk hf W)
          rw [hoo] at ho ES CO
          have hX2 : bits BinOp.xor IntKind.i64 u v = Xk := hX.symm
          have hwq : IntKind.i64.wrap (q + o) = q + o := wraps_i64_62 _ (by omega) (by omega)
          clear hXX hu hv hqq hoo hX hf
          go_wp2_with fail
          go_quiet ((go_at_call 7; exact (CO.out _).mono fun _ _ ⟨h, h'⟩ => ⟨h, _, h'.symm⟩))
          go_wp2_with fail
          go_roundw
          case rel => exact ⟨k + 1, by omega, by go_num, by rw [ES.out], _, by first | rfl | exact World.drewN_drewN ..⟩
          case measure => simp [intOf]; omega
        · obtain rfl : k = 16 := by omega
          have hBV : Below w.heap.size w (wr.drewN r) := below_drewN hB1 r
          have H9 := Lib.hid (show Blk (wr.drewN r) (w2.heap.size + 1) 33 (arr B) from HBb.out)
          have H7 := Lib.hid (show Blk (wr.drewN r) w2.heap.size 33 (arr S) from HB7'.out)
          obtain ⟨V, hV⟩ : ∃ V, wr.drewN r = V := ⟨_, rfl⟩
          rw [hV] at hBV H9 H7 ⊢
          clear hV hB1 HBb HB7' hs1
          have HIB := Lib.hid (show (Tryd.prog.info? 33).map (·.size) = some (arr B).size by rw [arr_size, HBl.out]; exact info_shield)
          have hff := HF.out B HBl.out HBf.out HD5.out
          have hck := chkF_figs HBl.out HBf.out
          have WR := Lib.hid (fun wx hx => wrong_any B HBl.out wx hx)
          have ME := Lib.hid (fun wx hx => mend_any B HBl.out wx hx)
          rw [hck] at WR ME
          obtain ⟨m, hm⟩ : ∃ m, (wrongV B).length = m := ⟨_, rfl⟩
          have hm0 : m = 0 ↔ wrongV B = [] := by rw [← hm]; exact List.length_eq_zero_iff
          have hm16 : m ≤ 16 := by
            rw [← hm]
            unfold wrongV
            by_cases h : chkF B = 0
            · rw [if_pos h]; exact wrongTo_len B 16
            · rw [if_neg h]; exact Nat.zero_le _
          rw [← hm0] at hff
          rw [hm] at WR
          obtain ⟨rr, hrr⟩ : ∃ rr, mendL B (upto id 65536) = rr := ⟨_, rfl⟩
          rw [hrr] at hff ME
          obtain ⟨ma, mb, mc⟩ := rr
          obtain ⟨d, hd⟩ : ∃ d, difTo B S 16 = d := ⟨_, rfl⟩
          have hd0 := (difTo_bd B S 16).1
          rw [hd] at hff hd0 HD5 ⊢
          obtain ⟨f1, f2, f3, f4, f5, y, hy, f6⟩ := hff
          have WC := Lib.hid (fun wx hx => wrong_any mc (by show mc.length = 16; rw [show mc = chV y from f6]; exact (chV_is y).len) wx hx)
          rw [show mc = chV y from f6, show wrongV (chV y) = [] from wrong_dP rfl (nibs_figs (by omega) (by omega)), chkF_figs (chV_is y).len (chV_is y).figs] at WC
          obtain ⟨c0, c1, c2, c3, c4, c5, c6, c7, c8, c9, c10, c11, c12, c13, c14, c15, hc⟩ := list16 (chV_is y).len
          obtain rfl : mc = chV y := f6
          rw [hc] at WC ME f5
          have f2 : ma = 0 ↔ d = 0 := f2
          have f3 : ma ≤ d := f3
          have f4 : 1 ≤ mb := f4
          obtain ⟨mz, hmzz⟩ : ∃ mz : Int, (mb : Int) = mz := ⟨_, rfl⟩
          have hrep : repL (ma, mb, [c0, c1, c2, c3, c4, c5, c6, c7, c8, c9, c10, c11, c12, c13, c14, c15]) = [ma, mz, c0, c1, c2, c3, c4, c5, c6, c7, c8, c9, c10, c11, c12, c13, c14, c15] := by rw [← hmzz]; rfl
          rw [hrep] at ME
          have f4' : 1 ≤ mz := by omega
          have f5' : d ≤ 2 → ma = d ∧ mz = 1 ∧ [c0, c1, c2, c3, c4, c5, c6, c7, c8, c9, c10, c11, c12, c13, c14, c15] = S := fun h => by
            have e := f5 h
            simp only [Prod.mk.injEq] at e
            exact ⟨e.1, by rw [← hmzz, e.2.1]; rfl, e.2.2⟩
          clear hmzz hrep f4 f5 hc hy hm hm0 hck hrr hd HBl HBf HF HSL HC
          go_wp2_with (refine wpList_load_row rfl 33 (.tmp 9) rfl (w2.heap.size + 1) rfl 33 (arr B) (0, 0) _ H9.out Tryd.underlying33 rfl HIB.out ?_)
          refine (WR.out _ (hp.below hBV (Nat.le_refl _))).mono ?_
          rintro e w3 ⟨⟨q3, k3, rfl, hq3⟩, hb7⟩
          have H93 := Lib.hid (H9.out.below hb7 H9.out.lt)
          have H73 := Lib.hid (H7.out.below hb7 H7.out.lt)
          have hb8 := tr hBV hb7
          clear hq3 hb7 H9 H7 WR hBV
          go_wp2_with (refine wpList_load_row rfl 33 (.tmp 9) rfl (w2.heap.size + 1) rfl 33 (arr B) (0, 0) _ H93.out Tryd.underlying33 rfl HIB.out ?_)
          refine (ME.out _ (hp.below hb8 (Nat.le_refl _))).mono ?_
          rintro e w4 ⟨rfl, hb9⟩
          rw [if_pos trivial]
          have H74 := Lib.hid (H73.out.below hb9 H73.out.lt)
          have hb10 := tr hb8 hb9
          have hs4 := H74.out.lt
          clear hb9 hb8 H93 H73 ME HIB
          have HN := Lib.hid (Blk.new w4 43 (arr [0, 0, 0, 0, 0, 0, 0, 0, 0, 0, 0, 0, 0, 0, 0, 0, 0, 0]))
          have hbU : Below w.heap.size w ((w4.alloc (.cells (arr [0, 0, 0, 0, 0, 0, 0, 0, 0, 0, 0, 0, 0, 0, 0, 0, 0, 0]) 43)).setRow w4.heap.size (arr [ma, mz, c0, c1, c2, c3, c4, c5, c6, c7, c8, c9, c10, c11, c12, c13, c14, c15])) := below_setRow (hb10.alloc hb10.size _) hb10.size _
          have HR := Lib.hid (show Blk ((w4.alloc (.cells (arr [0, 0, 0, 0, 0, 0, 0, 0, 0, 0, 0, 0, 0, 0, 0, 0, 0, 0]) 43)).setRow w4.heap.size (arr [ma, mz, c0, c1, c2, c3, c4, c5, c6, c7, c8, c9, c10, c11, c12, c13, c14, c15])) w4.heap.size 43 (arr [ma, mz, c0, c1, c2, c3, c4, c5, c6, c7, c8, c9, c10, c11, c12, c13, c14, c15]) from HN.out.row _)
          have H7U := Lib.hid (show Blk ((w4.alloc (.cells (arr [0, 0, 0, 0, 0, 0, 0, 0, 0, 0, 0, 0, 0, 0, 0, 0, 0, 0]) 43)).setRow w4.heap.size (arr [ma, mz, c0, c1, c2, c3, c4, c5, c6, c7, c8, c9, c10, c11, c12, c13, c14, c15])) w2.heap.size 33 (arr S) from (H74.out.alloc _).below (below_setRow (Below.refl w4.heap.size _) (Nat.le_refl _) _) hs4)
          obtain ⟨U, hU⟩ : ∃ U, (w4.alloc (.cells (arr [0, 0, 0, 0, 0, 0, 0, 0, 0, 0, 0, 0, 0, 0, 0, 0, 0, 0]) 43)).setRow w4.heap.size (arr [ma, mz, c0, c1, c2, c3, c4, c5, c6, c7, c8, c9, c10, c11, c12, c13, c14, c15]) = U := ⟨_, rfl⟩
          rw [hU] at hbU HR H7U
          have e0 : (w4.alloc (.cells #[.int .i64 0, .int .i64 0, .int .i64 0, .int .i64 0, .int .i64 0, .int .i64 0, .int .i64 0, .int .i64 0, .int .i64 0, .int .i64 0, .int .i64 0, .int .i64 0, .int .i64 0, .int .i64 0, .int .i64 0, .int .i64 0, .int .i64 0, .int .i64 0] 43)).setRow w4.heap.size (arr [ma, mz, c0, c1, c2, c3, c4, c5, c6, c7, c8, c9, c10, c11, c12, c13, c14, c15]) = U := hU
          have E1 := Lib.hid e0
          clear hU e0 H74 hb10
          have HIC := Lib.hid (show (Tryd.prog.info? 33).map (·.size) = some (arr [c0, c1, c2, c3, c4, c5, c6, c7, c8, c9, c10, c11, c12, c13, c14, c15]).size by rw [arr_size]; exact info_shield)
          have u0 : U.cell? ⟨w4.heap.size, 0, none⟩ = some (.int .i64 ma) := by rw [HR.out.cell 0]; rfl
          have u1 : U.cell? ⟨w4.heap.size, 1, none⟩ = some (.int .i64 mz) := by rw [HR.out.cell 1]; rfl
          have y3 : decide (d < ma) = false := by simp; exact f3
          have y4 : decide (mz < 1) = false := by simp; omega
          by_cases h2 : d ≤ 2
          · obtain ⟨e1, e2, e3⟩ := f5' h2
            subst e1 e2 e3
            have k0 : U.cell? ⟨w4.heap.size, 2, none⟩ = some (.int .i64 c0) := by rw [HR.out.cell 2]; rfl
            have s0 : U.cell? ⟨w2.heap.size, 0, none⟩ = some (.int .i64 c0) := by rw [H7U.out.cell 0]; rfl
            have k1 : U.cell? ⟨w4.heap.size, 3, none⟩ = some (.int .i64 c1) := by rw [HR.out.cell 3]; rfl
            have s1 : U.cell? ⟨w2.heap.size, 1, none⟩ = some (.int .i64 c1) := by rw [H7U.out.cell 1]; rfl
            have k2 : U.cell? ⟨w4.heap.size, 4, none⟩ = some (.int .i64 c2) := by rw [HR.out.cell 4]; rfl
            have s2 : U.cell? ⟨w2.heap.size, 2, none⟩ = some (.int .i64 c2) := by rw [H7U.out.cell 2]; rfl
            have k3 : U.cell? ⟨w4.heap.size, 5, none⟩ = some (.int .i64 c3) := by rw [HR.out.cell 5]; rfl
            have s3 : U.cell? ⟨w2.heap.size, 3, none⟩ = some (.int .i64 c3) := by rw [H7U.out.cell 3]; rfl
            have k4 : U.cell? ⟨w4.heap.size, 6, none⟩ = some (.int .i64 c4) := by rw [HR.out.cell 6]; rfl
            have s4 : U.cell? ⟨w2.heap.size, 4, none⟩ = some (.int .i64 c4) := by rw [H7U.out.cell 4]; rfl
            have k5 : U.cell? ⟨w4.heap.size, 7, none⟩ = some (.int .i64 c5) := by rw [HR.out.cell 7]; rfl
            have s5 : U.cell? ⟨w2.heap.size, 5, none⟩ = some (.int .i64 c5) := by rw [H7U.out.cell 5]; rfl
            have k6 : U.cell? ⟨w4.heap.size, 8, none⟩ = some (.int .i64 c6) := by rw [HR.out.cell 8]; rfl
            have s6 : U.cell? ⟨w2.heap.size, 6, none⟩ = some (.int .i64 c6) := by rw [H7U.out.cell 6]; rfl
            have k7 : U.cell? ⟨w4.heap.size, 9, none⟩ = some (.int .i64 c7) := by rw [HR.out.cell 9]; rfl
            have s7 : U.cell? ⟨w2.heap.size, 7, none⟩ = some (.int .i64 c7) := by rw [H7U.out.cell 7]; rfl
            have k8 : U.cell? ⟨w4.heap.size, 10, none⟩ = some (.int .i64 c8) := by rw [HR.out.cell 10]; rfl
            have s8 : U.cell? ⟨w2.heap.size, 8, none⟩ = some (.int .i64 c8) := by rw [H7U.out.cell 8]; rfl
            have k9 : U.cell? ⟨w4.heap.size, 11, none⟩ = some (.int .i64 c9) := by rw [HR.out.cell 11]; rfl
            have s9 : U.cell? ⟨w2.heap.size, 9, none⟩ = some (.int .i64 c9) := by rw [H7U.out.cell 9]; rfl
            have k10 : U.cell? ⟨w4.heap.size, 12, none⟩ = some (.int .i64 c10) := by rw [HR.out.cell 12]; rfl
            have s10 : U.cell? ⟨w2.heap.size, 10, none⟩ = some (.int .i64 c10) := by rw [H7U.out.cell 10]; rfl
            have k11 : U.cell? ⟨w4.heap.size, 13, none⟩ = some (.int .i64 c11) := by rw [HR.out.cell 13]; rfl
            have s11 : U.cell? ⟨w2.heap.size, 11, none⟩ = some (.int .i64 c11) := by rw [H7U.out.cell 11]; rfl
            have k12 : U.cell? ⟨w4.heap.size, 14, none⟩ = some (.int .i64 c12) := by rw [HR.out.cell 14]; rfl
            have s12 : U.cell? ⟨w2.heap.size, 12, none⟩ = some (.int .i64 c12) := by rw [H7U.out.cell 12]; rfl
            have k13 : U.cell? ⟨w4.heap.size, 15, none⟩ = some (.int .i64 c13) := by rw [HR.out.cell 15]; rfl
            have s13 : U.cell? ⟨w2.heap.size, 13, none⟩ = some (.int .i64 c13) := by rw [H7U.out.cell 13]; rfl
            have k14 : U.cell? ⟨w4.heap.size, 16, none⟩ = some (.int .i64 c14) := by rw [HR.out.cell 16]; rfl
            have s14 : U.cell? ⟨w2.heap.size, 14, none⟩ = some (.int .i64 c14) := by rw [H7U.out.cell 14]; rfl
            have k15 : U.cell? ⟨w4.heap.size, 17, none⟩ = some (.int .i64 c15) := by rw [HR.out.cell 17]; rfl
            have s15 : U.cell? ⟨w2.heap.size, 15, none⟩ = some (.int .i64 c15) := by rw [H7U.out.cell 15]; rfl
            have G := guard_shield
            have E : ∀ wx : World, (Op.equalIn 10000 33 (.agg #[.int .i64 c0, .int .i64 c1, .int .i64 c2, .int .i64 c3, .int .i64 c4, .int .i64 c5, .int .i64 c6, .int .i64 c7, .int .i64 c8, .int .i64 c9, .int .i64 c10, .int .i64 c11, .int .i64 c12, .int .i64 c13, .int .i64 c14, .int .i64 c15]) (.agg #[.int .i64 c0, .int .i64 c1, .int .i64 c2, .int .i64 c3, .int .i64 c4, .int .i64 c5, .int .i64 c6, .int .i64 c7, .int .i64 c8, .int .i64 c9, .int .i64 c10, .int .i64 c11, .int .i64 c12, .int .i64 c13, .int .i64 c14, .int .i64 c15])).run Tryd.prog wx = .ok true wx := fun wx => by
              have := neq_shield (a := [c0, c1, c2, c3, c4, c5, c6, c7, c8, c9, c10, c11, c12, c13, c14, c15]) (b := [c0, c1, c2, c3, c4, c5, c6, c7, c8, c9, c10, c11, c12, c13, c14, c15]) rfl rfl wx
              rw [decide_eq_true rfl] at this
              exact this
            clear f3 f4' f5'
            by_cases hz : ma = 0
            · obtain rfl : m = 0 := f1.2 hz
              subst hz
              clear f1 f2 h2
              go_wp2_with (first | ((with_reducible (show wpList _ _ _ ({ dst := none, op := Op.store _ _ _, type := _, pos := _, after := _, guard := _ } :: _) _ _)); refine wpList_store_row rfl 43 (.tmp 14) (.tmp 84) rfl w4.heap.size (arr [0, 1, c0, c1, c2, c3, c4, c5, c6, c7, c8, c9, c10, c11, c12, c13, c14, c15]) rfl rfl 43 _ HN.out info_rep rfl (arr_one _) ?_; rw [E1.out]) | ((with_reducible (show wpList _ _ _ ({ dst := some 140, op := Op.load _ _, type := _, pos := _, after := _, guard := _ } :: _) _ _)); with_reducible refine wpList_load_cells ?_ 33 (.tmp 139) ?_ ⟨w4.heap.size, 2, none⟩ ?_ (arr [c0, c1, c2, c3, c4, c5, c6, c7, c8, c9, c10, c11, c12, c13, c14, c15]) _ (rep_cells HR.out) Tryd.underlying33 ?_ HIC.out ?_; · rfl; · rfl; · rfl; · rfl))
              refine (WC.out _ (hp.below hbU (Nat.le_refl _))).mono ?_
              rintro e w5 ⟨⟨q5, k5, rfl, -⟩, hb11⟩
              have hb12 := tr hbU hb11
              clear hb11 WC
              go_wp2_with fail
              refine (known_any _ (hp.below hb12 (Nat.le_refl _)) (hn.below hb12 (Nat.le_refl _))).mono ?_
              rintro e w6 ⟨rfl, hb13⟩
              go_wp2
              go_ret
              exact ⟨rfl, tr hb12 hb13⟩
            · have hmz : ¬ (m : Int) = 0 := by intro h; exact hz (f1.1 (by omega))
              have y1 : (ma == 0) = false := by simpa using hz
              have y2 : ((m : Int) == 0) = false := by simp; omega
              have y5 : decide (ma ≤ 2) = true := by simpa using h2
              clear f1 f2
              go_wp2_with (first | ((with_reducible (show wpList _ _ _ ({ dst := none, op := Op.store _ _ _, type := _, pos := _, after := _, guard := _ } :: _) _ _)); refine wpList_store_row rfl 43 (.tmp 14) (.tmp 84) rfl w4.heap.size (arr [ma, 1, c0, c1, c2, c3, c4, c5, c6, c7, c8, c9, c10, c11, c12, c13, c14, c15]) rfl rfl 43 _ HN.out info_rep rfl (arr_one _) ?_; rw [E1.out]) | ((with_reducible (show wpList _ _ _ ({ dst := some 140, op := Op.load _ _, type := _, pos := _, after := _, guard := _ } :: _) _ _)); with_reducible refine wpList_load_cells ?_ 33 (.tmp 139) ?_ ⟨w4.heap.size, 2, none⟩ ?_ (arr [c0, c1, c2, c3, c4, c5, c6, c7, c8, c9, c10, c11, c12, c13, c14, c15]) _ (rep_cells HR.out) Tryd.underlying33 ?_ HIC.out ?_; · rfl; · rfl; · rfl; · rfl))
              refine (WC.out _ (hp.below hbU (Nat.le_refl _))).mono ?_
              rintro e w5 ⟨⟨q5, k5, rfl, -⟩, hb11⟩
              have hb12 := tr hbU hb11
              clear hb11 WC
              go_wp2_with fail
              refine (known_any _ (hp.below hb12 (Nat.le_refl _)) (hn.below hb12 (Nat.le_refl _))).mono ?_
              rintro e w6 ⟨rfl, hb13⟩
              go_wp2
              go_ret
              exact ⟨rfl, tr hb12 hb13⟩
          · have hz : ¬ d = 0 := by omega
            have hmz : ¬ (m : Int) = 0 := by intro h; exact hz (f1.1 (by omega))
            have haz : ¬ ma = 0 := by intro h; exact hz (f2.1 h)
            have y1 : (d == 0) = false := by simpa using hz
            have y2 : ((m : Int) == 0) = false := by simp; omega
            have y6 : (ma == 0) = false := by simpa using haz
            have y5 : decide (d ≤ 2) = false := by simpa using h2
            have k0 : U.cell? ⟨w4.heap.size, 2, none⟩ = some (.int .i64 c0) := by rw [HR.out.cell 2]; rfl
            have k1 : U.cell? ⟨w4.heap.size, 3, none⟩ = some (.int .i64 c1) := by rw [HR.out.cell 3]; rfl
            have k2 : U.cell? ⟨w4.heap.size, 4, none⟩ = some (.int .i64 c2) := by rw [HR.out.cell 4]; rfl
            have k3 : U.cell? ⟨w4.heap.size, 5, none⟩ = some (.int .i64 c3) := by rw [HR.out.cell 5]; rfl
            have k4 : U.cell? ⟨w4.heap.size, 6, none⟩ = some (.int .i64 c4) := by rw [HR.out.cell 6]; rfl
            have k5 : U.cell? ⟨w4.heap.size, 7, none⟩ = some (.int .i64 c5) := by rw [HR.out.cell 7]; rfl
            have k6 : U.cell? ⟨w4.heap.size, 8, none⟩ = some (.int .i64 c6) := by rw [HR.out.cell 8]; rfl
            have k7 : U.cell? ⟨w4.heap.size, 9, none⟩ = some (.int .i64 c7) := by rw [HR.out.cell 9]; rfl
            have k8 : U.cell? ⟨w4.heap.size, 10, none⟩ = some (.int .i64 c8) := by rw [HR.out.cell 10]; rfl
            have k9 : U.cell? ⟨w4.heap.size, 11, none⟩ = some (.int .i64 c9) := by rw [HR.out.cell 11]; rfl
            have k10 : U.cell? ⟨w4.heap.size, 12, none⟩ = some (.int .i64 c10) := by rw [HR.out.cell 12]; rfl
            have k11 : U.cell? ⟨w4.heap.size, 13, none⟩ = some (.int .i64 c11) := by rw [HR.out.cell 13]; rfl
            have k12 : U.cell? ⟨w4.heap.size, 14, none⟩ = some (.int .i64 c12) := by rw [HR.out.cell 14]; rfl
            have k13 : U.cell? ⟨w4.heap.size, 15, none⟩ = some (.int .i64 c13) := by rw [HR.out.cell 15]; rfl
            have k14 : U.cell? ⟨w4.heap.size, 16, none⟩ = some (.int .i64 c14) := by rw [HR.out.cell 16]; rfl
            have k15 : U.cell? ⟨w4.heap.size, 17, none⟩ = some (.int .i64 c15) := by rw [HR.out.cell 17]; rfl
            clear f1 f2 f3 f4' f5'
            go_wp2_with (first | ((with_reducible (show wpList _ _ _ ({ dst := none, op := Op.store _ _ _, type := _, pos := _, after := _, guard := _ } :: _) _ _)); refine wpList_store_row rfl 43 (.tmp 14) (.tmp 84) rfl w4.heap.size (arr [ma, mz, c0, c1, c2, c3, c4, c5, c6, c7, c8, c9, c10, c11, c12, c13, c14, c15]) rfl rfl 43 _ HN.out info_rep rfl (arr_one _) ?_; rw [E1.out]) | ((with_reducible (show wpList _ _ _ ({ dst := some 140, op := Op.load _ _, type := _, pos := _, after := _, guard := _ } :: _) _ _)); with_reducible refine wpList_load_cells ?_ 33 (.tmp 139) ?_ ⟨w4.heap.size, 2, none⟩ ?_ (arr [c0, c1, c2, c3, c4, c5, c6, c7, c8, c9, c10, c11, c12, c13, c14, c15]) _ (rep_cells HR.out) Tryd.underlying33 ?_ HIC.out ?_; · rfl; · rfl; · rfl; · rfl))
            refine (WC.out _ (hp.below hbU (Nat.le_refl _))).mono ?_
            rintro e w5 ⟨⟨q5, k5, rfl, -⟩, hb11⟩
            have hb12 := tr hbU hb11
            clear hb11 WC
            go_wp2_with fail
            refine (known_any _ (hp.below hb12 (Nat.le_refl _)) (hn.below hb12 (Nat.le_refl _))).mono ?_
            rintro e w6 ⟨rfl, hb13⟩
            go_wp2
            go_ret
            exact ⟨rfl, tr hb12 hb13⟩

set_option maxRecDepth 100000 in
theorem found_law (nb : Int) (h0 : 0 ≤ nb) (h1 : nb ≤ 65535) (p : Option Addr) (n c : Nat) (X Y : Nat → Int) (w : World) (hSl : Slips w p X Y n) (hp : Par w) (hn : Nam w) :
    Calls Tryd.prog 3 #[.int .u16 nb, .slice p n c] w fun e w' => e = .returned (.bool true) ∧ Below w.heap.size w w' := by
  obtain ⟨N, rfl⟩ := Int.eq_ofNat_of_zero_le h0
  by_cases h5 : n ≤ 5
  · exact found_few N (by omega) p n c X Y w hSl h5 hp hn
  · exact found_many _ p n c w (by omega) hp hn
end Go.Proofs.YthioojappmnnaaaDoor
