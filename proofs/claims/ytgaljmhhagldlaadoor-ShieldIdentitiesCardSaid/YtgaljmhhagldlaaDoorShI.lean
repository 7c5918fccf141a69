/-
  ShieldIdentities: the walk of the law.
-/
import Derived.Test.YtgaljmhhagldlaaDoorShMa
import Derived.Test.YtgaljmhhagldlaaDoorShN
import Derived.Test.YtgaljmhhagldlaaDoorShP
namespace Go.Proofs.YtgaljmhhagldlaaDoor
open Go Go.RowKit
set_option linter.unusedVariables false

set_option maxRecDepth 100000 in
set_option maxHeartbeats 16000000 in
theorem ident_any (n : Int) (h0 : 0 ≤ n) (h1 : n ≤ 65535) (w : World) (hp : Par w) (hn : Nam w) :
    Calls Tryd.prog 11 #[.int .u16 n] w fun e w' => e = .returned (.bool true) ∧ Below w.heap.size w w' := by
  go_enter Tryd.func11, Tryd.ntmps11
  go_wp2_with fail
  refine (moth_nibs n h0 h1 _).mono ?_
  rintro e w1 ⟨rfl, hb1⟩
  have HM := Lib.hid (Blk.new w1 46 (arr [0, 0, 0, 0]))
  go_wp2_with (first
    | (refine wpList_store_row rfl 46 (.tmp 3) (.tmp 20) rfl w1.heap.size (arr (nibs n)) rfl rfl 46 _ HM.out info_moth rfl (arr_one _) ?_)
    | (refine wpList_load_row rfl 46 (.tmp 3) rfl w1.heap.size rfl 46 (arr (nibs n)) (0, 0) _ (HM.out.row _) Tryd.underlying46 rfl info_moth ?_))
  have hb2 : Below w.heap.size w ((w1.alloc (.cells (arr [0, 0, 0, 0]) 46)).setRow w1.heap.size (arr (nibs n))) := below_setRow (hb1.alloc hb1.size _) hb1.size _
  have HM2 := Lib.hid (HM.out.row (arr (nibs n)))
  refine (derive_good (nibs n) rfl (nibs_figs h0 h1) _ (hp.below hb2 (Nat.le_refl _))).mono ?_
  rintro e w2 ⟨rfl, hb3⟩
  have hb4 := tr hb2 hb3
  have HM3 := Lib.hid (HM2.out.below hb3 HM2.out.lt)
  have hm2 : w1.heap.size < w2.heap.size := HM3.out.lt
  clear hb1 hb2 hb3 HM HM2
  have HS := Lib.hid (Blk.new w2 56 (arr (List.replicate 16 0)))
  have HL := Lib.hid (dP_len (nibs n) rfl)
  have HI := Lib.hid (show (Tryd.prog.info? 56).map (·.size) = some (arr (dP (nibs n) 16)).size by rw [arr_size, HL.out]; exact info_shield)
  have HO := Lib.hid (show (arr (List.replicate 16 0)).size = (arr (dP (nibs n) 16)).size by rw [arr_size, arr_size, HL.out]; rfl)
  have HS2 := Lib.hid (HS.out.row (arr (dP (nibs n) 16)))
  have hb5 : Below w.heap.size w ((w2.alloc (.cells (arr (List.replicate 16 0)) 56)).setRow w2.heap.size (arr (dP (nibs n) 16))) := below_setRow (hb4.alloc hb4.size _) hb4.size _
  have HM4 := Lib.hid (show Blk ((w2.alloc (.cells (arr (List.replicate 16 0)) 56)).setRow w2.heap.size (arr (dP (nibs n) 16))) w1.heap.size 46 (arr (nibs n)) from HM3.out.below (below_setRow ((Below.refl w2.heap.size w2).alloc (Nat.le_refl _) _) (Nat.le_refl _) _) hm2)
  go_wp2_with (first
    | (refine wpList_store_row rfl 56 (.tmp 5) (.tmp 25) rfl w2.heap.size (arr (dP (nibs n) 16)) rfl rfl 56 _ HS.out HI.out HO.out (arr_one _) ?_)
    | (refine wpList_load_row rfl 46 (.tmp 3) rfl w1.heap.size rfl 46 (arr (nibs n)) (0, 0) _ HM4.out Tryd.underlying46 rfl info_moth ?_))
  refine (number_good _ _ _ _ (nibs_figs h0 h1) _).mono ?_
  rintro e w3 ⟨rfl, hb6⟩
  have en : numL [n / 4096 % 16, n / 256 % 16, n / 16 % 16, n % 16] = n := numL_nibs h0 h1
  rw [en]
  clear en
  have HC := Lib.hid (isChart (m := nibs n) rfl (nibs_figs h0 h1))
  have HM5 := Lib.hid (HM4.out.below hb6 HM4.out.lt)
  have HS3 := Lib.hid (HS2.out.below hb6 HS2.out.lt)
  have hb7 := tr hb5 hb6
  have HW := Lib.hid (wrong_dP (m := nibs n) rfl (nibs_figs h0 h1))
  have HD := Lib.hid (fun j (hj : j < 4) => dP_moth (nibs n) rfl hj)
  generalize hS : dP (nibs n) 16 = S at *
  clear hb4 hb5 hb6 HM3 HM4 HS HS2 HO
  have hs3 : w2.heap.size < w3.heap.size := HS3.out.lt
  have c0 : w3.cell? ⟨w2.heap.size, 0, none⟩ = some (.int .i64 (nth S 0)) := HS3.out.chart HL.out 0 (by omega)
  have c1 : w3.cell? ⟨w2.heap.size, 1, none⟩ = some (.int .i64 (nth S 1)) := HS3.out.chart HL.out 1 (by omega)
  have c2 : w3.cell? ⟨w2.heap.size, 2, none⟩ = some (.int .i64 (nth S 2)) := HS3.out.chart HL.out 2 (by omega)
  have c3 : w3.cell? ⟨w2.heap.size, 3, none⟩ = some (.int .i64 (nth S 3)) := HS3.out.chart HL.out 3 (by omega)
  have c4 : w3.cell? ⟨w2.heap.size, 4, none⟩ = some (.int .i64 (nth S 4)) := HS3.out.chart HL.out 4 (by omega)
  have c5 : w3.cell? ⟨w2.heap.size, 5, none⟩ = some (.int .i64 (nth S 5)) := HS3.out.chart HL.out 5 (by omega)
  have c6 : w3.cell? ⟨w2.heap.size, 6, none⟩ = some (.int .i64 (nth S 6)) := HS3.out.chart HL.out 6 (by omega)
  have c7 : w3.cell? ⟨w2.heap.size, 7, none⟩ = some (.int .i64 (nth S 7)) := HS3.out.chart HL.out 7 (by omega)
  have c8 : w3.cell? ⟨w2.heap.size, 8, none⟩ = some (.int .i64 (nth S 8)) := HS3.out.chart HL.out 8 (by omega)
  have c9 : w3.cell? ⟨w2.heap.size, 9, none⟩ = some (.int .i64 (nth S 9)) := HS3.out.chart HL.out 9 (by omega)
  have c10 : w3.cell? ⟨w2.heap.size, 10, none⟩ = some (.int .i64 (nth S 10)) := HS3.out.chart HL.out 10 (by omega)
  have c11 : w3.cell? ⟨w2.heap.size, 11, none⟩ = some (.int .i64 (nth S 11)) := HS3.out.chart HL.out 11 (by omega)
  have c12 : w3.cell? ⟨w2.heap.size, 12, none⟩ = some (.int .i64 (nth S 12)) := HS3.out.chart HL.out 12 (by omega)
  have c13 : w3.cell? ⟨w2.heap.size, 13, none⟩ = some (.int .i64 (nth S 13)) := HS3.out.chart HL.out 13 (by omega)
  have c14 : w3.cell? ⟨w2.heap.size, 14, none⟩ = some (.int .i64 (nth S 14)) := HS3.out.chart HL.out 14 (by omega)
  have c15 : w3.cell? ⟨w2.heap.size, 15, none⟩ = some (.int .i64 (nth S 15)) := HS3.out.chart HL.out 15 (by omega)
  go_wp2_with fail
  refine (lawSum_any _ [nth S 0, nth S 1, nth S 2, nth S 3, nth S 4, nth S 5, nth S 6, nth S 7] 8 8 _ (Lib.hid rfl) (by omega) (reads_at _ _ [nth S 0, nth S 1, nth S 2, nth S 3, nth S 4, nth S 5, nth S 6, nth S 7] _ rfl) (fun k hk => ?_)).mono ?_
  · have hc : k = 0 ∨ k = 1 ∨ k = 2 ∨ k = 3 ∨ k = 4 ∨ k = 5 ∨ k = 6 ∨ k = 7 := by omega
    rcases hc with rfl | rfl | rfl | rfl | rfl | rfl | rfl | rfl
    · exact HC.out.figs 0 (by omega)
    · exact HC.out.figs 1 (by omega)
    · exact HC.out.figs 2 (by omega)
    · exact HC.out.figs 3 (by omega)
    · exact HC.out.figs 4 (by omega)
    · exact HC.out.figs 5 (by omega)
    · exact HC.out.figs 6 (by omega)
    · exact HC.out.figs 7 (by omega)
  rintro e w4 ⟨rfl, hb8⟩
  rw [judge_all HC.out]
  have hb9 : Below w3.heap.size w3 w4 := ((Below.refl _ _).alloc (Nat.le_refl _) _).trans (hb8.mono (by simp))
  have HS4 := Lib.hid (HS3.out.below hb9 hs3)
  have HM6 := Lib.hid (HM5.out.below hb9 HM5.out.lt)
  have hb10 := tr hb7 hb9
  have d14 : w4.cell? ⟨w2.heap.size, 14, none⟩ = some (.int .i64 (nth S 14)) := HS4.out.chart HL.out 14 (by omega)
  have d0 : w4.cell? ⟨w2.heap.size, 0, none⟩ = some (.int .i64 (nth S 0)) := HS4.out.chart HL.out 0 (by omega)
  clear hb8 hb9 hb7 HS3 HM5 c0 c1 c2 c3 c4 c5 c6 c7 c8 c9 c10 c11 c12 c13 c14 c15
  go_wp2_with fail
  refine (lawSum_any _ [nth S 14, nth S 0] 2 2 _ (Lib.hid rfl) (by omega) (reads_at _ _ [nth S 14, nth S 0] _ rfl) (fun k hk => ?_)).mono ?_
  · have hc : k = 0 ∨ k = 1 := by omega
    rcases hc with rfl | rfl
    · exact HC.out.figs 14 (by omega)
    · exact HC.out.figs 0 (by omega)
  rintro e w5 ⟨rfl, hb11⟩
  rw [last_sum HC.out]
  have hb12 : Below w4.heap.size w4 w5 := ((Below.refl _ _).alloc (Nat.le_refl _) _).trans (hb11.mono (by simp))
  have HS5 := Lib.hid (HS4.out.below hb12 HS4.out.lt)
  have HM7 := Lib.hid (HM6.out.below hb12 HM6.out.lt)
  have hb13 := tr hb10 hb12
  have hs5 := HS5.out.lt
  clear hb10 hb11 hb12 HS4 HM6 d14 d0
  have c0 : w5.cell? ⟨w2.heap.size, 0, none⟩ = some (.int .i64 (nth S 0)) := HS5.out.chart HL.out 0 (by omega)
  have c1 : w5.cell? ⟨w2.heap.size, 1, none⟩ = some (.int .i64 (nth S 1)) := HS5.out.chart HL.out 1 (by omega)
  have c2 : w5.cell? ⟨w2.heap.size, 2, none⟩ = some (.int .i64 (nth S 2)) := HS5.out.chart HL.out 2 (by omega)
  have c3 : w5.cell? ⟨w2.heap.size, 3, none⟩ = some (.int .i64 (nth S 3)) := HS5.out.chart HL.out 3 (by omega)
  have c4 : w5.cell? ⟨w2.heap.size, 4, none⟩ = some (.int .i64 (nth S 4)) := HS5.out.chart HL.out 4 (by omega)
  have c5 : w5.cell? ⟨w2.heap.size, 5, none⟩ = some (.int .i64 (nth S 5)) := HS5.out.chart HL.out 5 (by omega)
  have c6 : w5.cell? ⟨w2.heap.size, 6, none⟩ = some (.int .i64 (nth S 6)) := HS5.out.chart HL.out 6 (by omega)
  have c7 : w5.cell? ⟨w2.heap.size, 7, none⟩ = some (.int .i64 (nth S 7)) := HS5.out.chart HL.out 7 (by omega)
  have c8 : w5.cell? ⟨w2.heap.size, 8, none⟩ = some (.int .i64 (nth S 8)) := HS5.out.chart HL.out 8 (by omega)
  have c9 : w5.cell? ⟨w2.heap.size, 9, none⟩ = some (.int .i64 (nth S 9)) := HS5.out.chart HL.out 9 (by omega)
  have c10 : w5.cell? ⟨w2.heap.size, 10, none⟩ = some (.int .i64 (nth S 10)) := HS5.out.chart HL.out 10 (by omega)
  have c11 : w5.cell? ⟨w2.heap.size, 11, none⟩ = some (.int .i64 (nth S 11)) := HS5.out.chart HL.out 11 (by omega)
  have c12 : w5.cell? ⟨w2.heap.size, 12, none⟩ = some (.int .i64 (nth S 12)) := HS5.out.chart HL.out 12 (by omega)
  have c13 : w5.cell? ⟨w2.heap.size, 13, none⟩ = some (.int .i64 (nth S 13)) := HS5.out.chart HL.out 13 (by omega)
  have c14 : w5.cell? ⟨w2.heap.size, 14, none⟩ = some (.int .i64 (nth S 14)) := HS5.out.chart HL.out 14 (by omega)
  have c15 : w5.cell? ⟨w2.heap.size, 15, none⟩ = some (.int .i64 (nth S 15)) := HS5.out.chart HL.out 15 (by omega)
  have e0 : nth S 0 = n / 4096 % 16 := HD.out 0 (by omega)
  have e3 : nth S 3 = n % 16 := HD.out 3 (by omega)
  have m0 : w5.cell? ⟨w1.heap.size, 0, none⟩ = some (.int .i64 (nth S 0)) := by rw [HM7.out.cell 0, e0]; rfl
  have m3 : w5.cell? ⟨w1.heap.size, 3, none⟩ = some (.int .i64 (nth S 3)) := by rw [HM7.out.cell 3, e3]; rfl
  have ev := judge_even HC.out
  have o0 : 0 ≤ onesF (nth S 14) := by unfold onesF; split <;> split <;> split <;> split <;> omega
  clear e0 e3
  go_wp2_with (go_at_call 48; refine (ones_any (nth S 14) (HC.out.figs 14 (by omega)) _).mono ?_; rintro e w6 ⟨rfl, rfl⟩)
  refine (derive_good [nth S 4, nth S 5, nth S 6, nth S 7] rfl (fun k hk => ?_) _ (hp.below hb13 (Nat.le_refl _))).mono ?_
  · have hc : k = 0 ∨ k = 1 ∨ k = 2 ∨ k = 3 := by omega
    rcases hc with rfl | rfl | rfl | rfl
    · exact HC.out.figs 4 (by omega)
    · exact HC.out.figs 5 (by omega)
    · exact HC.out.figs 6 (by omega)
    · exact HC.out.figs 7 (by omega)
  rintro e w6 ⟨rfl, hb14⟩
  obtain ⟨T, hT, ht, t12, t13, t14, tl⟩ := swapped HC.out
  rw [← hT]
  have HT := Lib.hid ht
  have TL := Lib.hid tl
  have HS6 := Lib.hid (HS5.out.below hb14 hs5)
  have hb15 := tr hb13 hb14
  have hs6 := HS6.out.lt
  clear hb13 hb14 HS5 HM7 hT ht tl m0 m3 ev o0 c0 c1 c2 c3 c4 c5 c6 c7 c8 c9 c10 c11 c12 c13 c14 c15
  have HZ := Lib.hid (show Blk (w6.alloc (.cells (arr (List.replicate 16 0)) 56)) w6.heap.size 56 (arr (List.replicate 16 0)) from Blk.new _ _ _)
  have HTI := Lib.hid (show (Tryd.prog.info? 56).map (·.size) = some (arr T).size by rw [arr_size, HT.out.len]; exact info_shield)
  have HTO := Lib.hid (show (arr (List.replicate 16 0)).size = (arr T).size by rw [arr_size, arr_size, HT.out.len]; rfl)
  have HT2 := Lib.hid (HZ.out.row (arr T))
  have hb16 : Below w6.heap.size w6 ((w6.alloc (.cells (arr (List.replicate 16 0)) 56)).setRow w6.heap.size (arr T)) := below_setRow ((Below.refl _ _).alloc (Nat.le_refl _) _) (Nat.le_refl _) _
  have HS7 := Lib.hid (HS6.out.below hb16 hs6)
  go_wp2_with (first
    | (refine wpList_store_row rfl 56 (.tmp 13) (.tmp 128) rfl w6.heap.size (arr T) rfl rfl 56 _ HZ.out HTI.out HTO.out (arr_one _) ?_)
    | (refine wpList_load_row rfl 56 (.tmp 5) rfl w2.heap.size rfl 56 (arr S) (0, 0) _ HS7.out Tryd.underlying56 rfl HI.out ?_))
  have hb17 := tr hb15 hb16
  refine (wrong_any S HL.out _ (hp.below hb17 (Nat.le_refl _))).mono ?_
  rintro e w7 ⟨⟨q, c, rfl, _⟩, hb18⟩
  rw [HW.out, chkF_figs HL.out HC.out.figs]
  have HS8 := Lib.hid (HS7.out.below hb18 HS7.out.lt)
  have HT3 := Lib.hid (HT2.out.below hb18 HT2.out.lt)
  have hb19 := tr hb17 hb18
  clear hb15 hb16 hb17 hb18 HZ HT2 HS6 HS7 HTI HTO
  have e12 : nth T 12 = nth S 13 := t12
  have e13 : nth T 13 = nth S 12 := t13
  have e14 : nth T 14 = nth S 14 := t14
  have c12 : w7.cell? ⟨w2.heap.size, 12, none⟩ = some (.int .i64 (nth S 12)) := HS8.out.chart HL.out 12 (by omega)
  have c13 : w7.cell? ⟨w2.heap.size, 13, none⟩ = some (.int .i64 (nth S 13)) := HS8.out.chart HL.out 13 (by omega)
  have c14 : w7.cell? ⟨w2.heap.size, 14, none⟩ = some (.int .i64 (nth S 14)) := HS8.out.chart HL.out 14 (by omega)
  have d12 : w7.cell? ⟨w6.heap.size, 12, none⟩ = some (.int .i64 (nth S 13)) := by rw [← e12]; exact HT3.out.chart HT.out.len 12 (by omega)
  have d13 : w7.cell? ⟨w6.heap.size, 13, none⟩ = some (.int .i64 (nth S 12)) := by rw [← e13]; exact HT3.out.chart HT.out.len 13 (by omega)
  have d14 : w7.cell? ⟨w6.heap.size, 14, none⟩ = some (.int .i64 (nth S 14)) := by rw [← e14]; exact HT3.out.chart HT.out.len 14 (by omega)
  clear e12 e13 e14 t12 t13 t14
  go_wp2
  go_loopw [15] (fun i wr => ∃ k : Nat, k ≤ 4 ∧ i = .int .i64 k ∧ ∃ r, wr = w7.drewN r) (fun i _ => 4 - (intOf i).toNat)
  case atStart => exact ⟨0, by omega, rfl, 0, rfl⟩
  case round =>
    obtain ⟨k, hk, rfl, r, rfl⟩ := hrel
    by_cases hlt : k < 4
    · have ck : w7.cell? ⟨w2.heap.size, k, none⟩ = some (.int .i64 (nth S k)) := HS8.out.chart HL.out k (by omega)
      have dk : w7.cell? ⟨w6.heap.size, 4 + k, none⟩ = some (.int .i64 (nth S k)) := by rw [← TL.out k hlt]; exact HT3.out.chart HT.out.len (4 + k) (by omega)
      clear c12 c13 c14 d12 d13 d14
      go_wp2
      have q2 : 0 ≤ 4 + (k : Int) := by omega
      have q3 : (4 + (k : Int)).toNat = 4 + k := by omega
      have q1 : IntKind.i64.wrap (4 + (k : Int)) = 4 + (k : Int) := IntWalk.i64_in _ (by omega)
      go_quiet (fail)
      clear q1 q2 q3
      go_wp2
      go_roundw
      case rel => exact ⟨k + 1, by omega, by go_num, _, rfl⟩
      case measure => simp [intOf]; omega
    · obtain rfl : k = 4 := by omega
      clear c12 c13 c14 d12 d13 d14
      go_wp2_with (go_at_call 22; refine (known_any _ (hp.below (below_drewN hb19 r) (Nat.le_refl _)) (hn.below (below_drewN hb19 r) (Nat.le_refl _))).mono ?_; rintro e w8 ⟨rfl, hb20⟩)
      go_ret
      exact ⟨rfl, (below_drewN hb19 r).trans (hb20.mono (by have := hb19.size; simp; omega))⟩
end Go.Proofs.YtgaljmhhagldlaaDoor
