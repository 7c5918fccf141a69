/-
  The reference of chapter 3: Mend.
-/
import Derived.Test.YtjhjgkocoghgfaaDoorShMd
import Derived.Test.YtjhjgkocoghgfaaDoorShRi
import Derived.Test.YtjhjgkocoghgfaaDoorShRh
namespace Go.Proofs.YtjhjgkocoghgfaaDoor
open Go Go.RowKit
set_option linter.unusedVariables false

set_option maxRecDepth 100000 in
set_option maxHeartbeats 8000000 in
theorem refMend_any (s : List Int) (hS : Hid (s.length = 16)) (hs : Figs s) (w : World) :
    Calls Tryd.prog 13 #[.agg (arr s)] w fun e w' => e = .returned (.agg (arr (repL (mendL s (upto id 65536))))) ∧ Below w.heap.size w w' := by
  have HFs := Lib.hid hs
  have HIS := Lib.hid (show (Tryd.prog.info? 24).map (·.size) = some (arr s).size by rw [arr_size, hS.out]; exact info_shield)
  have HB0 := Lib.hid (show Blk (((w.alloc (.cells (arr s) 24)).alloc (.cells (arr (List.replicate 18 0)) 30)).alloc (.cells (arr (repL (mendL s (upto id 0)))) 30)) w.heap.size 24 (arr s) from ((Blk.new _ _ _).alloc _).alloc _)
  have HR0 := Lib.hid (show Blk (((w.alloc (.cells (arr s) 24)).alloc (.cells (arr (List.replicate 18 0)) 30)).alloc (.cells (arr (repL (mendL s (upto id 0)))) 30)) (w.heap.size + 1) 30 (arr (List.replicate 18 0)) from Blk.alloc (newAt (by simp)) _)
  have HF0 := Lib.hid (show Blk (((w.alloc (.cells (arr s) 24)).alloc (.cells (arr (List.replicate 18 0)) 30)).alloc (.cells (arr (repL (mendL s (upto id 0)))) 30)) (w.heap.size + 2) 30 (arr (repL (mendL s (upto id 0)))) from newAt (by simp))
  have hb0 : Below w.heap.size w (((w.alloc (.cells (arr s) 24)).alloc (.cells (arr (List.replicate 18 0)) 30)).alloc (.cells (arr (repL (mendL s (upto id 0)))) 30)) := (((Below.refl _ _).alloc (Nat.le_refl _) _).alloc (by simp) _).alloc (by simp; omega) _
  clear hs
  go_enter Tryd.func13, Tryd.ntmps13
  go_wp2_with fail
  obtain ⟨W, hW⟩ : ∃ W, ((w.alloc (.cells (arr s) 24)).alloc (.cells (arr (List.replicate 18 0)) 30)).alloc (.cells (arr (repL (mendL s (upto id 0)))) 30) = W := ⟨_, rfl⟩
  rw [hW] at HB0 HR0 HF0 hb0
  have e0 : ((w.alloc (.cells (arr s) 24)).alloc (.cells #[.int .i64 0, .int .i64 0, .int .i64 0, .int .i64 0, .int .i64 0, .int .i64 0, .int .i64 0, .int .i64 0, .int .i64 0, .int .i64 0, .int .i64 0, .int .i64 0, .int .i64 0, .int .i64 0, .int .i64 0, .int .i64 0, .int .i64 0, .int .i64 0] 30)).alloc (.cells #[.int .i64 65, .int .i64 0, .int .i64 0, .int .i64 0, .int .i64 0, .int .i64 0, .int .i64 0, .int .i64 0, .int .i64 0, .int .i64 0, .int .i64 0, .int .i64 0, .int .i64 0, .int .i64 0, .int .i64 0, .int .i64 0, .int .i64 0, .int .i64 0] 30) = W := hW
  rw [e0]
  clear hW e0
  have hsW := HF0.out.lt
  obtain ⟨ML, hML⟩ : ∃ ML : Nat → Int × Nat × List Int, ∀ k, mendL s (upto id k) = ML k := ⟨fun k => mendL s (upto id k), fun k => rfl⟩
  have hstep : ∀ k, ML (k + 1) = mendS s (ML k) k := fun k => by rw [← hML, ← hML, upto_succ]; exact mendL_snoc s _ k
  have hok : ∀ k, 0 ≤ (ML k).1 ∧ (ML k).1 ≤ 65 ∧ (ML k).2.1 ≤ k ∧ (ML k).2.2.length = 16 := fun k => by
    rw [← hML]
    have := mendL_ok s (upto id k)
    rwa [upto_length] at this
  have HEN := Lib.hid (hML 65536)
  rw [hML] at HF0
  have HOK := Lib.hid hok
  have HSTP := Lib.hid hstep
  clear hML hok hstep
  go_loopw [4] (fun v wr => ∃ k : Nat, Hid (k ≤ 65536) ∧ v = .int .i64 k ∧ Hid (Blk wr (w.heap.size + 2) 30 (arr (repL (ML k)))) ∧ Below (w.heap.size + 2) W wr) (fun v _ => 65536 - (intOf v).toNat)
  case atStart => exact ⟨0, Lib.hid (by omega), rfl, HF0, Below.refl _ _⟩
  case round =>
    obtain ⟨k, HK, rfl, HF, hB⟩ := hrel
    by_cases hlt : k < 65536
    · have d1 : decide ((k : Int) < 65536) = true := by simp; omega
      have C1 := Lib.hid (refMothers_any (k : Int) (by omega) (by omega) wr)
      have HLT := Lib.hid hlt
      clear hlt
      have C2 := Lib.hid (fun W => derive2_nibs k W)
      have C3 := Lib.hid (fun W => refDiffers_any s (chV k) hS (Lib.hid (chV_len k)) HFs.out (chV_figs' k) W)
      have hst := HSTP.out k
      have hdb := difTo_bd s (chV k) 16
      unfold mendS at hst
      obtain ⟨c0, c1, c2, c3, c4, c5, c6, c7, c8, c9, c10, c11, c12, c13, c14, c15, hCC⟩ := list16 (chV_len k)
      obtain ⟨M, hMM⟩ : ∃ M, nibs (k : Int) = M := ⟨_, rfl⟩
      rw [hCC] at C2 C3 hst hdb
      rw [hMM] at C1 C2
      obtain ⟨D, hD⟩ : ∃ D, difTo s [c0, c1, c2, c3, c4, c5, c6, c7, c8, c9, c10, c11, c12, c13, c14, c15] 16 = D := ⟨_, rfl⟩
      rw [hD] at C3 hst hdb
      obtain ⟨k0, k1, k2, k3⟩ := HOK.out k
      obtain ⟨P, hP⟩ : ∃ P, ML (k + 1) = P := ⟨_, rfl⟩
      obtain ⟨⟨q, n, R⟩, hQ⟩ : ∃ Q, ML k = Q := ⟨_, rfl⟩
      rw [hQ] at hst k0 k1 k2 k3
      rw [hQ] at HF
      simp only at hst k0 k1 k2 k3
      have HP := Lib.hid hP
      rw [hP] at hst
      have HST := Lib.hid hst
      have HK3 := Lib.hid k3
      have hwn : IntKind.i64.wrap ((n : Int) + 1) = (n : Int) + 1 := wraps_i64_62 _ (by omega) (by have := HLT.out; omega)
      have hw1 : IntKind.i64.wrap (0 + 1) = 1 := by decide
      obtain ⟨d0, d2⟩ := hdb
      clear hP hQ hst hCC hMM hD k2 k3
      go_wp2_with fail
      refine C1.out.mono ?_
      rintro e w1 ⟨rfl, hb1⟩
      have hB1 : Below (w.heap.size + 2) W w1 := hB.trans (hb1.mono (by have := hB.size; omega))
      have HF1 := Lib.hid (HF.out.below hb1 HF.out.lt)
      clear hb1 hB HF C1 d1
      go_wp2_with fail
      refine (C2.out _).mono ?_
      rintro e w3 ⟨rfl, hb3⟩
      have hB3 : Below (w.heap.size + 2) W w3 := hB1.trans (hb3.mono (by have := HF1.out.lt; omega))
      have HF3 := Lib.hid (HF1.out.below hb3 HF1.out.lt)
      have hs3 := HF3.out.lt
      clear hb3 hB1 HF1 C2
      have HN := Lib.hid (Blk.new w3 24 (arr (List.replicate 16 0)))
      obtain ⟨U2, hU2⟩ : ∃ U2, (w3.alloc (.cells (arr (List.replicate 16 0)) 24)).setRow w3.heap.size (arr [c0, c1, c2, c3, c4, c5, c6, c7, c8, c9, c10, c11, c12, c13, c14, c15]) = U2 := ⟨_, rfl⟩
      have hb4 : Below w3.heap.size w3 U2 := by rw [← hU2]; exact below_setRow (below1 _ _) (Nat.le_refl _) _
      have HC4 := Lib.hid (show Blk U2 w3.heap.size 24 (arr [c0, c1, c2, c3, c4, c5, c6, c7, c8, c9, c10, c11, c12, c13, c14, c15]) from by rw [← hU2]; exact HN.out.row _)
      have HF4 := Lib.hid (HF3.out.below hb4 HF3.out.lt)
      have hB4 : Below (w.heap.size + 2) W U2 := hB3.trans (hb4.mono (by omega))
      have HS4 := Lib.hid (HB0.out.below hB4 (by omega))
      have e1 : (w3.alloc (.cells #[.int .i64 0, .int .i64 0, .int .i64 0, .int .i64 0, .int .i64 0, .int .i64 0, .int .i64 0, .int .i64 0, .int .i64 0, .int .i64 0, .int .i64 0, .int .i64 0, .int .i64 0, .int .i64 0, .int .i64 0, .int .i64 0] 24)).setRow w3.heap.size (arr [c0, c1, c2, c3, c4, c5, c6, c7, c8, c9, c10, c11, c12, c13, c14, c15]) = U2 := hU2
      have E1 := Lib.hid e1
      clear hU2 e1 hB3 HF3 hb4
      go_wp2_with (first
        | (refine wpList_store_row rfl 24 (.tmp 5) (.tmp 14) rfl w3.heap.size (arr [c0, c1, c2, c3, c4, c5, c6, c7, c8, c9, c10, c11, c12, c13, c14, c15]) rfl rfl 24 _ HN.out info_shield rfl (arr_one _) ?_; rw [E1.out])
        | (refine wpList_load_row rfl 24 (.tmp 1) rfl w.heap.size rfl 24 (arr s) (0, 0) _ HS4.out Tryd.underlying24 rfl HIS.out ?_)
        | (refine wpList_load_row rfl 24 (.tmp 5) rfl w3.heap.size rfl 24 (arr [c0, c1, c2, c3, c4, c5, c6, c7, c8, c9, c10, c11, c12, c13, c14, c15]) (0, 0) _ HC4.out Tryd.underlying24 rfl info_shield ?_))
      refine (C3.out _).mono ?_
      rintro e w5 ⟨rfl, hb5⟩
      have HF5 := Lib.hid (HF4.out.below hb5 HF4.out.lt)
      have HC5 := Lib.hid (HC4.out.below hb5 HC4.out.lt)
      have hB5 : Below (w.heap.size + 2) W w5 := hB4.trans (hb5.mono (by have := HF4.out.lt; omega))
      have cq : w5.cell? ⟨w.heap.size + 2, 0, none⟩ = some (.int .i64 q) := HF5.out.cell 0
      have cn : w5.cell? ⟨w.heap.size + 2, 1, none⟩ = some (.int .i64 n) := HF5.out.cell 1
      have fn := HF5.out.frozen 1
      have hwr : IntKind.i64.wrap ((k : Int) + 1) = (k : Int) + 1 := wraps_i64_62 _ (by omega) (by have := HLT.out; omega)
      clear hb5 HF4 HC4 hB4 HS4 C3 HN E1
      by_cases hlt : D < q
      · have HV0 := Lib.hid (show Blk (w5.setRow (w.heap.size + 2) (arr (repL (D, 0, [c0, c1, c2, c3, c4, c5, c6, c7, c8, c9, c10, c11, c12, c13, c14, c15])))) (w.heap.size + 2) 30 (arr (repL (D, 0, [c0, c1, c2, c3, c4, c5, c6, c7, c8, c9, c10, c11, c12, c13, c14, c15]))) from HF5.out.row _)
        have hBV : Below (w.heap.size + 2) W (w5.setRow (w.heap.size + 2) (arr (repL (D, 0, [c0, c1, c2, c3, c4, c5, c6, c7, c8, c9, c10, c11, c12, c13, c14, c15])))) := below_setRow hB5 (Nat.le_refl _) _
        have HOr := Lib.hid (show (arr (repL (q, n, R))).size = (arr (repL (D, 0, [c0, c1, c2, c3, c4, c5, c6, c7, c8, c9, c10, c11, c12, c13, c14, c15]))).size by rw [arr_size, arr_size, repL_len HK3.out]; rfl)
        obtain ⟨V, hV⟩ : ∃ V, w5.setRow (w.heap.size + 2) (arr (repL (D, 0, [c0, c1, c2, c3, c4, c5, c6, c7, c8, c9, c10, c11, c12, c13, c14, c15]))) = V := ⟨_, rfl⟩
        rw [hV] at HV0 hBV
        have EV := Lib.hid hV
        have cV0 : V.cell? ⟨w.heap.size + 2, 0, none⟩ = some (.int .i64 D) := HV0.out.cell 0
        have cV1 : V.cell? ⟨w.heap.size + 2, 1, none⟩ = some (.int .i64 0) := HV0.out.cell 1
        have fV1 := HV0.out.frozen 1
        have HF6 : Hid (Blk (V.setCell ⟨w.heap.size + 2, 1, none⟩ (.int .i64 1)) (w.heap.size + 2) 30 (arr (repL (ML (k + 1))))) := by
          have e := HST.out
          rw [if_pos hlt] at e
          have h1 := HV0.out.set_ 1 (.int .i64 1)
          rw [arr_set] at h1
          rw [HP.out, e]
          exact h1
        have hB6 : Below (w.heap.size + 2) W (V.setCell ⟨w.heap.size + 2, 1, none⟩ (.int .i64 1)) := hBV.setCell (p := ⟨w.heap.size + 2, 1, none⟩) (by simp) _
        have y1 : decide (D < q) = true := by simpa using hlt
        have y4 : (D == D) = true := by simp
        clear hlt HST hV
        go_wp2_with (first
          | (refine wpList_load_row rfl 24 (.tmp 5) rfl w3.heap.size rfl 24 #[.int .i64 c0, .int .i64 c1, .int .i64 c2, .int .i64 c3, .int .i64 c4, .int .i64 c5, .int .i64 c6, .int .i64 c7, .int .i64 c8, .int .i64 c9, .int .i64 c10, .int .i64 c11, .int .i64 c12, .int .i64 c13, .int .i64 c14, .int .i64 c15] (0, 0) _ HC5.out Tryd.underlying24 rfl info_shield ?_)
          | (refine wpList_store_row rfl 30 (.tmp 3) (.tmp 24) rfl (w.heap.size + 2) (arr (repL (D, 0, [c0, c1, c2, c3, c4, c5, c6, c7, c8, c9, c10, c11, c12, c13, c14, c15]))) rfl rfl 30 _ HF5.out info_rep HOr.out (arr_one _) ?_; rw [EV.out]))
        go_roundw
        case rel => have hk6 := HLT.out; exact ⟨k + 1, Lib.hid (by omega), by go_num, HF6, hB6⟩
        case measure => have hk6 := HLT.out; simp [intOf]; omega
      · have y1 : decide (D < q) = false := by simpa using hlt
        by_cases heq : D = q
        · have HF6 : Hid (Blk (w5.setCell ⟨w.heap.size + 2, 1, none⟩ (.int .i64 ((n : Int) + 1))) (w.heap.size + 2) 30 (arr (repL (ML (k + 1))))) := by
            have e := HST.out
            rw [if_neg hlt, if_pos heq] at e
            have h1 := HF5.out.set_ 1 (.int .i64 ((n : Int) + 1))
            rw [arr_set] at h1
            rw [HP.out, e]
            exact h1
          have hB6 : Below (w.heap.size + 2) W (w5.setCell ⟨w.heap.size + 2, 1, none⟩ (.int .i64 ((n : Int) + 1))) := hB5.setCell (p := ⟨w.heap.size + 2, 1, none⟩) (by simp) _
          have y2 : (D == q) = true := by simpa using heq
          have y3 : decide (D = q) = true := by simpa using heq
          clear hlt heq HST
          go_wp2_with fail
          go_roundw
          case rel => have hk6 := HLT.out; exact ⟨k + 1, Lib.hid (by omega), by go_num, HF6, hB6⟩
          case measure => have hk6 := HLT.out; simp [intOf]; omega
        · have HF6 : Hid (Blk w5 (w.heap.size + 2) 30 (arr (repL (ML (k + 1))))) := by
            have e := HST.out
            rw [if_neg hlt, if_neg heq] at e
            rw [HP.out, e]
            exact HF5.out
          have y2 : (D == q) = false := by simpa using heq
          have y3 : decide (D = q) = false := by simpa using heq
          clear hlt heq HST
          go_wp2_with fail
          go_roundw
          case rel => have hk6 := HLT.out; exact ⟨k + 1, Lib.hid (by omega), by go_num, HF6, hB5⟩
          case measure => have hk6 := HLT.out; simp [intOf]; omega
    · have hk65 : k = 65536 := by have := HK.out; omega
      subst hk65
      have hGl := repL_len (HOK.out 65536).2.2.2
      have HR := Lib.hid (HR0.out.below hB (by omega))
      have hBw := hb0.trans (hB.mono (by omega))
      obtain ⟨G, hG⟩ : ∃ G, repL (ML 65536) = G := ⟨_, rfl⟩
      rw [hG] at HF hGl
      have HE := Lib.hid (show repL (mendL s (upto id 65536)) = G by rw [HEN.out, hG])
      have HGi := Lib.hid (show (Tryd.prog.info? 30).map (·.size) = some (arr G).size by rw [arr_size, hGl]; exact info_rep)
      have HGo := Lib.hid (show (arr (List.replicate 18 0)).size = (arr G).size by rw [arr_size, arr_size, hGl]; rfl)
      have HX := Lib.hid (show Blk (wr.setRow (w.heap.size + 1) (arr G)) (w.heap.size + 1) 30 (arr G) from HR.out.row _)
      have HBd := Lib.hid (show Below w.heap.size w (wr.setRow (w.heap.size + 1) (arr G)) from below_setRow hBw (by omega) _)
      rw [show ((65536 : Nat) : Int) = 65536 from rfl]
      clear hG hGl hB hBw HOK HSTP HEN HK
      go_wp2_with (first
        | (refine wpList_load_row rfl 30 (.tmp 3) rfl (w.heap.size + 2) rfl 30 (arr G) (0, 0) _ HF.out Tryd.underlying30 rfl HGi.out ?_)
        | (refine wpList_store_row rfl 30 (.tmp 2) (.tmp 33) rfl (w.heap.size + 1) (arr G) rfl rfl 30 _ HR.out HGi.out HGo.out (arr_one _) ?_))
      exact bodyPost_ret (v := .agg (arr G)) (results_cell_row Tryd.results13 _ _ (w.heap.size + 1) 30 _ (0, 0) _ rfl HX.out Tryd.underlying30 rfl HGi.out) rfl ⟨by rw [HE.out], HBd.out⟩
end Go.Proofs.YtjhjgkocoghgfaaDoor
