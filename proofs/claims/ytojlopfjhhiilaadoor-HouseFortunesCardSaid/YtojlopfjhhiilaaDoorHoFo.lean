/-
  HouseFortunes: the walk of the law.
-/
import Derived.Test.YtojlopfjhhiilaaDoorHoC
import Derived.Test.YtojlopfjhhiilaaDoorShMa
import Derived.Deep.CutRange
namespace Go.Proofs.YtojlopfjhhiilaaDoor
open Go Go.RowKit
set_option linter.unusedVariables false

theorem line_ones (f : Int) : lineTo f 4 = 8 - onesF f := by
  simp only [lineTo, onesF, markF]
  have e0 : ((0 : Nat) : Int) = 0 := rfl
  have e1 : ((1 : Nat) : Int) = 1 := rfl
  have e2 : ((2 : Nat) : Int) = 2 := rfl
  have e3 : ((3 : Nat) : Int) = 3 := rfl
  simp only [e0, e1, e2, e3]
  split <;> split <;> split <;> split <;> omega
theorem ones_bd (f : Int) : 0 ≤ onesF f ∧ onesF f ≤ 4 := by
  unfold onesF
  split <;> split <;> split <;> split <;> omega
theorem marks_even {S : List Int} (hl : S.length = 16) (c : IsChart S) : marksTo (S.take 12) 12 % 2 = 0 := by
  have hn : ∀ k, k < 12 → nth (S.take 12) k = nth S k := fun k hk => by
    rw [nth_eq (by rw [List.length_take, hl]; exact hk), nth_eq (by omega), List.getElem_take]
  simp only [marksTo]
  rw [hn 0 (by omega), hn 1 (by omega), hn 2 (by omega), hn 3 (by omega), hn 4 (by omega), hn 5 (by omega), hn 6 (by omega), hn 7 (by omega), hn 8 (by omega), hn 9 (by omega), hn 10 (by omega), hn 11 (by omega)]
  simp only [line_ones]
  have f := fun k (hk : k < 16) => c.figs k hk
  have e8 := ones_xor _ _ (f 0 (by omega)) (f 1 (by omega))
  have e9 := ones_xor _ _ (f 2 (by omega)) (f 3 (by omega))
  have e10 := ones_xor _ _ (f 4 (by omega)) (f 5 (by omega))
  have e11 := ones_xor _ _ (f 6 (by omega)) (f 7 (by omega))
  rw [← c.s8] at e8
  rw [← c.s9] at e9
  rw [← c.s10] at e10
  rw [← c.s11] at e11
  omega
/-- The chart of a number. -/
def chartN (a : Int) : List Int := dP (nibs a) 16
structure ChartOf (a : Int) (S H : List Int) : Prop where
  moth : mothV a = nibs a
  mothE : mothE a = 0
  derive : deriveV (nibs a) = S
  deriveE : chkF (nibs a) = 0
  len : S.length = 16
  chart : IsChart S
  wrong : wrongV S = []
  fine : chkF S = 0
  house : ofH S = H
  houseE : ofE S = 0
  hlen : H.length = 12
  hfine : chkF H = 0
  first : nth H 0 = nth (nibs a) 0
  last : nth H 11 = nth S 11
theorem chart_of (a : Int) (h0 : 0 ≤ a) (h1 : a ≤ 65535) : ChartOf a (chartN a) ((chartN a).take 12) := by
  have hf := nibs_figs h0 h1
  have hl : (nibs a).length = 4 := rfl
  have ho : outB 0 65535 a = false := by simp [outB]; omega
  have hc : chkF (nibs a) = 0 := chkF_moth hl hf
  have hS : (chartN a).length = 16 := dP_len _ hl
  have hfig := dP_figs hl hf
  have hcs : chkF (chartN a) = 0 := chkF_figs hS hfig
  have hw : wrongV (chartN a) = [] := wrong_dP hl hf
  have hn : ∀ k, k < 12 → nth ((chartN a).take 12) k = nth (chartN a) k := fun k hk => by
    rw [nth_eq (by rw [List.length_take, hS]; exact hk), nth_eq (by omega), List.getElem_take]
  have hHl : ((chartN a).take 12).length = 12 := by rw [List.length_take, hS]; rfl
  refine ⟨by unfold mothV; rw [ho]; rfl, by unfold mothE; rw [ho]; rfl, by unfold deriveV; rw [if_pos hc]; rfl, hc, hS, isChart hl hf, hw, hcs, by unfold ofH; rw [if_pos ⟨hcs, hw⟩], by unfold ofE; rw [if_pos hcs, if_pos hw], hHl, chkF_of fun k hk => by rw [hn k (by omega)]; exact hfig k (by omega), ?_, hn 11 (by omega)⟩
  rw [hn 0 (by omega)]
  exact dP_moth _ hl (by omega)
set_option maxRecDepth 100000 in
set_option maxHeartbeats 8000000 in
theorem fortunes_go (a N A : Int) (S H : List Int) (ha : 0 ≤ a) (ha1 : a ≤ 65535) (c : Hid (ChartOf a S H)) (HN : Hid (fortV H = N)) (HA : Hid (fortH H = A)) (n1 : 48 ≤ N) (n2 : N ≤ 96) (n3 : N % 2 = 0) (b1 : 2 ≤ A) (b2 : A ≤ 12) (b3 : A % 2 = 0) (b4 : (N - A) % 12 = 0) (b5 : A ≤ N) (w : World) (hw : 7 ≤ w.heap.size) (hp : Par w) (hr : Rul w) :
    Calls Tryd.prog 6 #[.int .u16 a] w fun e w' => e = .returned (.bool true) ∧ Below w.heap.size w w' := by
  go_enter Tryd.func6, Tryd.ntmps6
  go_wp2_with fail
  refine (mothers_any a _).mono ?_
  rintro e w1 ⟨rfl, hb1⟩
  rw [c.out.moth, c.out.mothE]
  have hM : Blk ((w1.alloc (.cells (arr [0, 0, 0, 0]) 66)).setRow w1.heap.size (arr (nibs a))) w1.heap.size 66 (arr (nibs a)) := (Blk.new w1 66 (arr [0, 0, 0, 0])).row _
  have hB1 : Below w.heap.size w ((w1.alloc (.cells (arr [0, 0, 0, 0]) 66)).setRow w1.heap.size (arr (nibs a))) := below_setRow (hb1.alloc hb1.size _) hb1.size _
  have hs1 : w.heap.size ≤ w1.heap.size := hb1.size
  go_wp2_with (first | (refine wpList_store_row rfl 66 (.tmp 3) (.tmp 15) rfl w1.heap.size (arr (nibs a)) rfl rfl 66 _ (Blk.new w1 66 (arr [0, 0, 0, 0])) info_moth rfl (arr_one _) ?_) | (refine wpList_load_row rfl 66 (.tmp 3) rfl w1.heap.size rfl 66 (arr (nibs a)) (0, 0) _ hM Tryd.underlying66 rfl info_moth ?_))
  refine (show Calls Tryd.prog 29 #[.agg (arr (nibs a))] _ _ from derive_any _ _ _ _ _ (hp.below hB1 (Nat.le_refl _))).mono ?_
  rintro e w2 ⟨rfl, hb2⟩
  have D1 := Lib.hid (show deriveV [a / 4096 % 16, a / 256 % 16, a / 16 % 16, a % 16] = S from c.out.derive)
  have D2 := Lib.hid (show chkF [a / 4096 % 16, a / 256 % 16, a / 16 % 16, a % 16] = 0 from c.out.deriveE)
  rw [D1.out, D2.out]
  have HM2 := Lib.hid (hM.below hb2 (by simp))
  have hB2 : Below w.heap.size w w2 := tr hB1 hb2
  have hs2 : w1.heap.size < w2.heap.size := HM2.out.lt
  clear hb2 hB1 hM hb1
  have hS : Blk ((w2.alloc (.cells (arr (List.replicate 16 0)) 24)).setRow w2.heap.size (arr S)) w2.heap.size 24 (arr S) := (Blk.new w2 24 (arr (List.replicate 16 0))).row _
  have hM2 : Blk ((w2.alloc (.cells (arr (List.replicate 16 0)) 24)).setRow w2.heap.size (arr S)) w1.heap.size 66 (arr (nibs a)) := HM2.out.below (below_setRow (B := w2.heap.size) ((Below.refl _ _).alloc (Nat.le_refl _) _) (Nat.le_refl _) _) hs2
  have hB3 : Below w.heap.size w ((w2.alloc (.cells (arr (List.replicate 16 0)) 24)).setRow w2.heap.size (arr S)) := below_setRow (hB2.alloc hB2.size _) hB2.size _
  have HIs := Lib.hid (show (Tryd.prog.info? 24).map (·.size) = some (arr S).size by rw [arr_size, c.out.len]; exact info_shield)
  have HOs := Lib.hid (show (arr (List.replicate 16 0)).size = (arr S).size by rw [arr_size, arr_size, c.out.len]; rfl)
  go_wp2_with (first | (refine wpList_store_row rfl 24 (.tmp 5) (.tmp 20) rfl w2.heap.size (arr S) rfl rfl 24 _ (Blk.new w2 24 (arr (List.replicate 16 0))) HIs.out HOs.out (arr_one _) ?_) | (refine wpList_load_row rfl 24 (.tmp 5) rfl w2.heap.size rfl 24 (arr S) (0, 0) _ hS Tryd.underlying24 rfl HIs.out ?_))
  refine (of_any S c.out.len _ (hp.below hB3 (Nat.le_refl _))).mono ?_
  rintro e w3 ⟨rfl, hb3⟩
  rw [c.out.house, c.out.houseE]
  have HM3 := Lib.hid (hM2.below hb3 (by simp; omega))
  have HS3 := Lib.hid (hS.below hb3 (by simp))
  have hB4 : Below w.heap.size w w3 := tr hB3 hb3
  have hs3 : w2.heap.size < w3.heap.size := HS3.out.lt
  clear hb3 hB3 hM2 hS HM2 hB2
  have bel : Below w3.heap.size w3 ((w3.alloc (.cells (arr zeros12) 26)).setRow w3.heap.size (arr H)) := below_setRow ((Below.refl _ _).alloc (Nat.le_refl _) _) (Nat.le_refl _) _
  have hH : Blk ((w3.alloc (.cells (arr zeros12) 26)).setRow w3.heap.size (arr H)) w3.heap.size 26 (arr H) := (Blk.new w3 26 (arr zeros12)).row _
  have HIh := Lib.hid (show (Tryd.prog.info? 26).map (·.size) = some (arr H).size by rw [arr_size, c.out.hlen]; exact info_houses)
  have HOh := Lib.hid (show (arr zeros12).size = (arr H).size by rw [arr_size, arr_size, c.out.hlen]; rfl)
  have hB5 : Below w.heap.size w ((w3.alloc (.cells (arr zeros12) 26)).setRow w3.heap.size (arr H)) := below_setRow (hB4.alloc hB4.size _) hB4.size _
  have hM5 := HM3.out.below bel (by omega)
  have hS5 := HS3.out.below bel (by omega)
  go_upto_region 4 with (refine wpList_store_row rfl 26 (.tmp 7) (.tmp 25) rfl w3.heap.size (arr H) rfl rfl 26 _ (Blk.new w3 26 (arr zeros12)) HIh.out HOh.out (arr_one _) ?_)
  generalize hW5 : World.setRow _ _ _ = W5
  replace hH : Blk W5 w3.heap.size 26 (arr H) := by rw [← hW5]; exact hH
  replace hM5 : Blk W5 w1.heap.size 66 (arr (nibs a)) := by rw [← hW5]; exact hM5
  replace hS5 : Blk W5 w2.heap.size 24 (arr S) := by rw [← hW5]; exact hS5
  replace hB5 : Below w.heap.size w W5 := by rw [← hW5]; exact hB5
  clear hW5 bel
  have k0 : W5.cell? ⟨w3.heap.size, 0, none⟩ = some (.int .i64 (nth (nibs a) 0)) := by rw [hH.cell, arr_get (by rw [c.out.hlen]; omega), c.out.first]
  have k1 : W5.cell? ⟨w1.heap.size, 0, none⟩ = some (.int .i64 (nth (nibs a) 0)) := by rw [hM5.cell, arr_get (by show 0 < 4; omega)]
  have k2 : W5.cell? ⟨w3.heap.size, 11, none⟩ = some (.int .i64 (nth S 11)) := by rw [hH.cell, arr_get (by rw [c.out.hlen]; omega), c.out.last]
  have k3 : W5.cell? ⟨w2.heap.size, 11, none⟩ = some (.int .i64 (nth S 11)) := by rw [hS5.cell, arr_get (by rw [c.out.len]; omega)]
  generalize nth (nibs a) 0 = K0 at k0 k1
  generalize nth S 11 = K1 at k2 k3
  go_wp2_with (refine wpList_load_row rfl 26 (.tmp 7) rfl w3.heap.size rfl 26 (arr H) (0, 0) _ hH Tryd.underlying26 rfl HIh.out ?_)
  refine (fortune_any H (Lib.hid c.out.hlen) _ (by have := hB5.size; omega)).mono ?_
  rintro e w4 ⟨rfl, hb4⟩
  have F := Lib.hid c.out.hfine
  rw [HN.out, HA.out, F.out]
  have hB6 := tr hB5 hb4
  clear k0 k1 k2 k3 hH hM5 hS5 hb4 hB5 hB4
  go_wp2_with fail
  refine (known_any _ (by have := hB6.size; omega) (hr.below hB6 (Nat.le_refl _))).mono ?_
  rintro e w5 ⟨rfl, hb5⟩
  go_wp2
  go_ret
  exact ⟨rfl, tr hB6 hb5⟩
theorem fortunes_law (a : Int) (ha : 0 ≤ a) (ha1 : a ≤ 65535) (w : World) (hw : 6 < w.heap.size) (hp : Par w) (hr : Rul w) :
    Calls Tryd.prog 6 #[.int .u16 a] w fun e w' => e = .returned (.bool true) ∧ Below w.heap.size w w' := by
  have c := chart_of a ha ha1
  have h3 := marks_even c.len c.chart
  have h1 := marksTo_bd ((chartN a).take 12) 12
  have e1 : fortV ((chartN a).take 12) = marksTo ((chartN a).take 12) 12 := by unfold fortV; rw [if_pos c.hfine]
  have e2 : fortH ((chartN a).take 12) = (marksTo ((chartN a).take 12) 12 - 1) % 12 + 1 := by unfold fortH; rw [if_pos c.hfine]
  obtain ⟨N, hN⟩ : ∃ N, marksTo ((chartN a).take 12) 12 = N := ⟨_, rfl⟩
  rw [hN] at e1 e2 h3 h1
  exact fortunes_go a N ((N - 1) % 12 + 1) (chartN a) ((chartN a).take 12) ha ha1 (Lib.hid c) (Lib.hid e1) (Lib.hid e2) (by omega) (by omega) h3 (by omega) (by omega) (by omega) (by omega) (by omega) w hw hp hr
end Go.Proofs.YtojlopfjhhiilaaDoor
