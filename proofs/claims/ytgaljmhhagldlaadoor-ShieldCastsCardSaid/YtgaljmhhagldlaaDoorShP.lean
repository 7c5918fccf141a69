/-
  ShieldPath: the walk of the law.
-/
import Derived.Test.YtgaljmhhagldlaaDoorShM
import Derived.Test.YtgaljmhhagldlaaDoorShK
namespace Go.Proofs.YtgaljmhhagldlaaDoor
open Go Go.RowKit
set_option linter.unusedVariables false

theorem moth_nibs (n : Int) (h0 : 0 ≤ n) (h1 : n ≤ 65535) (w : World) : Calls Tryd.prog 30 #[.int .i64 n] w fun e w' => e = .returned (.tuple #[.agg (arr (nibs n)), .int .i64 0]) ∧ Below w.heap.size w w' := by
  have := mothers_any n w
  have ho : outB 0 65535 n = false := by simp [outB]; omega
  rwa [show mothV n = nibs n by unfold mothV; rw [ho]; rfl, show mothE n = 0 by unfold mothE; rw [ho]; rfl] at this
theorem derive_good (m : List Int) (hl : m.length = 4) (hm : ∀ k, k < 4 → Fig (nth m k)) (w : World) (hp : Par w) : Calls Tryd.prog 34 #[.agg (arr m)] w fun e w' => e = .returned (.tuple #[.agg (arr (dP m 16)), .int .i64 0]) ∧ Below w.heap.size w w' := by
  obtain ⟨a, b, c, d, rfl⟩ := four hl
  have := derive_any a b c d w hp
  rwa [show deriveV [a, b, c, d] = dP [a, b, c, d] 16 by unfold deriveV; rw [if_pos (chkF_moth rfl hm)], chkF_moth rfl hm] at this

theorem nx_bit {S : List Int} {k : Int} (hF : Figs S) (k0 : 0 ≤ k) (k3 : k ≤ 3) (hX : ∀ p, 4 ≤ p → p < 16 → nth S p = followF S p) {p : Nat} (h8 : 8 ≤ p) (h16 : p < 15) (hb : bitB (nth S p) k = true) :
    bitB (nth S (nx S k p)) k = true ∧ bitB (nth S (parA p + parB p - nx S k p)) k = false := by
  have h1 := hX p (by omega) (by omega)
  have h2 := parAB_lt' h8 (show p < 16 by omega)
  have h3 : followF S p = xorF (nth S (parA p)) (nth S (parB p)) := by unfold followF; rw [if_neg (by omega)]
  rw [h1, h3, xor_bit _ _ k (hF _ (by omega)) (hF _ (by omega)) k0 k3] at hb
  unfold nx
  cases ha : bitB (nth S (parA p)) k <;> cases hbb : bitB (nth S (parB p)) k <;> simp [ha, hbb] at hb ⊢
  all_goals (first | rw [hbb] | rw [Nat.add_sub_cancel_left, hbb])
theorem plc_bit {S : List Int} {k : Int} (hF : Figs S) (k0 : 0 ≤ k) (k3 : k ≤ 3) (hX : ∀ p, 4 ≤ p → p < 16 → nth S p = followF S p) (hb : bitB (nth S 14) k = true) {j : Nat} (hj : j ≤ 3) : bitB (nth S (plc S k j)) k = true := by
  induction j with
  | zero => exact hb
  | succ j ih =>
    have hc := plc_cases S k (show j < 3 by omega)
    exact (nx_bit hF k0 k3 hX (by omega) (by omega) (ih (by omega))).1
theorem plc_other {S : List Int} {k : Int} (hF : Figs S) (k0 : 0 ≤ k) (k3 : k ≤ 3) (hX : ∀ p, 4 ≤ p → p < 16 → nth S p = followF S p) (hb : bitB (nth S 14) k = true) {j : Nat} (hj : j < 3) : bitB (nth S (parA (plc S k j) + parB (plc S k j) - plc S k (j + 1))) k = false := by
  have hc := plc_cases S k hj
  exact (nx_bit hF k0 k3 hX (by omega) (by omega) (plc_bit hF k0 k3 hX hb (by omega))).2

set_option maxRecDepth 100000 in
set_option maxHeartbeats 4000000 in
theorem path_no (n l : Int) (h0 : 0 ≤ n) (h1 : n ≤ 65535) (l0 : 0 ≤ l) (l1 : l ≤ 255) (w : World) (hp : Par w) (hn : Nam w) (hb : bitB (nth (dP (nibs n) 16) 14) (l % 4) = false) :
    Calls Tryd.prog 14 #[.int .u16 n, .int .u8 l] w fun e w' => e = .returned (.bool true) ∧ Below w.heap.size w w' := by
  have HB := Lib.hid hb
  clear hb
  go_enter Tryd.func14, Tryd.ntmps14
  go_wp2_with fail
  refine (moth_nibs n h0 h1 _).mono ?_
  rintro e w1 ⟨rfl, hb1⟩
  have HM := Lib.hid (Blk.new w1 46 (arr [0, 0, 0, 0]))
  go_wp2_with (first
    | (refine wpList_store_row rfl 46 (.tmp 5) (.tmp 18) rfl w1.heap.size (arr (nibs n)) rfl rfl 46 _ HM.out info_moth rfl (arr_one _) ?_)
    | (refine wpList_load_row rfl 46 (.tmp 5) rfl w1.heap.size rfl 46 (arr (nibs n)) (0, 0) _ (HM.out.row _) Tryd.underlying46 rfl info_moth ?_))
  have hb2 : Below w.heap.size w ((w1.alloc (.cells (arr [0, 0, 0, 0]) 46)).setRow w1.heap.size (arr (nibs n))) := below_setRow (hb1.alloc hb1.size _) hb1.size _
  refine (derive_good (nibs n) rfl (nibs_figs h0 h1) _ (hp.below hb2 (Nat.le_refl _))).mono ?_
  rintro e w2 ⟨rfl, hb3⟩
  have hb4 := tr hb2 hb3
  clear hb1 hb2 hb3 HM
  have HS := Lib.hid (Blk.new w2 56 (arr (List.replicate 16 0)))
  have HL := Lib.hid (dP_len (nibs n) rfl)
  have HI := Lib.hid (show (Tryd.prog.info? 56).map (·.size) = some (arr (dP (nibs n) 16)).size by rw [arr_size, HL.out]; exact info_shield)
  have HO := Lib.hid (show (arr (List.replicate 16 0)).size = (arr (dP (nibs n) 16)).size by rw [arr_size, arr_size, HL.out]; rfl)
  have HS2 := Lib.hid (HS.out.row (arr (dP (nibs n) 16)))
  have hb5 : Below w.heap.size w ((w2.alloc (.cells (arr (List.replicate 16 0)) 56)).setRow w2.heap.size (arr (dP (nibs n) 16))) := below_setRow (hb4.alloc hb4.size _) hb4.size _
  go_wp2_with (first
    | (refine wpList_store_row rfl 56 (.tmp 7) (.tmp 23) rfl w2.heap.size (arr (dP (nibs n) 16)) rfl rfl 56 _ HS.out HI.out HO.out (arr_one _) ?_)
    | (refine wpList_load_row rfl 56 (.tmp 7) rfl w2.heap.size rfl 56 (arr (dP (nibs n) 16)) (0, 0) _ HS2.out Tryd.underlying56 rfl HI.out ?_))
  obtain ⟨k0, k3⟩ : 0 ≤ l % 4 ∧ l % 4 ≤ 3 := ⟨by omega, by omega⟩
  have HF := Lib.hid (dP_figs (m := nibs n) rfl (nibs_figs h0 h1))
  have HC := Lib.hid (chkF_figs HL.out HF.out)
  have HD := Lib.hid (show dP (moth (dP (nibs n) 16)) 16 = dP (nibs n) 16 by rw [moth_dP _ rfl])
  have HX := Lib.hid (fun p (a : 4 ≤ p) (b : p < 16) => dP_follow (nibs n) rfl a b)
  have HOL := Lib.hid (show outB 0 3 (l % 4) = false by simp [outB]; omega)
  generalize dP (nibs n) 16 = S at *
  generalize l % 4 = k at *
  have hlt2 := HS2.out.lt
  refine (way_none S k HL _ (hp.below hb5 (Nat.le_refl _)) HC HOL HD HB).mono ?_
  rintro e w3 ⟨rfl, hb6⟩
  have hb7 := tr hb5 hb6
  have hc14 : w3.cell? ⟨w2.heap.size, 14, none⟩ = some (.int .i64 (nth S 14)) := (HS2.out.below hb6 hlt2).chart HL.out 14 (by omega)
  obtain ⟨f0, f1⟩ := HF.out 14 (by omega)
  have e0 : bits BinOp.and IntKind.i64 (nth S 14 / 2 ^ k.toNat) 1 = 0 := by rw [bit_or _ _ ⟨f0, f1⟩ k0 k3, HB.out]; rfl
  clear hb5 hb6 HS HS2 HI HO hb4 hlt2
  go_wp2_with fail
  refine (known_any _ (hp.below hb7 (Nat.le_refl _)) (hn.below hb7 (Nat.le_refl _))).mono ?_
  rintro e w4 ⟨rfl, hb8⟩
  go_wp2
  go_ret
  exact ⟨rfl, tr hb7 hb8⟩
set_option maxRecDepth 100000 in
set_option maxHeartbeats 16000000 in
theorem path_yes (n l : Int) (h0 : 0 ≤ n) (h1 : n ≤ 65535) (l0 : 0 ≤ l) (l1 : l ≤ 255) (w : World) (hp : Par w) (hn : Nam w) (hb : bitB (nth (dP (nibs n) 16) 14) (l % 4) = true) :
    Calls Tryd.prog 14 #[.int .u16 n, .int .u8 l] w fun e w' => e = .returned (.bool true) ∧ Below w.heap.size w w' := by
  have HB := Lib.hid hb
  clear hb
  go_enter Tryd.func14, Tryd.ntmps14
  go_wp2_with fail
  refine (moth_nibs n h0 h1 _).mono ?_
  rintro e w1 ⟨rfl, hb1⟩
  have HM := Lib.hid (Blk.new w1 46 (arr [0, 0, 0, 0]))
  go_wp2_with (first
    | (refine wpList_store_row rfl 46 (.tmp 5) (.tmp 18) rfl w1.heap.size (arr (nibs n)) rfl rfl 46 _ HM.out info_moth rfl (arr_one _) ?_)
    | (refine wpList_load_row rfl 46 (.tmp 5) rfl w1.heap.size rfl 46 (arr (nibs n)) (0, 0) _ (HM.out.row _) Tryd.underlying46 rfl info_moth ?_))
  have hb2 : Below w.heap.size w ((w1.alloc (.cells (arr [0, 0, 0, 0]) 46)).setRow w1.heap.size (arr (nibs n))) := below_setRow (hb1.alloc hb1.size _) hb1.size _
  refine (derive_good (nibs n) rfl (nibs_figs h0 h1) _ (hp.below hb2 (Nat.le_refl _))).mono ?_
  rintro e w2 ⟨rfl, hb3⟩
  have hb4 := tr hb2 hb3
  clear hb1 hb2 hb3 HM
  have HS := Lib.hid (Blk.new w2 56 (arr (List.replicate 16 0)))
  have HL := Lib.hid (dP_len (nibs n) rfl)
  have HI := Lib.hid (show (Tryd.prog.info? 56).map (·.size) = some (arr (dP (nibs n) 16)).size by rw [arr_size, HL.out]; exact info_shield)
  have HO := Lib.hid (show (arr (List.replicate 16 0)).size = (arr (dP (nibs n) 16)).size by rw [arr_size, arr_size, HL.out]; rfl)
  have HS2 := Lib.hid (HS.out.row (arr (dP (nibs n) 16)))
  have hb5 : Below w.heap.size w ((w2.alloc (.cells (arr (List.replicate 16 0)) 56)).setRow w2.heap.size (arr (dP (nibs n) 16))) := below_setRow (hb4.alloc hb4.size _) hb4.size _
  go_wp2_with (first
    | (refine wpList_store_row rfl 56 (.tmp 7) (.tmp 23) rfl w2.heap.size (arr (dP (nibs n) 16)) rfl rfl 56 _ HS.out HI.out HO.out (arr_one _) ?_)
    | (refine wpList_load_row rfl 56 (.tmp 7) rfl w2.heap.size rfl 56 (arr (dP (nibs n) 16)) (0, 0) _ HS2.out Tryd.underlying56 rfl HI.out ?_))
  obtain ⟨k0, k3⟩ : 0 ≤ l % 4 ∧ l % 4 ≤ 3 := ⟨by omega, by omega⟩
  have HF := Lib.hid (dP_figs (m := nibs n) rfl (nibs_figs h0 h1))
  have HC := Lib.hid (chkF_figs HL.out HF.out)
  have HD := Lib.hid (show dP (moth (dP (nibs n) 16)) 16 = dP (nibs n) 16 by rw [moth_dP _ rfl])
  have HX := Lib.hid (fun p (a : 4 ≤ p) (b : p < 16) => dP_follow (nibs n) rfl a b)
  have HOL := Lib.hid (show outB 0 3 (l % 4) = false by simp [outB]; omega)
  generalize dP (nibs n) 16 = S at *
  generalize l % 4 = k at *
  have hlt2 := HS2.out.lt
  refine (way_some S k HL _ (hp.below hb5 (Nat.le_refl _)) HC HOL HD HB).mono ?_
  rintro e w3 ⟨⟨q, c, rfl, hrd⟩, hb6⟩
  have hb7 := tr hb5 hb6
  have HCH : Hid (Chart w3 w2.heap.size S) := (HS2.out.below hb6 hlt2).chart HL.out
  have hc14 := HCH.out 14 (by omega)
  obtain ⟨f0, f1⟩ := HF.out 14 (by omega)
  have e0 : bits BinOp.and IntKind.i64 (nth S 14 / 2 ^ k.toNat) 1 = 1 := by rw [bit_or _ _ ⟨f0, f1⟩ k0 k3, HB.out]; rfl
  obtain ⟨g, o, rfl, r0⟩ := hrd 0 (by simp [wayTo])
  obtain ⟨_, _, h1, r1⟩ := hrd 1 (by simp [wayTo])
  cases h1
  obtain ⟨_, _, h1, r2⟩ := hrd 2 (by simp [wayTo])
  cases h1
  obtain ⟨_, _, h1, r3⟩ := hrd 3 (by simp [wayTo])
  cases h1
  have v0 : nth (wayTo S k 3) 0 = 14 := rfl
  have v1 : nth (wayTo S k 3) 1 = (plc S k 1 : Int) := rfl
  have v2 : nth (wayTo S k 3) 2 = (plc S k 2 : Int) := rfl
  have v3 : nth (wayTo S k 3) 3 = (plc S k 3 : Int) := rfl
  rw [v0] at r0
  rw [v1] at r1
  rw [v2] at r2
  rw [v3] at r3
  clear v0 v1 v2 v3 hrd hb5 hb6 HS HS2 HI HO hb4 hlt2
  rw [Nat.add_zero] at r0
  have B1 := Lib.hid (plc_bit HF.out k0 k3 HX.out HB.out (show 1 ≤ 3 by omega))
  have B2 := Lib.hid (plc_bit HF.out k0 k3 HX.out HB.out (show 2 ≤ 3 by omega))
  have B3 := Lib.hid (plc_bit HF.out k0 k3 HX.out HB.out (show 3 ≤ 3 by omega))
  have O0 := Lib.hid (plc_other HF.out k0 k3 HX.out HB.out (show 0 < 3 by omega))
  have O1 := Lib.hid (plc_other HF.out k0 k3 HX.out HB.out (show 1 < 3 by omega))
  have O2 := Lib.hid (plc_other HF.out k0 k3 HX.out HB.out (show 2 < 3 by omega))
  have N1 := Lib.hid (nx_or S k 14)
  have N2 := Lib.hid (nx_or S k (plc S k 1))
  have N3 := Lib.hid (nx_or S k (plc S k 2))
  have C1 := Lib.hid (plc_one S k)
  have C2 := Lib.hid (plc_two S k)
  have C3 := Lib.hid (plc_three S k)
  go_wp2
  go_loop [11] (fun i => ∃ j : Nat, 1 ≤ j ∧ j ≤ 4 ∧ i = .int .i64 j) (fun i => 4 - (intOf i).toNat)
  case atStart => exact ⟨1, by omega, by omega, rfl⟩
  case round =>
    obtain ⟨j, hj1, hj4, rfl⟩ := hrel
    have hcs : j = 1 ∨ j = 2 ∨ j = 3 ∨ j = 4 := by omega
    rcases hcs with rfl | rfl | rfl | rfl
    · have hq' : plc S k 1 = 12 ∨ plc S k 1 = 13 := C1.out
      rcases hq' with hq | hq
      · have bQ : bits BinOp.and IntKind.i64 (nth S 12 / 2 ^ k.toNat) 1 = 1 := by rw [bit_or _ _ (HF.out 12 (by omega)) k0 k3, (show bitB (nth S 12) k = true from hq ▸ B1.out)]; rfl
        have bO : bits BinOp.and IntKind.i64 (nth S 13 / 2 ^ k.toNat) 1 = 0 := by rw [bit_or _ _ (HF.out 13 (by omega)) k0 k3, (show bitB (nth S 13) k = false by have := O0.out; rw [show plc S k 0 = 14 from rfl, hq] at this; exact this)]; rfl
        have cQ := HCH.out 12 (by omega)
        have cO := HCH.out 13 (by omega)
        obtain ⟨g1, g2⟩ := HF.out 12 (by omega)
        obtain ⟨g3, g4⟩ := HF.out 13 (by omega)
        have rP : w3.cell? ⟨g, o, none⟩ = some (.int .i64 14) := r0
        have rQ : w3.cell? ⟨g, o + 1, none⟩ = some (.int .i64 12) := by rw [r1, hq]; rfl
        clear r0 r1 r2 r3 hq e0 hc14 f0 f1
        go_wp2
        go_round
        case rel => exact ⟨2, by omega, by omega, by go_num⟩
        case measure => simp [intOf]
      · have bQ : bits BinOp.and IntKind.i64 (nth S 13 / 2 ^ k.toNat) 1 = 1 := by rw [bit_or _ _ (HF.out 13 (by omega)) k0 k3, (show bitB (nth S 13) k = true from hq ▸ B1.out)]; rfl
        have bO : bits BinOp.and IntKind.i64 (nth S 12 / 2 ^ k.toNat) 1 = 0 := by rw [bit_or _ _ (HF.out 12 (by omega)) k0 k3, (show bitB (nth S 12) k = false by have := O0.out; rw [show plc S k 0 = 14 from rfl, hq] at this; exact this)]; rfl
        have cQ := HCH.out 13 (by omega)
        have cO := HCH.out 12 (by omega)
        obtain ⟨g1, g2⟩ := HF.out 13 (by omega)
        obtain ⟨g3, g4⟩ := HF.out 12 (by omega)
        have rP : w3.cell? ⟨g, o, none⟩ = some (.int .i64 14) := r0
        have rQ : w3.cell? ⟨g, o + 1, none⟩ = some (.int .i64 13) := by rw [r1, hq]; rfl
        clear r0 r1 r2 r3 hq e0 hc14 f0 f1
        go_wp2
        go_round
        case rel => exact ⟨2, by omega, by omega, by go_num⟩
        case measure => simp [intOf]
    · have hc2 : (plc S k 1 = 12 ∧ plc S k 2 = 8) ∨ (plc S k 1 = 12 ∧ plc S k 2 = 9) ∨ (plc S k 1 = 13 ∧ plc S k 2 = 10) ∨ (plc S k 1 = 13 ∧ plc S k 2 = 11) := by
        have h1 := N2.out
        rcases C1.out with h | h <;> rw [h] at h1 <;> have h2 : plc S k 2 = nx S k (plc S k 1) := rfl <;> rw [h] at h2 <;> rw [h, h2] <;> rcases h1 with h3 | h3 <;> rw [h3] <;> decide
      rcases hc2 with ⟨hp1, hq⟩ | ⟨hp1, hq⟩ | ⟨hp1, hq⟩ | ⟨hp1, hq⟩
      · have bQ : bits BinOp.and IntKind.i64 (nth S 8 / 2 ^ k.toNat) 1 = 1 := by rw [bit_or _ _ (HF.out 8 (by omega)) k0 k3, (show bitB (nth S 8) k = true from hq ▸ B2.out)]; rfl
        have bO : bits BinOp.and IntKind.i64 (nth S 9 / 2 ^ k.toNat) 1 = 0 := by rw [bit_or _ _ (HF.out 9 (by omega)) k0 k3, (show bitB (nth S 9) k = false by have := O1.out; rw [hp1, hq] at this; exact this)]; rfl
        have cQ := HCH.out 8 (by omega)
        have cO := HCH.out 9 (by omega)
        obtain ⟨g1, g2⟩ := HF.out 8 (by omega)
        obtain ⟨g3, g4⟩ := HF.out 9 (by omega)
        have rP : w3.cell? ⟨g, o + 1, none⟩ = some (.int .i64 12) := by rw [r1, hp1]; rfl
        have rQ : w3.cell? ⟨g, o + 2, none⟩ = some (.int .i64 8) := by rw [r2, hq]; rfl
        clear r0 r1 r2 r3 hq hp1 e0 hc14 f0 f1
        go_wp2
        go_round
        case rel => exact ⟨3, by omega, by omega, by go_num⟩
        case measure => simp [intOf]
      · have bQ : bits BinOp.and IntKind.i64 (nth S 9 / 2 ^ k.toNat) 1 = 1 := by rw [bit_or _ _ (HF.out 9 (by omega)) k0 k3, (show bitB (nth S 9) k = true from hq ▸ B2.out)]; rfl
        have bO : bits BinOp.and IntKind.i64 (nth S 8 / 2 ^ k.toNat) 1 = 0 := by rw [bit_or _ _ (HF.out 8 (by omega)) k0 k3, (show bitB (nth S 8) k = false by have := O1.out; rw [hp1, hq] at this; exact this)]; rfl
        have cQ := HCH.out 9 (by omega)
        have cO := HCH.out 8 (by omega)
        obtain ⟨g1, g2⟩ := HF.out 9 (by omega)
        obtain ⟨g3, g4⟩ := HF.out 8 (by omega)
        have rP : w3.cell? ⟨g, o + 1, none⟩ = some (.int .i64 12) := by rw [r1, hp1]; rfl
        have rQ : w3.cell? ⟨g, o + 2, none⟩ = some (.int .i64 9) := by rw [r2, hq]; rfl
        clear r0 r1 r2 r3 hq hp1 e0 hc14 f0 f1
        go_wp2
        go_round
        case rel => exact ⟨3, by omega, by omega, by go_num⟩
        case measure => simp [intOf]
      · have bQ : bits BinOp.and IntKind.i64 (nth S 10 / 2 ^ k.toNat) 1 = 1 := by rw [bit_or _ _ (HF.out 10 (by omega)) k0 k3, (show bitB (nth S 10) k = true from hq ▸ B2.out)]; rfl
        have bO : bits BinOp.and IntKind.i64 (nth S 11 / 2 ^ k.toNat) 1 = 0 := by rw [bit_or _ _ (HF.out 11 (by omega)) k0 k3, (show bitB (nth S 11) k = false by have := O1.out; rw [hp1, hq] at this; exact this)]; rfl
        have cQ := HCH.out 10 (by omega)
        have cO := HCH.out 11 (by omega)
        obtain ⟨g1, g2⟩ := HF.out 10 (by omega)
        obtain ⟨g3, g4⟩ := HF.out 11 (by omega)
        have rP : w3.cell? ⟨g, o + 1, none⟩ = some (.int .i64 13) := by rw [r1, hp1]; rfl
        have rQ : w3.cell? ⟨g, o + 2, none⟩ = some (.int .i64 10) := by rw [r2, hq]; rfl
        clear r0 r1 r2 r3 hq hp1 e0 hc14 f0 f1
        go_wp2
        go_round
        case rel => exact ⟨3, by omega, by omega, by go_num⟩
        case measure => simp [intOf]
      · have bQ : bits BinOp.and IntKind.i64 (nth S 11 / 2 ^ k.toNat) 1 = 1 := by rw [bit_or _ _ (HF.out 11 (by omega)) k0 k3, (show bitB (nth S 11) k = true from hq ▸ B2.out)]; rfl
        have bO : bits BinOp.and IntKind.i64 (nth S 10 / 2 ^ k.toNat) 1 = 0 := by rw [bit_or _ _ (HF.out 10 (by omega)) k0 k3, (show bitB (nth S 10) k = false by have := O1.out; rw [hp1, hq] at this; exact this)]; rfl
        have cQ := HCH.out 11 (by omega)
        have cO := HCH.out 10 (by omega)
        obtain ⟨g1, g2⟩ := HF.out 11 (by omega)
        obtain ⟨g3, g4⟩ := HF.out 10 (by omega)
        have rP : w3.cell? ⟨g, o + 1, none⟩ = some (.int .i64 13) := by rw [r1, hp1]; rfl
        have rQ : w3.cell? ⟨g, o + 2, none⟩ = some (.int .i64 11) := by rw [r2, hq]; rfl
        clear r0 r1 r2 r3 hq hp1 e0 hc14 f0 f1
        go_wp2
        go_round
        case rel => exact ⟨3, by omega, by omega, by go_num⟩
        case measure => simp [intOf]
    · have hc3 : (plc S k 2 = 8 ∧ plc S k 3 = 0) ∨ (plc S k 2 = 8 ∧ plc S k 3 = 1) ∨ (plc S k 2 = 9 ∧ plc S k 3 = 2) ∨ (plc S k 2 = 9 ∧ plc S k 3 = 3) ∨ (plc S k 2 = 10 ∧ plc S k 3 = 4) ∨ (plc S k 2 = 10 ∧ plc S k 3 = 5) ∨ (plc S k 2 = 11 ∧ plc S k 3 = 6) ∨ (plc S k 2 = 11 ∧ plc S k 3 = 7) := by
        have h1 := N3.out
        rcases C2.out with h | h | h | h <;> rw [h] at h1 <;> have h2 : plc S k 3 = nx S k (plc S k 2) := rfl <;> rw [h] at h2 <;> rw [h, h2] <;> rcases h1 with h3 | h3 <;> rw [h3] <;> decide
      rcases hc3 with ⟨hp1, hq⟩ | ⟨hp1, hq⟩ | ⟨hp1, hq⟩ | ⟨hp1, hq⟩ | ⟨hp1, hq⟩ | ⟨hp1, hq⟩ | ⟨hp1, hq⟩ | ⟨hp1, hq⟩
      · have bQ : bits BinOp.and IntKind.i64 (nth S 0 / 2 ^ k.toNat) 1 = 1 := by rw [bit_or _ _ (HF.out 0 (by omega)) k0 k3, (show bitB (nth S 0) k = true from hq ▸ B3.out)]; rfl
        have bO : bits BinOp.and IntKind.i64 (nth S 1 / 2 ^ k.toNat) 1 = 0 := by rw [bit_or _ _ (HF.out 1 (by omega)) k0 k3, (show bitB (nth S 1) k = false by have := O2.out; rw [hp1, hq] at this; exact this)]; rfl
        have cQ := HCH.out 0 (by omega)
        have cO := HCH.out 1 (by omega)
        obtain ⟨g1, g2⟩ := HF.out 0 (by omega)
        obtain ⟨g3, g4⟩ := HF.out 1 (by omega)
        have rP : w3.cell? ⟨g, o + 2, none⟩ = some (.int .i64 8) := by rw [r2, hp1]; rfl
        have rQ : w3.cell? ⟨g, o + 3, none⟩ = some (.int .i64 0) := by rw [r3, hq]; rfl
        clear r0 r1 r2 r3 hq hp1 e0 hc14 f0 f1
        go_wp2
        go_round
        case rel => exact ⟨4, by omega, by omega, by go_num⟩
        case measure => simp [intOf]
      · have bQ : bits BinOp.and IntKind.i64 (nth S 1 / 2 ^ k.toNat) 1 = 1 := by rw [bit_or _ _ (HF.out 1 (by omega)) k0 k3, (show bitB (nth S 1) k = true from hq ▸ B3.out)]; rfl
        have bO : bits BinOp.and IntKind.i64 (nth S 0 / 2 ^ k.toNat) 1 = 0 := by rw [bit_or _ _ (HF.out 0 (by omega)) k0 k3, (show bitB (nth S 0) k = false by have := O2.out; rw [hp1, hq] at this; exact this)]; rfl
        have cQ := HCH.out 1 (by omega)
        have cO := HCH.out 0 (by omega)
        obtain ⟨g1, g2⟩ := HF.out 1 (by omega)
        obtain ⟨g3, g4⟩ := HF.out 0 (by omega)
        have rP : w3.cell? ⟨g, o + 2, none⟩ = some (.int .i64 8) := by rw [r2, hp1]; rfl
        have rQ : w3.cell? ⟨g, o + 3, none⟩ = some (.int .i64 1) := by rw [r3, hq]; rfl
        clear r0 r1 r2 r3 hq hp1 e0 hc14 f0 f1
        go_wp2
        go_round
        case rel => exact ⟨4, by omega, by omega, by go_num⟩
        case measure => simp [intOf]
      · have bQ : bits BinOp.and IntKind.i64 (nth S 2 / 2 ^ k.toNat) 1 = 1 := by rw [bit_or _ _ (HF.out 2 (by omega)) k0 k3, (show bitB (nth S 2) k = true from hq ▸ B3.out)]; rfl
        have bO : bits BinOp.and IntKind.i64 (nth S 3 / 2 ^ k.toNat) 1 = 0 := by rw [bit_or _ _ (HF.out 3 (by omega)) k0 k3, (show bitB (nth S 3) k = false by have := O2.out; rw [hp1, hq] at this; exact this)]; rfl
        have cQ := HCH.out 2 (by omega)
        have cO := HCH.out 3 (by omega)
        obtain ⟨g1, g2⟩ := HF.out 2 (by omega)
        obtain ⟨g3, g4⟩ := HF.out 3 (by omega)
        have rP : w3.cell? ⟨g, o + 2, none⟩ = some (.int .i64 9) := by rw [r2, hp1]; rfl
        have rQ : w3.cell? ⟨g, o + 3, none⟩ = some (.int .i64 2) := by rw [r3, hq]; rfl
        clear r0 r1 r2 r3 hq hp1 e0 hc14 f0 f1
        go_wp2
        go_round
        case rel => exact ⟨4, by omega, by omega, by go_num⟩
        case measure => simp [intOf]
      · have bQ : bits BinOp.and IntKind.i64 (nth S 3 / 2 ^ k.toNat) 1 = 1 := by rw [bit_or _ _ (HF.out 3 (by omega)) k0 k3, (show bitB (nth S 3) k = true from hq ▸ B3.out)]; rfl
        have bO : bits BinOp.and IntKind.i64 (nth S 2 / 2 ^ k.toNat) 1 = 0 := by rw [bit_or _ _ (HF.out 2 (by omega)) k0 k3, (show bitB (nth S 2) k = false by have := O2.out; rw [hp1, hq] at this; exact this)]; rfl
        have cQ := HCH.out 3 (by omega)
        have cO := HCH.out 2 (by omega)
        obtain ⟨g1, g2⟩ := HF.out 3 (by omega)
        obtain ⟨g3, g4⟩ := HF.out 2 (by omega)
        have rP : w3.cell? ⟨g, o + 2, none⟩ = some (.int .i64 9) := by rw [r2, hp1]; rfl
        have rQ : w3.cell? ⟨g, o + 3, none⟩ = some (.int .i64 3) := by rw [r3, hq]; rfl
        clear r0 r1 r2 r3 hq hp1 e0 hc14 f0 f1
        go_wp2
        go_round
        case rel => exact ⟨4, by omega, by omega, by go_num⟩
        case measure => simp [intOf]
      · have bQ : bits BinOp.and IntKind.i64 (nth S 4 / 2 ^ k.toNat) 1 = 1 := by rw [bit_or _ _ (HF.out 4 (by omega)) k0 k3, (show bitB (nth S 4) k = true from hq ▸ B3.out)]; rfl
        have bO : bits BinOp.and IntKind.i64 (nth S 5 / 2 ^ k.toNat) 1 = 0 := by rw [bit_or _ _ (HF.out 5 (by omega)) k0 k3, (show bitB (nth S 5) k = false by have := O2.out; rw [hp1, hq] at this; exact this)]; rfl
        have cQ := HCH.out 4 (by omega)
        have cO := HCH.out 5 (by omega)
        obtain ⟨g1, g2⟩ := HF.out 4 (by omega)
        obtain ⟨g3, g4⟩ := HF.out 5 (by omega)
        have rP : w3.cell? ⟨g, o + 2, none⟩ = some (.int .i64 10) := by rw [r2, hp1]; rfl
        have rQ : w3.cell? ⟨g, o + 3, none⟩ = some (.int .i64 4) := by rw [r3, hq]; rfl
        clear r0 r1 r2 r3 hq hp1 e0 hc14 f0 f1
        go_wp2
        go_round
        case rel => exact ⟨4, by omega, by omega, by go_num⟩
        case measure => simp [intOf]
      · have bQ : bits BinOp.and IntKind.i64 (nth S 5 / 2 ^ k.toNat) 1 = 1 := by rw [bit_or _ _ (HF.out 5 (by omega)) k0 k3, (show bitB (nth S 5) k = true from hq ▸ B3.out)]; rfl
        have bO : bits BinOp.and IntKind.i64 (nth S 4 / 2 ^ k.toNat) 1 = 0 := by rw [bit_or _ _ (HF.out 4 (by omega)) k0 k3, (show bitB (nth S 4) k = false by have := O2.out; rw [hp1, hq] at this; exact this)]; rfl
        have cQ := HCH.out 5 (by omega)
        have cO := HCH.out 4 (by omega)
        obtain ⟨g1, g2⟩ := HF.out 5 (by omega)
        obtain ⟨g3, g4⟩ := HF.out 4 (by omega)
        have rP : w3.cell? ⟨g, o + 2, none⟩ = some (.int .i64 10) := by rw [r2, hp1]; rfl
        have rQ : w3.cell? ⟨g, o + 3, none⟩ = some (.int .i64 5) := by rw [r3, hq]; rfl
        clear r0 r1 r2 r3 hq hp1 e0 hc14 f0 f1
        go_wp2
        go_round
        case rel => exact ⟨4, by omega, by omega, by go_num⟩
        case measure => simp [intOf]
      · have bQ : bits BinOp.and IntKind.i64 (nth S 6 / 2 ^ k.toNat) 1 = 1 := by rw [bit_or _ _ (HF.out 6 (by omega)) k0 k3, (show bitB (nth S 6) k = true from hq ▸ B3.out)]; rfl
        have bO : bits BinOp.and IntKind.i64 (nth S 7 / 2 ^ k.toNat) 1 = 0 := by rw [bit_or _ _ (HF.out 7 (by omega)) k0 k3, (show bitB (nth S 7) k = false by have := O2.out; rw [hp1, hq] at this; exact this)]; rfl
        have cQ := HCH.out 6 (by omega)
        have cO := HCH.out 7 (by omega)
        obtain ⟨g1, g2⟩ := HF.out 6 (by omega)
        obtain ⟨g3, g4⟩ := HF.out 7 (by omega)
        have rP : w3.cell? ⟨g, o + 2, none⟩ = some (.int .i64 11) := by rw [r2, hp1]; rfl
        have rQ : w3.cell? ⟨g, o + 3, none⟩ = some (.int .i64 6) := by rw [r3, hq]; rfl
        clear r0 r1 r2 r3 hq hp1 e0 hc14 f0 f1
        go_wp2
        go_round
        case rel => exact ⟨4, by omega, by omega, by go_num⟩
        case measure => simp [intOf]
      · have bQ : bits BinOp.and IntKind.i64 (nth S 7 / 2 ^ k.toNat) 1 = 1 := by rw [bit_or _ _ (HF.out 7 (by omega)) k0 k3, (show bitB (nth S 7) k = true from hq ▸ B3.out)]; rfl
        have bO : bits BinOp.and IntKind.i64 (nth S 6 / 2 ^ k.toNat) 1 = 0 := by rw [bit_or _ _ (HF.out 6 (by omega)) k0 k3, (show bitB (nth S 6) k = false by have := O2.out; rw [hp1, hq] at this; exact this)]; rfl
        have cQ := HCH.out 7 (by omega)
        have cO := HCH.out 6 (by omega)
        obtain ⟨g1, g2⟩ := HF.out 7 (by omega)
        obtain ⟨g3, g4⟩ := HF.out 6 (by omega)
        have rP : w3.cell? ⟨g, o + 2, none⟩ = some (.int .i64 11) := by rw [r2, hp1]; rfl
        have rQ : w3.cell? ⟨g, o + 3, none⟩ = some (.int .i64 7) := by rw [r3, hq]; rfl
        clear r0 r1 r2 r3 hq hp1 e0 hc14 f0 f1
        go_wp2
        go_round
        case rel => exact ⟨4, by omega, by omega, by go_num⟩
        case measure => simp [intOf]
    · have hlt3 : (plc S k 3 : Int) < 8 := by have := C3.out; omega
      clear r0 r1 r2 e0 hc14
      go_wp2_with (go_at_call 22; refine (known_any _ (hp.below hb7 (Nat.le_refl _)) (hn.below hb7 (Nat.le_refl _))).mono ?_; rintro e w4 ⟨rfl, hb8⟩)
      go_ret
      exact ⟨rfl, tr hb7 hb8⟩
theorem path_any (n l : Int) (h0 : 0 ≤ n) (h1 : n ≤ 65535) (l0 : 0 ≤ l) (l1 : l ≤ 255) (w : World) (hp : Par w) (hn : Nam w) :
    Calls Tryd.prog 14 #[.int .u16 n, .int .u8 l] w fun e w' => e = .returned (.bool true) ∧ Below w.heap.size w w' := by
  cases hb : bitB (nth (dP (nibs n) 16) 14) (l % 4)
  · exact path_no n l h0 h1 l0 l1 w hp hn hb
  · exact path_yes n l h0 h1 l0 l1 w hp hn hb
end Go.Proofs.YtgaljmhhagldlaaDoor
