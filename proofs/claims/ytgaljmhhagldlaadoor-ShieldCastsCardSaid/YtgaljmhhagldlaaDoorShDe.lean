/-
  ShieldDerives: the walk of the law.
-/
import Derived.Test.YtgaljmhhagldlaaDoorShRd
import Derived.Test.YtgaljmhhagldlaaDoorShN
import Derived.Test.YtgaljmhhagldlaaDoorShP
namespace Go.Proofs.YtgaljmhhagldlaaDoor
open Go Go.RowKit
set_option linter.unusedVariables false

def zeroL : List Int := List.replicate 16 0
theorem guard_moth : Tryd.prog.eqGuardType Tryd.prog.depth 46 = false := by kernel_rfl
theorem eq_moth {a b : List Int} (ha : a.length = 4) (hb : b.length = 4) (w : World) : (Op.equalIn 10000 46 (.agg (arr a)) (.agg (arr b))).run Tryd.prog w = .ok (decide (a = b)) w :=
  run_equalIn_ints w 9998 46 22 4 Tryd.underlying46 Tryd.underlying22 info_fig a b ha hb
theorem number_bad (m : List Int) (hl : Hid (m.length = 4)) (H : Hid (chkF m = 2)) (w : World) :
    Calls Tryd.prog 33 #[.agg (arr m)] w fun e w' => e = .returned (.tuple #[.int .i64 0, .int .i64 2]) ∧ Below w.heap.size w w' := by
  have hB0 : Below w.heap.size w (w.alloc (.cells (arr m) 46)) := (Below.refl _ _).alloc (Nat.le_refl _) _
  have HM := Lib.hid (Blk.new w 46 (arr m))
  go_enter Tryd.func33, Tryd.ntmps33
  go_wp2_with fail
  refine (checkF_n (some ⟨w.heap.size, 0, none⟩) m 4 4 _ hl (by omega) HM.out.reads).mono ?_
  rintro e w1 ⟨rfl, hb1⟩
  rw [H.out]
  have hb2 : Below w.heap.size w w1 := hB0.trans (hb1.mono (by simp))
  go_wp2
  go_ret2
  exact ⟨rfl, hb2⟩
theorem derive_bad (m : List Int) (hl : m.length = 4) (H : chkF m = 2) (w : World) (hp : Par w) :
    Calls Tryd.prog 34 #[.agg (arr m)] w fun e w' => e = .returned (.tuple #[.agg (arr zeroL), .int .i64 2]) ∧ Below w.heap.size w w' := by
  obtain ⟨a, b, c, d, rfl⟩ := four hl
  have := derive_any a b c d w hp
  rwa [show deriveV [a, b, c, d] = zeroL by unfold deriveV; rw [if_neg (by omega)]; rfl, H] at this
theorem figB_true {x : Int} (h : Fig x) : figB x = true := by simp [figB]; exact h
theorem figB_false {x : Int} (h : ¬ Fig x) : figB x = false := by
  simp only [figB, decide_eq_false_iff_not]
  exact h
theorem keepD {W V V' : World} {b1 b2 : Nat} {c1 : List Value} {a b c d : Value} (h : V.rangeAt b1 0 c1 ∧ V.cell? ⟨b2, 0, none⟩ = some a ∧ V.cell? ⟨b2, 1, none⟩ = some b ∧ V.cell? ⟨b2, 2, none⟩ = some c ∧ V.cell? ⟨b2, 3, none⟩ = some d ∧ Below W.heap.size W V) (hb : Below V.heap.size V V') : V'.rangeAt b1 0 c1 ∧ V'.cell? ⟨b2, 0, none⟩ = some a ∧ V'.cell? ⟨b2, 1, none⟩ = some b ∧ V'.cell? ⟨b2, 2, none⟩ = some c ∧ V'.cell? ⟨b2, 3, none⟩ = some d ∧ Below W.heap.size W V' :=
  ⟨range_tr hb h.1, cell_tr hb h.2.1, cell_tr hb h.2.2.1, cell_tr hb h.2.2.2.1, cell_tr hb h.2.2.2.2.1, tr h.2.2.2.2.2 hb⟩
theorem known_S {w W V : World} {b1 b2 : Nat} {c1 : List Value} {a b c d : Value} (hS : V.rangeAt b1 0 c1 ∧ V.cell? ⟨b2, 0, none⟩ = some a ∧ V.cell? ⟨b2, 1, none⟩ = some b ∧ V.cell? ⟨b2, 2, none⟩ = some c ∧ V.cell? ⟨b2, 3, none⟩ = some d ∧ Below W.heap.size W V) (hp : Par w) (hn : Nam w) (h : Below w.heap.size w W) :
    Calls Tryd.prog 22 #[] V fun e w'' => e = .returned (.bool true) ∧ Below V.heap.size V w'' :=
  known_any V (hp.below (tr h hS.2.2.2.2.2) (Nat.le_refl _)) (hn.below (tr h hS.2.2.2.2.2) (Nat.le_refl _))
theorem nibs_num {m : List Int} (hl : m.length = 4) (hm : ∀ k, k < 4 → Fig (nth m k)) : nibs (numL m) = m := by
  obtain ⟨a, b, c, d, rfl⟩ := four hl
  obtain ⟨a0, a1⟩ : 0 ≤ a ∧ a ≤ 15 := hm 0 (by omega)
  obtain ⟨b0, b1⟩ : 0 ≤ b ∧ b ≤ 15 := hm 1 (by omega)
  obtain ⟨c0, c1⟩ : 0 ≤ c ∧ c ≤ 15 := hm 2 (by omega)
  obtain ⟨d0, d1⟩ : 0 ≤ d ∧ d ≤ 15 := hm 3 (by omega)
  show [(((a * 16 + b) * 16 + c) * 16 + d) / 4096 % 16, (((a * 16 + b) * 16 + c) * 16 + d) / 256 % 16, (((a * 16 + b) * 16 + c) * 16 + d) / 16 % 16, (((a * 16 + b) * 16 + c) * 16 + d) % 16] = [a, b, c, d]
  rw [show (((a * 16 + b) * 16 + c) * 16 + d) / 4096 % 16 = a by omega, show (((a * 16 + b) * 16 + c) * 16 + d) / 256 % 16 = b by omega, show (((a * 16 + b) * 16 + c) * 16 + d) / 16 % 16 = c by omega, show (((a * 16 + b) * 16 + c) * 16 + d) % 16 = d by omega]
theorem num_bd {m : List Int} (hl : m.length = 4) (hm : ∀ k, k < 4 → Fig (nth m k)) : 0 ≤ numL m ∧ numL m ≤ 65535 := by
  obtain ⟨a, b, c, d, rfl⟩ := four hl
  obtain ⟨a0, a1⟩ : 0 ≤ a ∧ a ≤ 15 := hm 0 (by omega)
  obtain ⟨b0, b1⟩ : 0 ≤ b ∧ b ≤ 15 := hm 1 (by omega)
  obtain ⟨c0, c1⟩ : 0 ≤ c ∧ c ≤ 15 := hm 2 (by omega)
  obtain ⟨d0, d1⟩ : 0 ≤ d ∧ d ≤ 15 := hm 3 (by omega)
  show 0 ≤ ((a * 16 + b) * 16 + c) * 16 + d ∧ ((a * 16 + b) * 16 + c) * 16 + d ≤ 65535
  omega

set_option maxRecDepth 100000 in
set_option maxHeartbeats 8000000 in
theorem derives_bad (m : List Int) (hl : Hid (m.length = 4)) (H : Hid (chkF m = 2)) (w : World) (hp : Par w) (hn : Nam w) :
    Calls Tryd.prog 6 #[.agg (arr m)] w fun e w' => e = .returned (.bool true) ∧ Below w.heap.size w w' := by
  have G := guard_shield
  have N : ∀ wx : World, (Op.equalIn 10000 56 (.agg #[.int .i64 0, .int .i64 0, .int .i64 0, .int .i64 0, .int .i64 0, .int .i64 0, .int .i64 0, .int .i64 0, .int .i64 0, .int .i64 0, .int .i64 0, .int .i64 0, .int .i64 0, .int .i64 0, .int .i64 0, .int .i64 0]) (.agg #[.int .i64 0, .int .i64 0, .int .i64 0, .int .i64 0, .int .i64 0, .int .i64 0, .int .i64 0, .int .i64 0, .int .i64 0, .int .i64 0, .int .i64 0, .int .i64 0, .int .i64 0, .int .i64 0, .int .i64 0, .int .i64 0])).run Tryd.prog wx = .ok true wx := fun wx => by
    have := neq_shield (a := zeroL) (b := zeroL) rfl rfl wx
    rw [decide_eq_true rfl] at this
    exact this
  have HM := Lib.hid (Blk.new w 46 (arr m))
  have hB0 : Below w.heap.size w (w.alloc (.cells (arr m) 46)) := (Below.refl _ _).alloc (Nat.le_refl _) _
  have HI4 := Lib.hid (show (Tryd.prog.info? 46).map (·.size) = some (arr m).size by rw [arr_size, hl.out]; exact info_moth)
  go_enter Tryd.func6, Tryd.ntmps6
  go_wp2_with (refine wpList_load_row rfl 46 (.tmp 1) rfl w.heap.size rfl 46 (arr m) (0, 0) _ HM.out Tryd.underlying46 rfl HI4.out ?_)
  refine (number_bad m hl H _).mono ?_
  rintro e w1 ⟨rfl, hb1⟩
  have HM1 := Lib.hid (HM.out.below hb1 (by simp))
  have hb2 := hB0.trans (hb1.mono hB0.size)
  have hs1 := HM1.out.lt
  clear hb1 hB0 HM
  go_wp2_with (refine wpList_load_row rfl 46 (.tmp 1) rfl w.heap.size rfl 46 (arr m) (0, 0) _ HM1.out Tryd.underlying46 rfl HI4.out ?_)
  refine (derive_bad m hl.out H.out _ (hp.below hb2 (Nat.le_refl _))).mono ?_
  rintro e w2 ⟨rfl, hb3⟩
  have hb4 := tr hb2 hb3
  have HM2 := Lib.hid (HM1.out.below hb3 hs1)
  have hs2 := HM2.out.lt
  clear hb2 hb3 HM1
  have HS := Lib.hid (Blk.new w2 56 (arr (List.replicate 16 0)))
  have HL := Lib.hid (show zeroL.length = 16 from rfl)
  have HI := Lib.hid (show (Tryd.prog.info? 56).map (·.size) = some (arr zeroL).size by rw [arr_size, HL.out]; exact info_shield)
  have HO := Lib.hid (show (arr (List.replicate 16 0)).size = (arr zeroL).size by first | rfl | (rw [arr_size, arr_size, HL.out]; rfl))
  have HS2 := Lib.hid (HS.out.row (arr zeroL))
  have hb5 : Below w2.heap.size w2 ((w2.alloc (.cells (arr (List.replicate 16 0)) 56)).setRow w2.heap.size (arr zeroL)) := below_setRow ((Below.refl _ _).alloc (Nat.le_refl _) _) (Nat.le_refl _) _
  have HM3 := Lib.hid (HM2.out.below hb5 hs2)
  have hb6 := tr hb4 hb5
  clear hb4 hb5 HM2
  go_wp2_with (refine wpList_store_row rfl 56 (.tmp 5) (.tmp 16) rfl w2.heap.size (arr zeroL) rfl rfl 56 _ HS.out info_shield rfl (arr_one _) ?_)
  generalize hW : ((w2.alloc (.cells (arr (List.replicate 16 0)) 56)).setRow w2.heap.size (arr zeroL)) = W at HS2 HM3 hb6
  try rw [show ((w2.alloc (.cells #[.int .i64 0, .int .i64 0, .int .i64 0, .int .i64 0, .int .i64 0, .int .i64 0, .int .i64 0, .int .i64 0, .int .i64 0, .int .i64 0, .int .i64 0, .int .i64 0, .int .i64 0, .int .i64 0, .int .i64 0, .int .i64 0] 56)).setRow w2.heap.size (arr zeroL)) = W from hW]
  clear hW HS HO
  have hsW := HS2.out.lt
  have HCM := Lib.hid (fun k (hk : k < 4) => show W.cell? ⟨w.heap.size, k, none⟩ = some (.int .i64 (nth m k)) by rw [HM3.out.cell k, arr_get (by rw [hl.out]; exact hk)])
  go_loop [7] (fun i => ∃ k : Nat, k ≤ 4 ∧ i = .int .i64 k ∧ Hid (∀ j, j < k → Fig (nth m j))) (fun i => 4 - (intOf i).toNat)
  case atStart => exact ⟨0, by omega, rfl, fun j hj => by omega⟩
  case round =>
    obtain ⟨k, hk, rfl, HF⟩ := hrel
    by_cases hlt : k < 4
    · have hc := HCM.out k hlt
      by_cases hfg : Fig (nth m k)
      · have HG := Lib.hid (figB_true hfg)
        have HH := Lib.hid hfg
        clear hfg
        go_wp2_with (go_at_call 21; refine (refFigure_any _ _).mono ?_; rintro e w' ⟨rfl, rfl⟩; rw [HG.out])
        go_round
        case rel => exact ⟨k + 1, by omega, by go_num, fun j hj => by by_cases e : j = k; exact e ▸ HH.out; exact HF.out j (by omega)⟩
        case measure => simp [intOf]; omega
      · have HG := Lib.hid (figB_false hfg)
        clear hfg
        have z0 : W.cell? ⟨w2.heap.size, 0, none⟩ = some (.int .i64 0) := HS2.out.cell 0
        have z1 : W.cell? ⟨w2.heap.size, 1, none⟩ = some (.int .i64 0) := HS2.out.cell 1
        have z2 : W.cell? ⟨w2.heap.size, 2, none⟩ = some (.int .i64 0) := HS2.out.cell 2
        have z3 : W.cell? ⟨w2.heap.size, 3, none⟩ = some (.int .i64 0) := HS2.out.cell 3
        have z4 : W.cell? ⟨w2.heap.size, 4, none⟩ = some (.int .i64 0) := HS2.out.cell 4
        have z5 : W.cell? ⟨w2.heap.size, 5, none⟩ = some (.int .i64 0) := HS2.out.cell 5
        have z6 : W.cell? ⟨w2.heap.size, 6, none⟩ = some (.int .i64 0) := HS2.out.cell 6
        have z7 : W.cell? ⟨w2.heap.size, 7, none⟩ = some (.int .i64 0) := HS2.out.cell 7
        have z8 : W.cell? ⟨w2.heap.size, 8, none⟩ = some (.int .i64 0) := HS2.out.cell 8
        have z9 : W.cell? ⟨w2.heap.size, 9, none⟩ = some (.int .i64 0) := HS2.out.cell 9
        have z10 : W.cell? ⟨w2.heap.size, 10, none⟩ = some (.int .i64 0) := HS2.out.cell 10
        have z11 : W.cell? ⟨w2.heap.size, 11, none⟩ = some (.int .i64 0) := HS2.out.cell 11
        have z12 : W.cell? ⟨w2.heap.size, 12, none⟩ = some (.int .i64 0) := HS2.out.cell 12
        have z13 : W.cell? ⟨w2.heap.size, 13, none⟩ = some (.int .i64 0) := HS2.out.cell 13
        have z14 : W.cell? ⟨w2.heap.size, 14, none⟩ = some (.int .i64 0) := HS2.out.cell 14
        have z15 : W.cell? ⟨w2.heap.size, 15, none⟩ = some (.int .i64 0) := HS2.out.cell 15
        go_wp2_with (first
          | (go_at_call 21; refine (refFigure_any _ _).mono ?_; rintro e w' ⟨rfl, rfl⟩; rw [HG.out])
          | (go_at_call 22; refine (known_any _ (hp.below hb6 (Nat.le_refl _)) (hn.below hb6 (Nat.le_refl _))).mono ?_; rintro e w4 ⟨rfl, hb8⟩))
        go_ret
        exact ⟨rfl, tr hb6 hb8⟩
    · obtain rfl : k = 4 := by omega
      exact absurd (chkF_moth hl.out HF.out) (by have := H.out; omega)
set_option maxRecDepth 100000 in
set_option maxHeartbeats 8000000 in
theorem derives_good (m : List Int) (hl : Hid (m.length = 4)) (hm : Hid (∀ k, k < 4 → Fig (nth m k))) (w : World) (hp : Par w) (hn : Nam w) :
    Calls Tryd.prog 6 #[.agg (arr m)] w fun e w' => e = .returned (.bool true) ∧ Below w.heap.size w w' := by
  obtain ⟨a, b, c, d, rfl⟩ := four hl.out
  have G := guard_shield
  have G4 := guard_moth
  have HNN := Lib.hid (nibs_num hl.out hm.out)
  have N : ∀ wx : World, (Op.equalIn 10000 56 (.agg ((dP [a, b, c, d] 16).map (Value.int .i64)).toArray) (.agg (arr (dP [a, b, c, d] 16)))).run Tryd.prog wx = .ok true wx := fun wx => by
    have := neq_shield (a := dP [a, b, c, d] 16) (b := dP [a, b, c, d] 16) (dP_len [a, b, c, d] hl.out) (dP_len [a, b, c, d] hl.out) wx
    rw [decide_eq_true rfl] at this
    exact this
  have N4 : ∀ wx : World, (Op.equalIn 10000 46 (.agg (arr [a, b, c, d])) (.agg #[.int .i64 a, .int .i64 b, .int .i64 c, .int .i64 d])).run Tryd.prog wx = .ok true wx := fun wx => by
    have := eq_moth (a := [a, b, c, d]) (b := [a, b, c, d]) hl.out hl.out wx
    rw [decide_eq_true rfl] at this
    exact this
  obtain ⟨n0, n1⟩ := num_bd hl.out hm.out
  have HM := Lib.hid (Blk.new w 46 (arr [a, b, c, d]))
  have hB0 : Below w.heap.size w (w.alloc (.cells (arr [a, b, c, d]) 46)) := (Below.refl _ _).alloc (Nat.le_refl _) _
  have HI4 := Lib.hid (show (Tryd.prog.info? 46).map (·.size) = some (arr [a, b, c, d]).size by rw [arr_size, hl.out]; exact info_moth)
  go_enter Tryd.func6, Tryd.ntmps6
  go_wp2_with (refine wpList_load_row rfl 46 (.tmp 1) rfl w.heap.size rfl 46 (arr [a, b, c, d]) (0, 0) _ HM.out Tryd.underlying46 rfl HI4.out ?_)
  refine ((show Calls Tryd.prog 33 #[.agg (arr [a, b, c, d])] _ (fun e w' => e = .returned (.tuple #[.int .i64 (numL [a, b, c, d]), .int .i64 0]) ∧ Below (w.alloc (.cells (arr [a, b, c, d]) 46)).heap.size (w.alloc (.cells (arr [a, b, c, d]) 46)) w') by exact number_good a b c d hm _)).mono ?_
  rintro e w1 ⟨rfl, hb1⟩
  have HM1 := Lib.hid (HM.out.below hb1 (by simp))
  have hb2 := hB0.trans (hb1.mono hB0.size)
  have hs1 := HM1.out.lt
  clear hb1 hB0 HM
  go_wp2_with (refine wpList_load_row rfl 46 (.tmp 1) rfl w.heap.size rfl 46 (arr [a, b, c, d]) (0, 0) _ HM1.out Tryd.underlying46 rfl HI4.out ?_)
  refine (derive_good [a, b, c, d] hl.out hm.out _ (hp.below hb2 (Nat.le_refl _))).mono ?_
  rintro e w2 ⟨rfl, hb3⟩
  have hb4 := tr hb2 hb3
  have HM2 := Lib.hid (HM1.out.below hb3 hs1)
  have hs2 := HM2.out.lt
  clear hb2 hb3 HM1
  have HS := Lib.hid (Blk.new w2 56 (arr (List.replicate 16 0)))
  have HL := Lib.hid (show (dP [a, b, c, d] 16).length = 16 from dP_len [a, b, c, d] hl.out)
  have HI := Lib.hid (show (Tryd.prog.info? 56).map (·.size) = some (arr (dP [a, b, c, d] 16)).size by rw [arr_size, HL.out]; exact info_shield)
  have HO := Lib.hid (show (arr (List.replicate 16 0)).size = (arr (dP [a, b, c, d] 16)).size by first | rfl | (rw [arr_size, arr_size, HL.out]; rfl))
  have HS2 := Lib.hid (HS.out.row (arr (dP [a, b, c, d] 16)))
  have hb5 : Below w2.heap.size w2 ((w2.alloc (.cells (arr (List.replicate 16 0)) 56)).setRow w2.heap.size (arr (dP [a, b, c, d] 16))) := below_setRow ((Below.refl _ _).alloc (Nat.le_refl _) _) (Nat.le_refl _) _
  have HM3 := Lib.hid (HM2.out.below hb5 hs2)
  have hb6 := tr hb4 hb5
  clear hb4 hb5 HM2
  go_wp2_with (refine wpList_store_row rfl 56 (.tmp 5) (.tmp 16) rfl w2.heap.size (arr (dP [a, b, c, d] 16)) rfl rfl 56 _ HS.out HI.out HO.out (arr_one _) ?_)
  generalize hW : ((w2.alloc (.cells (arr (List.replicate 16 0)) 56)).setRow w2.heap.size (arr (dP [a, b, c, d] 16))) = W at HS2 HM3 hb6
  try rw [show ((w2.alloc (.cells #[.int .i64 0, .int .i64 0, .int .i64 0, .int .i64 0, .int .i64 0, .int .i64 0, .int .i64 0, .int .i64 0, .int .i64 0, .int .i64 0, .int .i64 0, .int .i64 0, .int .i64 0, .int .i64 0, .int .i64 0, .int .i64 0] 56)).setRow w2.heap.size (arr (dP [a, b, c, d] 16))) = W from hW]
  clear hW HS HO
  have hsW := HS2.out.lt
  have HCM := Lib.hid (fun k (hk : k < 4) => show W.cell? ⟨w.heap.size, k, none⟩ = some (.int .i64 (nth [a, b, c, d] k)) by rw [HM3.out.cell k, arr_get (by rw [hl.out]; exact hk)])
  go_loop [7] (fun i => ∃ k : Nat, k ≤ 4 ∧ i = .int .i64 k) (fun i => 4 - (intOf i).toNat)
  case atStart => exact ⟨0, by omega, rfl⟩
  case round =>
    obtain ⟨k, hk, rfl⟩ := hrel
    by_cases hlt : k < 4
    · have hc := HCM.out k hlt
      have HG := Lib.hid (figB_true (hm.out k hlt))
      go_wp2_with (go_at_call 21; refine (refFigure_any _ _).mono ?_; rintro e w' ⟨rfl, rfl⟩; rw [HG.out])
      go_round
      case rel => exact ⟨k + 1, by omega, by go_num⟩
      case measure => simp [intOf]; omega
    · obtain rfl : k = 4 := by omega
      have U : Tryd.prog.underlying 56 = some (.array 16 22) := Tryd.underlying56
      have I : (Tryd.prog.info? 56).map (·.size) = some ((dP [a, b, c, d] 16).map (Value.int .i64)).length := by rw [List.length_map, HL.out]; exact info_shield
      have kr : W.rangeAt w2.heap.size 0 ((dP [a, b, c, d] 16).map (Value.int .i64)) := HS2.out.range
      have km0 : W.cell? ⟨w.heap.size, 0, none⟩ = some (.int .i64 a) := HM3.out.cell 0
      have km1 : W.cell? ⟨w.heap.size, 1, none⟩ = some (.int .i64 b) := HM3.out.cell 1
      have km2 : W.cell? ⟨w.heap.size, 2, none⟩ = some (.int .i64 c) := HM3.out.cell 2
      have km3 : W.cell? ⟨w.heap.size, 3, none⟩ = some (.int .i64 d) := HM3.out.cell 3
      go_wp2
      go_region_held3 (fun w' => w'.rangeAt w2.heap.size 0 ((dP [a, b, c, d] 16).map (Value.int .i64)) ∧ w'.cell? ⟨w.heap.size, 0, none⟩ = some (.int .i64 a) ∧ w'.cell? ⟨w.heap.size, 1, none⟩ = some (.int .i64 b) ∧ w'.cell? ⟨w.heap.size, 2, none⟩ = some (.int .i64 c) ∧ w'.cell? ⟨w.heap.size, 3, none⟩ = some (.int .i64 d) ∧ Below W.heap.size W w')
        (first | exact ⟨kr, km0, km1, km2, km3, (Below.refl _ _).drew⟩ | assumption | exact keepD (W := W.drew) ⟨kr, km0, km1, km2, km3, (Below.refl _ _).drew⟩ hbk | exact keepD (by assumption) hbk)
        (first
          | (go_at_call 32; refine (refMothers_any _ n0 n1 _).mono ?_; rintro e w' ⟨rfl, hbk⟩; rw [HNN.out])
          | (go_at_call 35; refine (refDerive_any a b c d hm.out _).mono ?_; rintro e w' ⟨rfl, hbk⟩)
          | (go_at_call 22; refine (known_S (by assumption) hp hn hb6).mono ?_; rintro e w' ⟨rfl, hbk⟩))
      rename_i hh
      obtain ⟨_, _, _, _, _, hbx⟩ := hh
      have hb9 := tr hb6 hbx
      clear hbk hbx kr km0 km1 km2 km3 U I N N4
      go_wp2
      go_ret
      exact ⟨rfl, hb9⟩
theorem derives_any (m : List Int) (hl : m.length = 4) (w : World) (hp : Par w) (hn : Nam w) :
    Calls Tryd.prog 6 #[.agg (arr m)] w fun e w' => e = .returned (.bool true) ∧ Below w.heap.size w w' := by
  rcases chkF_or m with h | h
  · exact derives_good m hl (fun k hk => chkF_zero h k (by omega)) w hp hn
  · exact derives_bad m hl h w hp hn
end Go.Proofs.YtgaljmhhagldlaaDoor
