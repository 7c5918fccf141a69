/-
  Package hexagram: the weights of places.
-/
import Derived.Test.YtojlopfjhhiilaaGreatDoorHxI
import Derived.StillTailTactics
namespace Go.Proofs.YtojlopfjhhiilaaGreatDoor
open Go Go.RowKit
set_option linter.unusedVariables false

set_option maxRecDepth 100000 in
set_option maxHeartbeats 4000000 in
theorem weigh_moving (p : Option Addr) (W : List Int) (n c : Nat) (w : World) (hn : Hid (W.length = n)) (hl : n ≤ 1000000) (hc : n ≤ c) (hc2 : c ≤ 9223372036854775807) (hR : Reads w p W) (hE : Hid (linesE W = 0)) (L : List Int) (HL0 : Hid (∀ m : Nat, m = 64 * 64 → weighTo W movingP 7 m = L)) (HM : Hid (Mid L)) (HL : Hid (L.length = 7)) (hg : Hid (1 ≤ gcdl L)) :
    Calls Tryz.prog 43 #[.slice p n c, .int .i64 7, .func (.func 44) #[] #[]] w fun e w' => ∃ g, (e = .returned (.tuple #[.slice (some ⟨g, 0, none⟩) 7 7, .int .i64 0]) ∧ Row w' w.heap.size g 7 (low L)) ∧ Below w.heap.size w w' := by
  obtain ⟨i0, hi, hz0, hz1, hz2⟩ := info_parts info_int
  have HF := Lib.hid (fit_of hE.out)
  go_enter Tryz.func43, Tryz.ntmps43
  go_wp2_with fail
  refine (checkLines_any p W n c _ hn hl hc hc2 hR).mono ?_
  rintro e w1 ⟨rfl, hb1⟩
  rw [hE.out]
  have hsz1 := hb1.size
  go_wp2_with (at_make; refine wpList_make_full _ rfl _ _ 22 rfl w.heap.size 3 i0 (.int .i64 0) 1 Tryz.underlying22 hi hz0 hz1 .i64 .i64 _ _ 7 rfl rfl rfl rfl ?c1 ?c2 ?c3 ?_)
  case c1 => rw [hz2]; omega
  case c2 => unfold maxLen; omega
  case c3 => exact hb1.size
  intro w2 hown hgr
  have hrow := Row.made hown
  have hb2 : Below w.heap.size w w2 := hb1.grown hgr hb1.size (fun k e => by cases e)
  clear hown hgr hb1
  go_wp2
  go_loopw [19] (fun i wr => ∃ k : Nat, k ≤ 64 ∧ i = .int .i64 k ∧ Hid (Row wr w.heap.size w1.heap.size 7 (weighTo W movingP 7 (64 * k))) ∧ Below w.heap.size w wr) (fun i _ => 64 - (intOf i).toNat)
  case atStart => exact ⟨0, by omega, rfl, hrow, hb2⟩
  case round =>
    obtain ⟨k, hk, rfl, hrw, hb⟩ := hrel
    by_cases hlt : k < 64
    · have hd : decide ((k : Int) < 64) = true := by simp; omega
      go_wp2
      clear hd
      go_loopw [22] (fun i wr => ∃ m : Nat, m ≤ 64 ∧ i = .int .i64 m ∧ Hid (Row wr w.heap.size w1.heap.size 7 (weighTo W movingP 7 (64 * k + m))) ∧ Below w.heap.size w wr) (fun i _ => 64 - (intOf i).toNat)
      case atStart => exact ⟨0, by omega, rfl, hrw, hb⟩
      case round =>
        obtain ⟨m, hm, rfl, hrm, hbm⟩ := hrel
        by_cases hlm : m < 64
        · have hx : Hex (k : Int) := ⟨by omega, by omega⟩
          have hy : Hex (m : Int) := ⟨by omega, by omega⟩
          have hP := moving_any (k : Int) (m : Int) hx hy wr.drew
          have hQ := (weight_any p W n c k m hx hy wr.drew hn hl HF.out (hR.below hbm.drew (Nat.le_refl _))).mono (fun _ _ ⟨h, h'⟩ => And.intro h h'.symm)
          obtain ⟨p0, p1⟩ := movingP_bd hx hy
          obtain ⟨j, hj⟩ := Int.eq_ofNat_of_zero_le p0
          have hj2 : j < 7 := by omega
          have hj3 : (j : Int) < 7 := by omega
          have hc3 := hrm.out.cell hj2
          have hf3 := hrm.out.frozen j
          have b1 := weighTo_bd HF.out movingP 7 (64 * k + m) j
          have b2 := weightV_bd HF.out k m
          have HS := Lib.hid (show weighTo W movingP 7 (64 * k + (m + 1)) = (weighTo W movingP 7 (64 * k + m)).set j (nth (weighTo W movingP 7 (64 * k + m)) j + weightV W k m) by
            rw [show 64 * k + (m + 1) = (64 * k + m) + 1 from rfl, weighTo, show (64 * k + m) / 64 = k by omega, show (64 * k + m) % 64 = m by omega, hj]
            rfl)
          rw [hj] at hP
          have HP := Lib.hid hP
          have HQ := Lib.hid hQ
          generalize hu : nth (weighTo W movingP 7 (64 * k + m)) j = u at hc3 b1 HS
          generalize hv : weightV W k m = v at HQ b2 HS
          have e1 : IntKind.i64.wrap (u + v) = u + v := IntWalk.i64_in _ (by omega)
          clear hP hQ hj p0 p1 hx hy hu hv
          go_wp2
          refine wp_region_still_tail 13 (by kernel_rfl) (by kernel_rfl) ?_
          simp only [List.take_succ_cons, List.take_zero, List.drop_succ_cons, List.drop_zero]
          repeat still_step
          still_call HP.out
          repeat still_step
          still_call HQ.out
          repeat still_step
          try refine wpStill_nil ?_
          clear e1
          go_wp2
          go_roundw
          case rel => exact ⟨m + 1, by omega, by go_num, by rw [HS.out]; exact row_drew (hrm.out.set j (u + v)), (hbm.setCell (p := ⟨w1.heap.size, j, none⟩) hsz1 _).drew⟩
          case measure => simp [intOf]; omega
        · obtain rfl : m = 64 := by omega
          go_wp2
          go_roundw
          case rel => exact ⟨k + 1, by omega, by go_num, hrm, hbm⟩
          case measure => simp [intOf]; omega
    · obtain rfl : k = 64 := by omega
      have h64 : weighTo W movingP 7 (64 * 64) = L := HL0.out _ rfl
      rw [h64] at hrw
      clear h64
      have HR := Lib.hid hrw.out.reads
      go_wp2_with fail
      refine (lowest_n _ L 7 7 _ HL (by omega) HM.out hg.out HR.out).mono ?_
      rintro e w5 ⟨g, rfl, hrow5, hb5⟩
      go_wp2
      go_ret2
      exact ⟨g, ⟨rfl, (row_base hrow5 hb.size)⟩, tr hb hb5⟩

end Go.Proofs.YtojlopfjhhiilaaGreatDoor
