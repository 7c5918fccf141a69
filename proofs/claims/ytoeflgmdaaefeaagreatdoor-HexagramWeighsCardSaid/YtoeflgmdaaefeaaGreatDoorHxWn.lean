/-
  The reference of chapter 4: the weights of all pairs, cast by cast.
-/
import Derived.Test.YtoeflgmdaaefeaaGreatDoorHxWu0
import Derived.Test.YtoeflgmdaaefeaaGreatDoorHxCi
import Derived.Test.YtoeflgmdaaefeaaGreatDoorHxRb
namespace Go.Proofs.YtoeflgmdaaefeaaGreatDoor
open Go Go.RowKit
set_option linter.unusedVariables false

/-- The lines of the cast n. -/
def lineL (n k : Nat) : List Int := fillTo (fun j => ((6 + Wq.dig n j : Nat) : Int)) 6 k
theorem lineL_length (n k : Nat) : (lineL n k).length = 6 := fillTo_length ..
theorem lineL_succ (n k : Nat) : (lineL n k).set k ((6 + Wq.dig n k : Nat) : Int) = lineL n (k + 1) := fillTo_succ (fun j => ((6 + Wq.dig n j : Nat) : Int)) 6 k
theorem lineL_nth (n : Nat) {j : Nat} (hj : j < 6) : nth (lineL n 6) j = ((6 + Wq.dig n j : Nat) : Int) := by
  unfold lineL; rw [fillTo_all, nth_eq (by simpa using hj)]; simp
theorem dig_lt (n j : Nat) : Wq.dig n j < 4 := by unfold Wq.dig; omega
theorem hex_sum : ∀ a b c d e f : Bool, hexTo (six a b c d e f) 6 = ((a.toNat + 2 * b.toNat + 4 * c.toNat + 8 * d.toNat + 16 * e.toNat + 32 * f.toNat : Nat) : Int) := by decide +kernel
theorem first_dig : ∀ d : Fin 4, (firstB ((6 + d.val : Nat) : Int)).toNat = d.val % 2 := by decide +kernel
theorem second_dig : ∀ d : Fin 4, (secondB ((6 + d.val : Nat) : Int)).toNat = 1 - d.val / 2 := by decide +kernel
theorem hexTo_six (g : Nat → Bool) : hexTo g 6 = hexTo (six (g 0) (g 1) (g 2) (g 3) (g 4) (g 5)) 6 := hexTo_congr fun i hi => by
  have : i = 0 ∨ i = 1 ∨ i = 2 ∨ i = 3 ∨ i = 4 ∨ i = 5 := by omega
  rcases this with rfl | rfl | rfl | rfl | rfl | rfl <;> rfl
theorem lineL_any (n : Nat) : anyB (outB 6 9) (lineL n 6) = false := any_good (lineL_length n 6) fun j hj => by
  rw [lineL_nth n hj]
  have := dig_lt n j
  unfold lineOk
  omega
theorem lineL_F (n : Nat) : castF (lineL n 6) = (Wq.fst n : Nat) := by
  unfold castF
  rw [lineL_any, if_neg (by simp), hexTo_six, hex_sum]
  have h : ∀ j, j < 6 → (firstB (nth (lineL n 6) j)).toNat = Wq.dig n j % 2 := fun j hj => by rw [lineL_nth n hj]; exact first_dig ⟨_, dig_lt n j⟩
  rw [h 0 (by omega), h 1 (by omega), h 2 (by omega), h 3 (by omega), h 4 (by omega), h 5 (by omega)]
  rfl
theorem lineL_S (n : Nat) : castS (lineL n 6) = (Wq.snd n : Nat) := by
  unfold castS
  rw [lineL_any, if_neg (by simp), hexTo_six, hex_sum]
  have h : ∀ j, j < 6 → (secondB (nth (lineL n 6) j)).toNat = 1 - Wq.dig n j / 2 := fun j hj => by rw [lineL_nth n hj]; exact second_dig ⟨_, dig_lt n j⟩
  rw [h 0 (by omega), h 1 (by omega), h 2 (by omega), h 3 (by omega), h 4 (by omega), h 5 (by omega)]
  rfl
theorem lineL_E (n : Nat) : castE (lineL n 6) = 0 := by unfold castE; rw [lineL_any, if_neg (by simp)]

set_option maxRecDepth 100000 in
set_option maxHeartbeats 2000000 in
theorem refChanges_any (p : Option Addr) (W : List Int) (n c : Nat) (w : World) (hn : Hid (W.length = n)) (hl : n ≤ 1000000) (hE : Hid (linesE W = 0)) (hR : Reads w p W) (L : List Int) (HL : Hid (∀ m : Nat, m = 64 * 64 → refTo W m m = L)) :
    Calls Tryz.prog 17 #[.slice p n c] w fun e w' => ∃ g, (e = .returned (.slice (some ⟨g, 0, none⟩) 4096 4096) ∧ Reads w' (some ⟨g, 0, none⟩) L) ∧ Below w.heap.size w w' := by
  obtain ⟨i0, hi, hz0, hz1, hz2⟩ := info_parts info_int
  have HF := Lib.hid (fit_of hE.out)
  obtain ⟨N, hN⟩ : ∃ N : Nat, N = 4096 := ⟨_, rfl⟩
  have HN := Lib.hid hN
  have HL2 := Lib.hid (show refTo W N N = L from HL.out N hN)
  clear hN
  go_enter Tryz.func17, Tryz.ntmps17
  go_wp2_with (at_make; refine wpList_make_full _ rfl _ _ 22 rfl w.heap.size 3 i0 (.int .i64 0) 1 Tryz.underlying22 hi hz0 hz1 .i64 .i64 _ _ 4096 rfl rfl rfl rfl ?c1 ?c2 ?c3 ?_)
  case c1 => rw [hz2]; omega
  case c2 => unfold maxLen; omega
  case c3 => exact Nat.le_refl _
  intro w2 hown hgr
  have hrow := Row.made hown
  have hb2 : Below w.heap.size w w2 := (Below.refl _ w).grown hgr (Nat.le_refl _) (fun k e => by cases e)
  have hr0 := Lib.hid (show Row w2 w.heap.size w.heap.size 4096 (refTo W N 0) by rw [show refTo W N 0 = List.replicate N 0 from rfl, HN.out]; exact hrow)
  clear hown hgr hrow
  go_wp2
  go_loopw [4] (fun i wr => ∃ k : Nat, k ≤ 4096 ∧ i = .int .i64 k ∧ Hid (Row wr w.heap.size w.heap.size 4096 (refTo W N k)) ∧ Below w.heap.size w wr) (fun i _ => 4096 - (intOf i).toNat)
  case atStart => exact ⟨0, by omega, rfl, hr0, hb2⟩
  case round =>
    obtain ⟨k, hk, rfl, hrw, hb⟩ := hrel
    by_cases hlt : k < 4096
    · have hd : decide ((k : Int) < 4096) = true := by simp; omega
      have hsz := hrw.out.lt.2
      have hbs := hb.size
      have N0 := Lib.hid (Blk.new wr 45 (arr (List.replicate 6 0)))
      go_wp2_with (first
        | (refine wpList_store_row rfl 45 (.tmp 5) (.tmp 17) rfl wr.heap.size (arr (List.replicate 6 0)) rfl rfl 45 _ N0.out info_six rfl (arr_one _) ?_) | fail)
      have HX := Lib.hid (show Blk ((wr.alloc (.cells (arr (List.replicate 6 0)) 45)).setRow wr.heap.size (arr (List.replicate 6 0))) wr.heap.size 45 (arr (lineL k 0)) from by rw [show lineL k 0 = List.replicate 6 0 from fillTo_zero _ _]; exact N0.out.row _)
      have hb5 : Below wr.heap.size wr ((wr.alloc (.cells (arr (List.replicate 6 0)) 45)).setRow wr.heap.size (arr (List.replicate 6 0))) := below_setRow ((Below.refl _ _).alloc (Nat.le_refl _) _) (Nat.le_refl _) _
      obtain ⟨V, hV⟩ : ∃ V, (wr.alloc (.cells (arr (List.replicate 6 0)) 45)).setRow wr.heap.size (arr (List.replicate 6 0)) = V := ⟨_, rfl⟩
      rw [hV] at HX hb5
      have e0 : (wr.alloc (.cells #[.int .i64 0, .int .i64 0, .int .i64 0, .int .i64 0, .int .i64 0, .int .i64 0] 45)).setRow wr.heap.size (arr [0, 0, 0, 0, 0, 0]) = V := hV
      rw [e0]
      clear hV e0 N0
      obtain ⟨B, hB⟩ : ∃ B, wr.heap.size = B := ⟨_, rfl⟩
      rw [hB] at HX hb5 hsz hbs ⊢
      have hbV := hb.trans (hb5.mono hbs)
      have hrV := Lib.hid (hrw.out.kept hb5 hsz)
      clear hb hrw hb5
      go_loopw [6, 7, 8] (fun u m i wz => ∃ j : Nat, j ≤ 6 ∧ i = .int .i64 j ∧ (∃ U M : Int, u = .int .i64 U ∧ m = .int .i64 M ∧ Hid (prodTo W k j = U) ∧ Hid ((k / 4 ^ j : Nat) = M) ∧ 0 ≤ M ∧ M ≤ 4096) ∧ Hid (Blk wz B 45 (arr (lineL k j))) ∧ Below B V wz) (fun _ _ i _ => 6 - (intOf i).toNat)
      case atStart => exact ⟨0, by omega, rfl, ⟨1, k, rfl, rfl, Lib.hid rfl, Lib.hid (by simp), by omega, by omega⟩, HX, Below.refl _ _⟩
      case round =>
        obtain ⟨j, hj, rfl, ⟨U, M, rfl, rfl, HU, HM, m0, m1⟩, HB, hbz⟩ := hrel
        by_cases hlj : j < 6
        · have Ll := Lib.hid (lineL_length k j)
          obtain ⟨d, hdd⟩ : ∃ d, Wq.dig k j = d := ⟨_, rfl⟩
          have hd4 := dig_lt k j
          have hMd : M % 4 = (d : Int) := by rw [← HM.out, ← hdd]; unfold Wq.dig; omega
          have HM2 := Lib.hid (show ((k / 4 ^ (j + 1) : Nat) : Int) = M / 4 by rw [← HM.out, Nat.pow_succ, ← Nat.div_div_eq_div_mul]; omega)
          have hc := HB.out.cell j
          rw [arr_get (by rw [lineL_length]; exact hlj)] at hc
          have hf := HB.out.frozen j
          obtain ⟨q, o, rfl, hcell⟩ := hR.below (hbV.trans (hbz.mono hbs)) (Nat.le_refl _) (6 + d) (by have := hn.out; have := HF.out.len; rw [hdd] at hd4; omega)
          obtain ⟨z, hz⟩ : ∃ z, nth (lineL k j) j = z := ⟨_, rfl⟩
          rw [hz] at hc
          have HB2 := Lib.hid (show Blk (wr.setCell ⟨B, j, none⟩ (.int .i64 ((6 + d : Nat) : Int))) B 45 (arr (lineL k (j + 1))) from by
            have := HB.out.set_ j (.int .i64 ((6 + d : Nat) : Int))
            rw [arr_set, ← hdd, lineL_succ, hdd] at this
            exact this)
          have hP := prodTo_bd HF.out (show k < 4096 from hlt) (show j + 1 ≤ 6 by omega)
          have hP2 : prodTo W k (j + 1) = U * nth W (6 + d) := by unfold prodTo; rw [HU.out, hdd]
          rw [hP2] at hP
          have HP2 := Lib.hid hP2
          obtain ⟨v, hv⟩ : ∃ v, nth W (6 + d) = v := ⟨_, rfl⟩
          rw [hv] at hcell hP HP2
          rw [hdd] at hd4
          have hqs : q < w.heap.size := by
            obtain ⟨q', o', e1, e2⟩ := hR (6 + d) (by have := hn.out; have := HF.out.len; omega)
            cases e1
            simpa using World.block_lt_of_cell? w _ e2
          have hcell2 : (wr.setCell ⟨B, j, none⟩ (.int .i64 ((6 + d : Nat) : Int))).cell? ⟨q, o + (6 + d), none⟩ = some (.int .i64 v) := ((World.cell?_of_block (Below.heap_setCell wr ⟨B, j, none⟩ (.int .i64 ((6 + d : Nat) : Int)) q (by simp; omega)))).trans hcell
          have hc2 : (wr.setCell ⟨B, j, none⟩ (.int .i64 ((6 + d : Nat) : Int))).cell? ⟨B, j, none⟩ = some (.int .i64 ((6 + d : Nat) : Int)) := World.cell?_setCell_same' _ _ _ (by rw [hc]; rfl)
          have e6 : IntKind.i64.wrap (6 + (d : Int)) = ((6 + d : Nat) : Int) := by rw [Int.natCast_add]; exact IntWalk.i64_in _ (by omega)
          have e7 : IntKind.i64.wrap (U * v) = U * v := IntWalk.i64_in _ (by omega)
          have e8 : IntKind.i64.wrap (M / 4) = M / 4 := IntWalk.i64_in _ (by omega)
          generalize hD : 6 + d = D at *
          have hD3 : (D : Int) < (n : Int) := by have := hn.out; have := HF.out.len; omega
          have hU0 := HU.out
          clear hP2 hv hz hdd hU0 hd
          go_wp2
          go_roundw
          case rel => exact ⟨j + 1, by omega, by go_num, ⟨_, _, rfl, rfl, HP2, HM2, by omega, by omega⟩, HB2, hbz.setCell (p := ⟨B, j, none⟩) (Nat.le_refl _) _⟩
          case measure => simp [intOf]; omega
        · obtain rfl : j = 6 := by omega
          have HC := Lib.hid (show Calls Tryz.prog 41 #[.agg (arr (lineL k 6))] wr fun e w' => e = .returned (.tuple #[.int .i64 (Wq.fst k : Nat), .int .i64 (Wq.snd k : Nat), .int .i64 0]) ∧ Below wr.heap.size wr w' from by
            have := refCast_any (lineL k 6) (Lib.hid (lineL_length k 6)) wr
            rwa [lineL_F, lineL_S, lineL_E] at this)
          have hr5 := Lib.hid (hrV.out.kept hbz hsz)
          have hb5 := hbV.trans (hbz.mono hbs)
          have hpi := Wq.inv_pair hlt
          have HS := Lib.hid (show refTo W N (k + 1) = (refTo W N k).set (64 * Wq.fst k + Wq.snd k) (nth (refTo W N k) (64 * Wq.fst k + Wq.snd k) + U) by rw [refTo_succ, HU.out]; rfl)
          obtain ⟨a, ha⟩ : ∃ a, Wq.fst k = a := ⟨_, rfl⟩
          obtain ⟨b, hb⟩ : ∃ b, Wq.snd k = b := ⟨_, rfl⟩
          rw [ha, hb] at HC HS hpi
          obtain ⟨_, a64, b64⟩ := hpi
          obtain ⟨I, hI⟩ : ∃ I, 64 * a + b = I := ⟨_, rfl⟩
          rw [hI] at HS
          have hI2 : I < 4096 := by omega
          have hI3 : (I : Int) < 4096 := by omega
          have b1 := refTo_bd HF.out HN.out (show k ≤ N by rw [HN.out]; omega) I
          have b2 := prodTo_bd HF.out hlt (Nat.le_refl 6)
          rw [HU.out] at b2
          generalize hu : nth (refTo W N k) I = u at b1 HS
          have e1 : IntKind.i64.wrap (u + U) = u + U := IntWalk.i64_in _ (by omega)
          have e2 : IntKind.i64.wrap (64 * (a : Int)) = 64 * (a : Int) := IntWalk.i64_in _ (by omega)
          have e3 : IntKind.i64.wrap (64 * (a : Int) + (b : Int)) = (I : Int) := by rw [← hI, Int.natCast_add, Int.natCast_mul]; exact IntWalk.i64_in _ (by omega)
          have HI := Lib.hid (show (Tryz.prog.info? 45).map (·.size) = some (arr (lineL k 6)).size by rw [arr_size, lineL_length]; exact info_six)
          have Hu := Lib.hid hu
          clear ha hb hI hu hd HX
          go_wp2_with (first | (refine wpList_load_row rfl 45 (.tmp 5) rfl B rfl 45 (arr (lineL k 6)) (0, 0) _ HB.out Tryz.underlying45 rfl HI.out ?_) | fail)
          refine HC.out.mono ?_
          rintro e w6 ⟨rfl, hb6⟩
          have hr7 := Lib.hid (hr5.out.kept hb6 hr5.out.lt.2)
          have hb7 := tr hb5 hb6
          have hc7 := hr7.out.cell hI2
          rw [Hu.out] at hc7
          have hf7 := hr7.out.frozen I
          clear HC hb6 hb5 hr5
          go_wp2
          go_roundw
          case rel => exact ⟨k + 1, by omega, by go_num, by rw [HS.out]; exact hr7.out.set I (u + U), hb7.setCell (p := ⟨w.heap.size, I, none⟩) (Nat.le_refl _) _⟩
          case measure => simp [intOf]; omega
    · obtain rfl : k = 4096 := by omega
      have h64 : refTo W N 4096 = L := by have := HL2.out; rwa [HN.out] at this ⊢
      have hd : decide (((4096 : Nat) : Int) < 4096) = false := by simp
      rw [h64] at hrw
      have hr := hrw.out.reads
      clear h64 hrw
      go_wp2
      go_ret
      exact ⟨_, ⟨rfl, hr⟩, hb⟩
end Go.Proofs.YtoeflgmdaaefeaaGreatDoor
