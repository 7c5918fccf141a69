/-
  The reference of chapter 4: the weights of how many lines move, by those of the pairs.
-/
import Derived.Test.YtoeflgmdaaefeaaGreatDoorHxWu0
import Derived.Test.YtoeflgmdaaefeaaGreatDoorHxCi
import Derived.Test.YtoeflgmdaaefeaaGreatDoorHxRb
import Derived.StillTailTactics
namespace Go.Proofs.YtoeflgmdaaefeaaGreatDoor
open Go Go.RowKit
set_option linter.unusedVariables false

def movTo (P : List Int) (m : Nat) : List Int := scatter (fun i => nth P i) (fun i => (difTo (i / 64 : Nat) (i % 64 : Nat) 6).toNat) 7 m
theorem movTo_length (P : List Int) (m : Nat) : (movTo P m).length = 7 := scatter_length ..
theorem movTo_bd {P : List Int} (h : ∀ k, 0 ≤ nth P k ∧ nth P k ≤ 995686217814016) {m : Nat} (hm : m ≤ 4096) (j : Nat) : 0 ≤ nth (movTo P m) j ∧ nth (movTo P m) j ≤ 4100000000000000000 := by
  have := scatter_bd (F := fun i => nth P i) (pl := fun i => (difTo (i / 64 : Nat) (i % 64 : Nat) 6).toNat) (n := 7) (m := m) (b := 995686217814016) (by omega) (fun i _ => h i) (fun i hi => by have := difTo_bd (i / 64 : Nat) (i % 64 : Nat) 6; omega) j
  unfold movTo
  have : (m : Int) * 995686217814016 ≤ 4096 * 995686217814016 := by omega
  omega

set_option maxRecDepth 100000 in
set_option maxHeartbeats 2000000 in
theorem refMoving_any (p : Option Addr) (P : List Int) (n c : Nat) (w : World) (hn : Hid (P.length = n)) (h4 : Hid (n = 4096)) (hP : Hid (∀ k, 0 ≤ nth P k ∧ nth P k ≤ 995686217814016)) (hR : Reads w p P) (L : List Int) (HL : Hid (∀ m : Nat, m = 64 * 64 → movTo P m = L)) :
    Calls Tryz.prog 20 #[.slice p n c] w fun e w' => ∃ g, (e = .returned (.slice (some ⟨g, 0, none⟩) 7 7) ∧ Reads w' (some ⟨g, 0, none⟩) L) ∧ Below w.heap.size w w' := by
  obtain ⟨i0, hi, hz0, hz1, hz2⟩ := info_parts info_int
  go_enter Tryz.func20, Tryz.ntmps20
  go_wp2_with (at_make; refine wpList_make_full _ rfl _ _ 22 rfl w.heap.size 3 i0 (.int .i64 0) 1 Tryz.underlying22 hi hz0 hz1 .i64 .i64 _ _ 7 rfl rfl rfl rfl ?c1 ?c2 ?c3 ?_)
  case c1 => rw [hz2]; omega
  case c2 => unfold maxLen; omega
  case c3 => exact Nat.le_refl _
  intro w2 hown hgr
  have hrow := Row.made hown
  have hb2 : Below w.heap.size w w2 := (Below.refl _ w).grown hgr (Nat.le_refl _) (fun k e => by cases e)
  clear hown hgr
  go_wp2
  go_loopw [4] (fun i wr => ∃ k : Nat, k ≤ 4096 ∧ i = .int .i64 k ∧ Hid (Row wr w.heap.size w.heap.size 7 (movTo P k)) ∧ Below w.heap.size w wr) (fun i _ => 4096 - (intOf i).toNat)
  case atStart => exact ⟨0, by omega, rfl, hrow, hb2⟩
  case round =>
    obtain ⟨k, hk, rfl, hrw, hb⟩ := hrel
    by_cases hlt : k < 4096
    · have hd : decide ((k : Int) < 4096) = true := by simp; omega
      have K1 := Lib.hid (hex_div hlt)
      have K2 := Lib.hid (hex_mod k)
      have e0 : IntKind.i64.wrap ((k : Int) / 64) = ((k / 64 : Nat) : Int) := by
        rw [show (k : Int) / 64 = ((k / 64 : Nat) : Int) by omega]
        exact IntWalk.i64_in _ (by omega)
      have e1 : (k : Int) % 64 = ((k % 64 : Nat) : Int) := by omega
      have HS := Lib.hid (show movTo P (k + 1) = (movTo P k).set (difTo (k / 64 : Nat) (k % 64 : Nat) 6).toNat (nth (movTo P k) (difTo (k / 64 : Nat) (k % 64 : Nat) 6).toNat + nth P k) from rfl)
      obtain ⟨x, hx⟩ : ∃ x : Int, ((k / 64 : Nat) : Int) = x := ⟨_, rfl⟩
      obtain ⟨y, hy⟩ : ∃ y : Int, ((k % 64 : Nat) : Int) = y := ⟨_, rfl⟩
      rw [hx] at K1 e0 HS
      rw [hy] at K2 e1 HS
      clear hx hy
      have HSx := Lib.hid (show (Tryz.prog.info? 45).map (·.size) = some (arr (sixL x)).size by rw [arr_size, sixL_length]; exact info_six)
      have HSy := Lib.hid (show (Tryz.prog.info? 45).map (·.size) = some (arr (sixL y)).size by rw [arr_size, sixL_length]; exact info_six)
      have HTx := Lib.hid (show (arr (List.replicate 6 0)).size = (arr (sixL x)).size by rw [arr_size, arr_size, sixL_length]; rfl)
      have HTy := Lib.hid (show (arr (List.replicate 6 0)).size = (arr (sixL y)).size by rw [arr_size, arr_size, sixL_length]; rfl)
      go_wp2_with fail
      refine (refSix_any x K1.out _).mono ?_
      rintro e w3 ⟨rfl, hb3⟩
      have hb4 := tr hb hb3
      have hr4 := Lib.hid (hrw.out.kept hb3 hrw.out.lt.2)
      clear hb3
      go_wp2_with fail
      refine (refSix_any y K2.out _).mono ?_
      rintro e w5 ⟨rfl, hb5⟩
      have hb6 := tr hb4 hb5
      have hr6 := Lib.hid (hr4.out.kept hb5 hr4.out.lt.2)
      clear hb5 hb4 hr4 e0 e1
      have hsz := hr6.out.lt.2
      have N0 := Lib.hid (show Blk ((w5.alloc (.cells (arr (List.replicate 6 0)) 45)).alloc (.cells (arr (List.replicate 6 0)) 45)) w5.heap.size 45 (arr (List.replicate 6 0)) from (Blk.new w5 _ _).alloc _)
      have M1 := Lib.hid (show Blk (((w5.alloc (.cells (arr (List.replicate 6 0)) 45)).alloc (.cells (arr (List.replicate 6 0)) 45)).setRow w5.heap.size (arr (sixL x))) (w5.heap.size + 1) 45 (arr (List.replicate 6 0)) from (Blk.newN _ _ (by simp)).rowFar (by omega) _)
      go_wp2_with (first
        | (refine wpList_store_row rfl 45 (.tmp 5) (.tmp 16) rfl w5.heap.size (arr (sixL x)) rfl rfl 45 _ N0.out HSx.out HTx.out (arr_one _) ?_)
        | (refine wpList_store_row rfl 45 (.tmp 6) (.tmp 19) rfl (w5.heap.size + 1) (arr (sixL y)) rfl rfl 45 _ M1.out HSy.out HTy.out (arr_one _) ?_) | fail)
      have HA := Lib.hid (show Blk ((((w5.alloc (.cells (arr (List.replicate 6 0)) 45)).alloc (.cells (arr (List.replicate 6 0)) 45)).setRow w5.heap.size (arr (sixL x))).setRow (w5.heap.size + 1) (arr (sixL y))) w5.heap.size 45 (arr (sixL x)) from (N0.out.row _).rowFar (by omega) _)
      have HC := Lib.hid (show Blk ((((w5.alloc (.cells (arr (List.replicate 6 0)) 45)).alloc (.cells (arr (List.replicate 6 0)) 45)).setRow w5.heap.size (arr (sixL x))).setRow (w5.heap.size + 1) (arr (sixL y))) (w5.heap.size + 1) 45 (arr (sixL y)) from M1.out.row _)
      have hb7 : Below w5.heap.size w5 ((((w5.alloc (.cells (arr (List.replicate 6 0)) 45)).alloc (.cells (arr (List.replicate 6 0)) 45)).setRow w5.heap.size (arr (sixL x))).setRow (w5.heap.size + 1) (arr (sixL y))) := below_setRow (below_setRow (((Below.refl _ _).alloc (Nat.le_refl _) _).alloc (by simp) _) (by omega) _) (by omega) _
      have hr8 := Lib.hid (hr6.out.kept hb7 hsz)
      have hb8 := tr hb6 hb7
      clear N0 M1 hb7 hb6 hr6 hsz
      obtain ⟨W, hW⟩ : ∃ W, ((((w5.alloc (.cells (arr (List.replicate 6 0)) 45)).alloc (.cells (arr (List.replicate 6 0)) 45)).setRow w5.heap.size (arr (sixL x))).setRow (w5.heap.size + 1) (arr (sixL y))) = W := ⟨_, rfl⟩
      rw [hW] at HA HC hb8 hr8
      have e2 : ((((w5.alloc (.cells #[.int .i64 0, .int .i64 0, .int .i64 0, .int .i64 0, .int .i64 0, .int .i64 0] 45)).alloc (.cells #[.int .i64 0, .int .i64 0, .int .i64 0, .int .i64 0, .int .i64 0, .int .i64 0] 45)).setRow w5.heap.size (arr (sixL x))).setRow (w5.heap.size + 1) (arr (sixL y))) = W := hW
      rw [e2]
      clear hW e2 HSx HSy HTx HTy
      go_loopw [7, 8] (fun d i wz => ∃ m : Nat, m ≤ 6 ∧ i = .int .i64 m ∧ (∃ D, d = .int .i64 D ∧ Hid (difTo x y m = D) ∧ 0 ≤ D ∧ D ≤ 6) ∧ Hid (∃ r, wz = W.drewN r)) (fun _ i _ => 6 - (intOf i).toNat)
      case atStart => exact ⟨0, by omega, rfl, ⟨0, rfl, Lib.hid rfl, by omega, by omega⟩, Lib.hid ⟨0, rfl⟩⟩
      case round =>
        obtain ⟨m, hm, rfl, ⟨D, rfl, HD, d0, d1⟩, HW⟩ := hrel
        obtain ⟨r, hw⟩ := HW.out
        subst hw
        by_cases hlm : m < 6
        · have ha : W.cell? ⟨w5.heap.size, m, none⟩ = some (.int .i64 (nth (sixL x) m)) := by
            have := HA.out.cell m
            rw [arr_get (by rw [sixL_length]; exact hlm)] at this
            exact this
          have hc : W.cell? ⟨w5.heap.size + 1, m, none⟩ = some (.int .i64 (nth (sixL y) m)) := by
            have := HC.out.cell m
            rw [arr_get (by rw [sixL_length]; exact hlm)] at this
            exact this
          have hD2 : difTo x y (m + 1) = D + if nth (sixL x) m = nth (sixL y) m then 0 else 1 := by unfold difTo; rw [HD.out]
          have hD3 := difTo_bd x y (m + 1)
          obtain ⟨a, hae⟩ : ∃ a, nth (sixL x) m = a := ⟨_, rfl⟩
          obtain ⟨b, hbe⟩ : ∃ b, nth (sixL y) m = b := ⟨_, rfl⟩
          rw [hae] at ha hD2
          rw [hbe] at hc hD2
          clear hae hbe
          by_cases hab : a = b
          · rw [if_pos hab] at hD2
            subst hab
            have HD2 := Lib.hid hD2
            clear hD2 hD3
            go_wp2
            go_quiet (fail)
            go_wp2
            go_roundw
            case rel => exact ⟨m + 1, by omega, by go_num, ⟨D, rfl, Lib.hid (by rw [HD2.out]; omega), d0, d1⟩, Lib.hid ⟨_, rfl⟩⟩
            case measure => simp [intOf]; omega
          · rw [if_neg hab] at hD2
            have e3 : (a != b) = true := by simp [hab]
            rw [hD2] at hD3
            have HD2 := Lib.hid hD2
            clear hD2 hab
            go_wp2
            go_quiet (fail)
            go_wp2
            go_roundw
            case rel => exact ⟨m + 1, by omega, by go_num, ⟨D + 1, rfl, HD2, by omega, by omega⟩, Lib.hid ⟨_, rfl⟩⟩
            case measure => simp [intOf]; omega
        · obtain rfl : m = 6 := by omega
          have hbW := below_drewN hb8 r
          have hrW := Lib.hid (show Row (W.drewN r) w.heap.size w.heap.size 7 (movTo P k) from hr8.out)
          obtain ⟨V, hV⟩ : ∃ V, W.drewN r = V := ⟨_, rfl⟩
          rw [hV] at hbW hrW ⊢
          clear hV
          obtain ⟨q, o, rfl, hcell⟩ := hR.below hbW (Nat.le_refl _) k (by have := hn.out; have := h4.out; omega)
          have hkn : (k : Int) < (n : Int) := by have := h4.out; omega
          obtain ⟨j, hj⟩ := Int.eq_ofNat_of_zero_le d0
          subst hj
          have hj2 : j < 7 := by omega
          have hj3 : (j : Int) < 7 := by omega
          have hc3 := hrW.out.cell hj2
          have hf3 := hrW.out.frozen j
          have b1 := movTo_bd hP.out hk j
          have b2 := hP.out k
          have HS2 := Lib.hid (show movTo P (k + 1) = (movTo P k).set j (nth (movTo P k) j + nth P k) by have := HS.out; rw [HD.out] at this; exact this)
          generalize hu : nth (movTo P k) j = u at hc3 b1 HS2
          generalize hv : nth P k = v at hcell b2 HS2
          have e1 : IntKind.i64.wrap (u + v) = u + v := IntWalk.i64_in _ (by omega)
          clear hu hv HS hd
          go_wp2
          go_still_tail 10, (by kernel_rfl)
          clear e1
          go_wp2
          go_roundw
          case rel => exact ⟨k + 1, by omega, by go_num, by rw [HS2.out]; exact hrW.out.set j (u + v), (hbW.setCell (p := ⟨w.heap.size, j, none⟩) (Nat.le_refl _) _).drew⟩
          case measure => simp [intOf]; omega
    · obtain rfl : k = 4096 := by omega
      have h64 : movTo P 4096 = L := HL.out _ rfl
      have hd : decide (((4096 : Nat) : Int) < 4096) = false := by simp
      rw [h64] at hrw
      have hr := hrw.out.reads
      clear h64 hrw
      go_wp2
      go_ret
      exact ⟨_, ⟨rfl, hr⟩, hb⟩
end Go.Proofs.YtoeflgmdaaefeaaGreatDoor
