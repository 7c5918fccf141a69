/-
  The reference of chapter 4: the weights of first hexagrams, by those of the pairs.
-/
import Derived.Test.YtoeflgmdaaefeaaGreatDoorHxWu0
import Derived.Test.YtoeflgmdaaefeaaGreatDoorHxCi
import Derived.StillTailTactics
namespace Go.Proofs.YtoeflgmdaaefeaaGreatDoor
open Go Go.RowKit
set_option linter.unusedVariables false

def figTo (P : List Int) (m : Nat) : List Int := scatter (fun i => nth P i) (fun i => i / 64) 64 m
theorem figTo_length (P : List Int) (m : Nat) : (figTo P m).length = 64 := scatter_length ..
theorem figTo_bd {P : List Int} (h : ∀ k, 0 ≤ nth P k ∧ nth P k ≤ 995686217814016) {m : Nat} (hm : m ≤ 4096) (j : Nat) : 0 ≤ nth (figTo P m) j ∧ nth (figTo P m) j ≤ 4100000000000000000 := by
  have := scatter_bd (F := fun i => nth P i) (pl := fun i => i / 64) (n := 64) (m := m) (b := 995686217814016) (by omega) (fun i _ => h i) (fun i hi => by omega) j
  unfold figTo
  have : (m : Int) * 995686217814016 ≤ 4096 * 995686217814016 := by omega
  omega

set_option maxRecDepth 100000 in
set_option maxHeartbeats 2000000 in
theorem refFigures_any (p : Option Addr) (P : List Int) (n c : Nat) (w : World) (hn : Hid (P.length = n)) (h4 : Hid (n = 4096)) (hP : Hid (∀ k, 0 ≤ nth P k ∧ nth P k ≤ 995686217814016)) (hR : Reads w p P) (L : List Int) (HL : Hid (∀ m : Nat, m = 64 * 64 → figTo P m = L)) :
    Calls Tryz.prog 19 #[.slice p n c] w fun e w' => ∃ g, (e = .returned (.slice (some ⟨g, 0, none⟩) 64 64) ∧ Reads w' (some ⟨g, 0, none⟩) L) ∧ Below w.heap.size w w' := by
  obtain ⟨i0, hi, hz0, hz1, hz2⟩ := info_parts info_int
  go_enter Tryz.func19, Tryz.ntmps19
  go_wp2_with (at_make; refine wpList_make_full _ rfl _ _ 22 rfl w.heap.size 3 i0 (.int .i64 0) 1 Tryz.underlying22 hi hz0 hz1 .i64 .i64 _ _ 64 rfl rfl rfl rfl ?c1 ?c2 ?c3 ?_)
  case c1 => rw [hz2]; omega
  case c2 => unfold maxLen; omega
  case c3 => exact Nat.le_refl _
  intro w2 hown hgr
  have hrow := Row.made hown
  have hb2 : Below w.heap.size w w2 := (Below.refl _ w).grown hgr (Nat.le_refl _) (fun k e => by cases e)
  clear hown hgr
  go_wp2
  go_loopw [4] (fun i wr => ∃ k : Nat, k ≤ 4096 ∧ i = .int .i64 k ∧ Hid (Row wr w.heap.size w.heap.size 64 (figTo P k)) ∧ Below w.heap.size w wr) (fun i _ => 4096 - (intOf i).toNat)
  case atStart => exact ⟨0, by omega, rfl, hrow, hb2⟩
  case round =>
    obtain ⟨k, hk, rfl, hrw, hb⟩ := hrel
    by_cases hlt : k < 4096
    · obtain ⟨q, o, rfl, hcell⟩ := hR.below hb (Nat.le_refl _) k (by have := hn.out; have := h4.out; omega)
      have hkn : (k : Int) < (n : Int) := by have := h4.out; omega
      have hd : decide ((k : Int) < 4096) = true := by simp; omega
      obtain ⟨j, hj⟩ : ∃ j, k / 64 = j := ⟨_, rfl⟩
      have hj2 : j < 64 := by omega
      have hj3 : (j : Int) < 64 := by omega
      have hc3 := hrw.out.cell hj2
      have hf3 := hrw.out.frozen j
      have b1 := figTo_bd hP.out hk j
      have b2 := hP.out k
      have HS := Lib.hid (show figTo P (k + 1) = (figTo P k).set j (nth (figTo P k) j + nth P k) by rw [← hj]; rfl)
      have e0 : IntKind.i64.wrap ((k : Int) / 64) = (j : Int) := by
        rw [show (k : Int) / 64 = (j : Int) by omega]
        exact IntWalk.i64_in _ (by omega)
      generalize hu : nth (figTo P k) j = u at hc3 b1 HS
      generalize hv : nth P k = v at hcell b2 HS
      have e1 : IntKind.i64.wrap (u + v) = u + v := IntWalk.i64_in _ (by omega)
      have hsz := hrw.out.lt
      clear hj hu hv
      go_wp2
      go_still_tail 11, (by kernel_rfl)
      clear e1 e0 hd
      go_wp2
      go_roundw
      case rel => exact ⟨k + 1, by omega, by go_num, by rw [HS.out]; exact hrw.out.set j (u + v), (hb.setCell (p := ⟨w.heap.size, j, none⟩) (Nat.le_refl _) _).drew⟩
      case measure => simp [intOf]; omega
    · obtain rfl : k = 4096 := by omega
      have h64 : figTo P 4096 = L := HL.out _ rfl
      have hd : decide (((4096 : Nat) : Int) < 4096) = false := by simp
      rw [h64] at hrw
      have hr := hrw.out.reads
      clear h64 hrw
      go_wp2
      go_ret
      exact ⟨_, ⟨rfl, hr⟩, hb⟩
end Go.Proofs.YtoeflgmdaaefeaaGreatDoor
