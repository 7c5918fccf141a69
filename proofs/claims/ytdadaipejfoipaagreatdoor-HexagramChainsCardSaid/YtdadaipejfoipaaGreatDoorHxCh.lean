/-
  HexagramChains: the walk of the law.
-/
import Derived.Test.YtdadaipejfoipaaGreatDoorHxRf
import Derived.Test.YtdadaipejfoipaaGreatDoorHxRp2
import Derived.Test.YtdadaipejfoipaaGreatDoorHxRb
import Derived.Test.YtdadaipejfoipaaGreatDoorHxW
namespace Go.Proofs.YtdadaipejfoipaaGreatDoor
open Go Go.RowKit
set_option linter.unusedVariables false

theorem chainL_bad {h : Int} (h0 : chkH [h] = 3) : chainL h = [] := by unfold chainL; rw [if_neg (by omega)]
theorem chainB_bad {h : Int} (h0 : chkH [h] = 3) : chainB h = 0 := by unfold chainB; rw [if_neg (by omega)]
theorem palH_bad {h : Int} (h0 : chkH [h] = 3) : palH h = 0 := by unfold palH; rw [if_neg (by omega)]
theorem palS_bad {h : Int} (h0 : chkH [h] = 3) : palS h = 0 := by unfold palS; rw [if_neg (by omega)]
theorem chain_len {h : Int} (hh : Hex h) : (chainL h).length ≤ 4 := by
  have h0 : chkH [h] = 0 := chkH_of fun k hk => by
    obtain rfl : k = 0 := by simp at hk; omega
    exact hh
  refine hex_all (P := fun h => (chainL h).length ≤ 4) (by decide +kernel) hh

set_option maxRecDepth 100000 in
set_option maxHeartbeats 4000000 in
theorem chains_law (h : Int) (w : World) (hs : Src w) (hf : Fst w) (ht : Trn w) :
    Calls Tryz.prog 4 #[.int .i64 h] w fun e w' => e = .returned (.bool true) ∧ Below w.heap.size w w' := by
  have C := fun (W : World) (hW : Src W) => chain_any h W hW
  have P := fun (W : World) (hW : Src W) (hT : Trn W) => palace_any h W hW hT
  rcases chkH_or [h] with h0 | h0
  · have hx := chkH_zero h0 0 (by simp)
    simp only [nth, List.getD_cons_zero] at hx
    have Hh := Lib.hid (hexB_of hx)
    have hlen := chain_len hx
    have R := fun (W : World) => refChain_any h hx W
    have Q := fun (W : World) => refPalace_any h hx W
    obtain ⟨L, hL⟩ : ∃ L, chainL h = L := ⟨_, rfl⟩
    obtain ⟨b, hb⟩ : ∃ b, chainB h = b := ⟨_, rfl⟩
    obtain ⟨n, hn⟩ : ∃ n, L.length = n := ⟨_, rfl⟩
    obtain ⟨pH, hpH⟩ : ∃ p, palH h = p := ⟨_, rfl⟩
    obtain ⟨pS, hpS⟩ : ∃ p, palS h = p := ⟨_, rfl⟩
    rw [hL, hb, h0, hn] at C
    rw [hL, hb, hn] at R
    rw [hpH, hpS, h0] at P
    rw [hpH, hpS] at Q
    rw [hL, hn] at hlen
    have Hn := Lib.hid hn
    clear hL hb hn hpH hpS h0 hx
    go_enter Tryz.func4, Tryz.ntmps4
    go_wp2_with fail
    refine (C _ hs).mono ?_
    rintro e w1 ⟨⟨q1, c1, rfl, hr1⟩, hb1⟩
    clear C
    go_wp2_with fail
    refine (P _ (hs.below hb1 (Nat.le_refl _)) (ht.below hb1 (Nat.le_refl _))).mono ?_
    rintro e w2 ⟨rfl, hb2⟩
    have hr2 := hr1.below hb2 (Nat.le_refl _)
    have hb3 := tr hb1 hb2
    clear P hr1 hb1 hb2
    go_wp2_with fail
    refine (refHex_any h _).mono ?_
    rintro e w2' ⟨rfl, rfl⟩
    rw [Hh.out]
    go_wp2_with fail
    refine (R _).mono ?_
    rintro e w4 ⟨⟨q4, c4, rfl, hr4⟩, hb4⟩
    have hr5 := hr2.below hb4 (Nat.le_refl _)
    have hb5 := tr hb3 hb4
    clear R hr2 hb3 hb4
    go_wp2_with fail
    refine (Q _).mono ?_
    rintro e w6 ⟨rfl, hb6⟩
    have hr6 := hr5.below hb6 (Nat.le_refl _)
    have hr7 := hr4.below hb6 (Nat.le_refl _)
    have hb7 := tr hb5 hb6
    clear Q hr5 hr4 hb5 hb6
    go_wp2_with fail
    refine (same_any q1 L n c1 q4 L n c4 _ Hn Hn (by omega) hr6 hr7).mono ?_
    rintro e w8 ⟨rfl, r8, hw8⟩
    have hb8 : Below w.heap.size w w8 := hw8 ▸ below_drewN hb7 r8
    clear hw8 hr6 hr7 hb7
    have e8 : decide (L = L) = true := decide_eq_true rfl
    rw [e8]
    go_wp2_with fail
    refine (known_any _ (hs.below hb8 (Nat.le_refl _)) (hf.below hb8 (Nat.le_refl _))).mono ?_
    rintro e w9 ⟨rfl, hb9⟩
    go_wp2
    go_ret
    exact ⟨rfl, tr hb8 hb9⟩
  · have hx : ¬ Hex h := fun hx => by
      have : chkH [h] = 0 := chkH_of fun k hk => by
        obtain rfl : k = 0 := by simp at hk; omega
        exact hx
      omega
    have Hh := Lib.hid (hexB_not hx)
    rw [chainL_bad h0, chainB_bad h0, h0] at C
    rw [palH_bad h0, palS_bad h0, h0] at P
    clear h0 hx
    go_enter Tryz.func4, Tryz.ntmps4
    go_wp2_with fail
    refine (C _ hs).mono ?_
    rintro e w1 ⟨⟨q1, c1, rfl, hr1⟩, hb1⟩
    clear C hr1
    go_wp2_with fail
    refine (P _ (hs.below hb1 (Nat.le_refl _)) (ht.below hb1 (Nat.le_refl _))).mono ?_
    rintro e w2 ⟨rfl, hb2⟩
    have hb3 := tr hb1 hb2
    clear P hb1 hb2
    go_wp2_with fail
    refine (refHex_any h _).mono ?_
    rintro e w2' ⟨rfl, rfl⟩
    rw [Hh.out]
    go_wp2_with fail
    refine (known_any _ (hs.below hb3 (Nat.le_refl _)) (hf.below hb3 (Nat.le_refl _))).mono ?_
    rintro e w9 ⟨rfl, hb9⟩
    go_wp2
    go_ret
    exact ⟨rfl, tr hb3 hb9⟩
end Go.Proofs.YtdadaipejfoipaaGreatDoor
