/-
  HexagramApplies: the walk of the law.
-/
import Derived.Test.YtdadaipejfoipaaGreatDoorHxCb
import Derived.Test.YtdadaipejfoipaaGreatDoorHxRb
import Derived.Test.YtdadaipejfoipaaGreatDoorHxW
namespace Go.Proofs.YtdadaipejfoipaaGreatDoor
open Go Go.RowKit
set_option linter.unusedVariables false

theorem bad_hex {h : Int} (h0 : chkH [h] = 3) : ¬ Hex h := fun hx => by
  have : chkH [h] = 0 := chkH_of fun k hk => by
    obtain rfl : k = 0 := by simp at hk; omega
    exact hx
  omega

set_option maxRecDepth 100000 in
set_option maxHeartbeats 4000000 in
theorem applies_law (h : Int) (set : Nat) (hs64 : set < 2 ^ 64) (p : Option Addr) (xs : List Int) (c : Nat) (w : World) (hC : Came w p xs c) (hs : Src w) (hf : Fst w) :
    Calls Tryz.prog 3 #[.int .i64 h, .int .u64 set, .slice p xs.length c] w fun e w' => e = .returned (.bool true) ∧ Below w.heap.size w w' := by
  by_cases h25 : 25 < xs.length
  · have x0 : (25 : Int) < (xs.length : Int) := by omega
    go_enter Tryz.func3, Tryz.ntmps3
    go_wp2_with fail
    refine (known_any _ hs hf).mono ?_
    rintro e w1 ⟨rfl, hb⟩
    go_wp2
    go_ret
    exact ⟨rfl, hb⟩
  · have hm : xs.length ≤ 25 := by omega
    have O := fun (W : World) (hW : Came W p xs c) => opsOf_any p xs c W hW (by omega)
    have A := fun (W : World) (q : Option Addr) (c' : Nat) (h1 : Reads W q xs) (h2 : Src W) => applyF_any h q xs c' (by omega) W h1 h2
    have I := fun (W : World) (q : Option Addr) (c' : Nat) (h1 : Reads W q xs) (h2 : Src W) => image_any set hs64 q xs c' (by omega) W h1 h2
    have R := fun (W : World) (h1 : Reads W p xs) => refOps_any p xs xs.length c (Lib.hid rfl) (by omega) W h1
    obtain ⟨n, hn⟩ : ∃ n, xs.length = n := ⟨_, rfl⟩
    by_cases ho : opsE xs = 0
    · obtain ⟨l20, hopn⟩ := opsE_zero ho
      have M := fun (W : World) (h1 : Reads W p xs) => refImage_any set hs64 p xs n c (Lib.hid hn) (Lib.hid fun k hk => hopn k (by omega)) (by omega) W h1
      obtain ⟨V, hV⟩ : ∃ V, imageR set xs = V := ⟨_, rfl⟩
      have hV2 : imgV set xs = V := by rw [← hV]; unfold imageR; rw [if_pos ho]
      rw [hV, ho] at I
      rw [hV2] at M
      rw [ho] at R
      rcases chkH_or [h] with h0 | h0
      · have hx := chkH_zero h0 0 (by simp)
        simp only [nth, List.getD_cons_zero] at hx
        have Hh := Lib.hid (hexB_of hx)
        have P := fun (W : World) (h1 : Reads W p xs) => refApply_any h hx p xs n c (Lib.hid hn) (Lib.hid fun k hk => hopn k (by omega)) (by omega) W h1
        have e1 : applyE h xs = 0 := by unfold applyE; rw [if_pos h0, ho]
        have e2 : applyR h xs = applyV h xs := by unfold applyR; rw [if_pos e1]
        rw [e1, e2] at A
        obtain ⟨y, hy⟩ : ∃ y, applyV h xs = y := ⟨_, rfl⟩
        rw [hy] at A P
        rw [hn] at O A I R hm ⊢
        clear hs64 hV hV2 hx h0 ho hopn e1 e2 hy h25 l20
        go_enter Tryz.func3, Tryz.ntmps3
        go_wp2_with fail
        refine (O _ hC).mono ?_
        rintro e w1 ⟨⟨q1, c1, rfl, hr1⟩, hb1⟩
        go_wp2_with fail
        refine (A _ q1 c1 hr1 (hs.below hb1 (Nat.le_refl _))).mono ?_
        rintro e w2 ⟨rfl, hb2⟩
        have hb3 := tr hb1 hb2
        clear hb1 hb2 hr1 A
        go_wp2_with fail
        refine (O _ (hC.below hb3 (Nat.le_refl _))).mono ?_
        rintro e w4 ⟨⟨q4, c4, rfl, hr4⟩, hb4⟩
        have hb5 := tr hb3 hb4
        clear hb3 hb4 O
        go_wp2_with fail
        refine (I _ q4 c4 hr4 (hs.below hb5 (Nat.le_refl _))).mono ?_
        rintro e w6 ⟨rfl, hb6⟩
        have hb7 := tr hb5 hb6
        clear hb5 hb6 hr4 I
        go_wp2_with fail
        refine (R _ (hC.below hb7 (Nat.le_refl _)).2.1).mono ?_
        rintro e w8 ⟨rfl, rfl⟩
        clear R
        go_wp2_with fail
        refine (M _ (hC.below hb7 (Nat.le_refl _)).2.1).mono ?_
        rintro e w9 ⟨rfl, hb9⟩
        have hb10 := tr hb7 hb9
        clear M hb7 hb9
        go_wp2_with fail
        refine (refHex_any h _).mono ?_
        rintro e w11 ⟨rfl, rfl⟩
        rw [Hh.out]
        go_wp2_with fail
        refine (P _ (hC.below hb10 (Nat.le_refl _)).2.1).mono ?_
        rintro e w12 ⟨rfl, hb12⟩
        have hb13 := tr hb10 hb12
        clear P hb10 hb12
        go_wp2_with fail
        refine (known_any _ (hs.below hb13 (Nat.le_refl _)) (hf.below hb13 (Nat.le_refl _))).mono ?_
        rintro e w14 ⟨rfl, hb14⟩
        go_wp2
        go_ret
        exact ⟨rfl, tr hb13 hb14⟩
      · have Hh := Lib.hid (hexB_not (bad_hex h0))
        have e1 : applyE h xs = 3 := by unfold applyE; rw [if_neg (by omega), h0]
        have e2 : applyR h xs = 0 := by unfold applyR; rw [if_neg (by omega)]
        rw [e1, e2] at A
        rw [hn] at O A I R hm ⊢
        clear hs64 hV hV2 h0 ho hopn e1 e2 h25 l20
        go_enter Tryz.func3, Tryz.ntmps3
        go_wp2_with fail
        refine (O _ hC).mono ?_
        rintro e w1 ⟨⟨q1, c1, rfl, hr1⟩, hb1⟩
        go_wp2_with fail
        refine (A _ q1 c1 hr1 (hs.below hb1 (Nat.le_refl _))).mono ?_
        rintro e w2 ⟨rfl, hb2⟩
        have hb3 := tr hb1 hb2
        clear hb1 hb2 hr1 A
        go_wp2_with fail
        refine (O _ (hC.below hb3 (Nat.le_refl _))).mono ?_
        rintro e w4 ⟨⟨q4, c4, rfl, hr4⟩, hb4⟩
        have hb5 := tr hb3 hb4
        clear hb3 hb4 O
        go_wp2_with fail
        refine (I _ q4 c4 hr4 (hs.below hb5 (Nat.le_refl _))).mono ?_
        rintro e w6 ⟨rfl, hb6⟩
        have hb7 := tr hb5 hb6
        clear hb5 hb6 hr4 I
        go_wp2_with fail
        refine (R _ (hC.below hb7 (Nat.le_refl _)).2.1).mono ?_
        rintro e w8 ⟨rfl, rfl⟩
        clear R
        go_wp2_with fail
        refine (M _ (hC.below hb7 (Nat.le_refl _)).2.1).mono ?_
        rintro e w9 ⟨rfl, hb9⟩
        have hb10 := tr hb7 hb9
        clear M hb7 hb9
        go_wp2_with fail
        refine (refHex_any h _).mono ?_
        rintro e w11 ⟨rfl, rfl⟩
        rw [Hh.out]
        go_wp2_with fail
        refine (known_any _ (hs.below hb10 (Nat.le_refl _)) (hf.below hb10 (Nat.le_refl _))).mono ?_
        rintro e w14 ⟨rfl, hb14⟩
        go_wp2
        go_ret
        exact ⟨rfl, tr hb10 hb14⟩
    · have hV2 : imageR set xs = 0 := by unfold imageR; rw [if_neg ho]
      obtain ⟨z, hz⟩ : ∃ z, opsE xs = z := ⟨_, rfl⟩
      rw [hV2, hz] at I
      rw [hz] at R ho
      have z2 : z = 5 ∨ z = 2 := by
        rw [← hz] at ho ⊢
        unfold opsE at ho ⊢
        split
        · exact .inl rfl
        · rename_i h1
          rw [if_neg h1] at ho
          split
          · exact .inr rfl
          · rename_i h2
            rw [if_neg h2] at ho
            exact absurd rfl ho
      rcases chkH_or [h] with h0 | h0
      · have hx := chkH_zero h0 0 (by simp)
        simp only [nth, List.getD_cons_zero] at hx
        have Hh := Lib.hid (hexB_of hx)
        have e1 : applyE h xs = z := by unfold applyE; rw [if_pos h0, hz]
        have e2 : applyR h xs = 0 := by unfold applyR; rw [if_neg (by omega)]
        rw [e1, e2] at A
        rw [hn] at O A I R hm ⊢
        clear hs64 hV2 hx h0 hz e1 e2 h25 ho
        rcases z2 with rfl | rfl
        all_goals
          go_enter Tryz.func3, Tryz.ntmps3
          go_wp2_with fail
          refine (O _ hC).mono ?_
          rintro e w1 ⟨⟨q1, c1, rfl, hr1⟩, hb1⟩
          go_wp2_with fail
          refine (A _ q1 c1 hr1 (hs.below hb1 (Nat.le_refl _))).mono ?_
          rintro e w2 ⟨rfl, hb2⟩
          have hb3 := tr hb1 hb2
          clear hb1 hb2 hr1 A
          go_wp2_with fail
          refine (O _ (hC.below hb3 (Nat.le_refl _))).mono ?_
          rintro e w4 ⟨⟨q4, c4, rfl, hr4⟩, hb4⟩
          have hb5 := tr hb3 hb4
          clear hb3 hb4 O
          go_wp2_with fail
          refine (I _ q4 c4 hr4 (hs.below hb5 (Nat.le_refl _))).mono ?_
          rintro e w6 ⟨rfl, hb6⟩
          have hb7 := tr hb5 hb6
          clear hb5 hb6 hr4 I
          go_wp2_with fail
          refine (R _ (hC.below hb7 (Nat.le_refl _)).2.1).mono ?_
          rintro e w8 ⟨rfl, rfl⟩
          clear R
          go_wp2_with fail
          refine (refHex_any h _).mono ?_
          rintro e w11 ⟨rfl, rfl⟩
          rw [Hh.out]
          go_wp2_with fail
          refine (known_any _ (hs.below hb7 (Nat.le_refl _)) (hf.below hb7 (Nat.le_refl _))).mono ?_
          rintro e w14 ⟨rfl, hb14⟩
          go_wp2
          go_ret
          exact ⟨rfl, tr hb7 hb14⟩
      · have Hh := Lib.hid (hexB_not (bad_hex h0))
        have e1 : applyE h xs = 3 := by unfold applyE; rw [if_neg (by omega), h0]
        have e2 : applyR h xs = 0 := by unfold applyR; rw [if_neg (by omega)]
        rw [e1, e2] at A
        rw [hn] at O A I R hm ⊢
        clear hs64 hV2 h0 hz e1 e2 h25 ho
        rcases z2 with rfl | rfl
        all_goals
          go_enter Tryz.func3, Tryz.ntmps3
          go_wp2_with fail
          refine (O _ hC).mono ?_
          rintro e w1 ⟨⟨q1, c1, rfl, hr1⟩, hb1⟩
          go_wp2_with fail
          refine (A _ q1 c1 hr1 (hs.below hb1 (Nat.le_refl _))).mono ?_
          rintro e w2 ⟨rfl, hb2⟩
          have hb3 := tr hb1 hb2
          clear hb1 hb2 hr1 A
          go_wp2_with fail
          refine (O _ (hC.below hb3 (Nat.le_refl _))).mono ?_
          rintro e w4 ⟨⟨q4, c4, rfl, hr4⟩, hb4⟩
          have hb5 := tr hb3 hb4
          clear hb3 hb4 O
          go_wp2_with fail
          refine (I _ q4 c4 hr4 (hs.below hb5 (Nat.le_refl _))).mono ?_
          rintro e w6 ⟨rfl, hb6⟩
          have hb7 := tr hb5 hb6
          clear hb5 hb6 hr4 I
          go_wp2_with fail
          refine (R _ (hC.below hb7 (Nat.le_refl _)).2.1).mono ?_
          rintro e w8 ⟨rfl, rfl⟩
          clear R
          go_wp2_with fail
          refine (refHex_any h _).mono ?_
          rintro e w11 ⟨rfl, rfl⟩
          rw [Hh.out]
          go_wp2_with fail
          refine (known_any _ (hs.below hb7 (Nat.le_refl _)) (hf.below hb7 (Nat.le_refl _))).mono ?_
          rintro e w14 ⟨rfl, hb14⟩
          go_wp2
          go_ret
          exact ⟨rfl, tr hb7 hb14⟩
end Go.Proofs.YtdadaipejfoipaaGreatDoor
