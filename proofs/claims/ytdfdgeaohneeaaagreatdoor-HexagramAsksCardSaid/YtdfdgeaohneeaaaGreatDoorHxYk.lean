/-
  HexagramAsks: the walk of the law.
-/
import Derived.Test.YtdfdgeaohneeaaaGreatDoorHxYj
import Derived.Test.YtdfdgeaohneeaaaGreatDoorHxYi
import Derived.Test.YtdfdgeaohneeaaaGreatDoorHxYh
import Derived.Test.YtdfdgeaohneeaaaGreatDoorHxYe
import Derived.Test.YtdfdgeaohneeaaaGreatDoorHxW
namespace Go.Proofs.YtdfdgeaohneeaaaGreatDoor
open Go Go.RowKit
set_option linter.unusedVariables false

theorem whereE_or (ss : List ByteArray) : whereE ss = 5 ∨ whereE ss = 4 ∨ whereE ss = 0 := by
  unfold whereE
  split
  · exact .inl rfl
  · split
    · exact .inr (.inl rfl)
    · exact .inr (.inr rfl)

set_option maxRecDepth 100000 in
set_option maxHeartbeats 4000000 in
theorem asks_law (p : Option Addr) (ss : List ByteArray) (n c : Nat) (hn : Hid (ss.length = n)) (set : Nat) (hset : Hid (set < 2 ^ 64)) (lines : Int) (w : World) (hC : Hid (CameS w p ss c)) (hs : Src w) (hf : Fst w) :
    Calls Tryz.prog 4 #[.slice p n c, .int .u64 set, .int .i64 lines] w fun e w' => e = .returned (.bool true) ∧ Below w.heap.size w w' := by
  by_cases h50 : 50 < n
  · have x0 : (50 : Int) < (n : Int) := by omega
    go_enter Tryz.func4, Tryz.ntmps4
    go_wp2_with fail
    refine (known_any _ hs hf).mono ?_
    rintro e w1 ⟨rfl, hb⟩
    go_wp2
    go_ret
    exact ⟨rfl, hb⟩
  · have x0 : ¬ (50 : Int) < (n : Int) := by omega
    have hn50 : n ≤ 50 := by omega
    have P := Lib.hid (patterns_any (set : Int))
    have RP := Lib.hid (refPatterns_any set hset.out)
    have NE := Lib.hid (near_any (set : Int) lines)
    have RN := Lib.hid (fun (N : Nat) (h : N ≤ 6) => refNear_any set hset.out N h)
    obtain ⟨L, hL⟩ : ∃ L, patternsL (set : Int) = L := ⟨_, rfl⟩
    rw [hL] at P RP
    have HL := Lib.hid (show L.length ≤ 729 by rw [← hL]; have := greatL_len (set : Int) (upto id 729); rw [upto_length] at this; exact this)
    obtain ⟨Z, hZ⟩ : ∃ Z, (set : Int) = Z := ⟨_, rfl⟩
    rw [hZ] at P RP NE RN ⊢
    clear hL hZ h50
    go_enter Tryz.func4, Tryz.ntmps4
    go_wp2_with fail
    clear x0
    go_loop [7] (fun i => ∃ k : Nat, k ≤ n ∧ i = .int .i64 k) (fun i => n - (intOf i).toNat)
    case atStart => exact ⟨0, by omega, rfl⟩
    case round =>
      obtain ⟨k, hk, rfl⟩ := hrel
      by_cases hlt : k < n
      · obtain ⟨q, o, rfl, hcell⟩ := hC.out.2.1 k (by rw [hn.out]; exact hlt)
        obtain ⟨t, ht⟩ : ∃ t, nthS ss k = t := ⟨_, rfl⟩
        rw [ht] at hcell
        clear ht
        by_cases h10 : 10 < t.size
        · have x1 : (10 : Int) < (t.size : Int) := by omega
          go_wp2_with fail
          refine (known_any _ hs hf).mono ?_
          rintro e w1 ⟨rfl, hb⟩
          go_wp2
          go_ret
          exact ⟨rfl, hb⟩
        · have x1 : ¬ (10 : Int) < (t.size : Int) := by omega
          go_wp2_with fail
          go_round
          case rel => exact ⟨k + 1, by omega, by go_num⟩
          case measure => simp [intOf]; omega
      · obtain rfl : k = n := by omega
        have hO := none_ownsT w
        have HC1 := Lib.hid (hC.out.below (below1 w (.cells #[] 9)) (Nat.le_refl _))
        go_wp2_with (at_builtin; refine wpList_append_cameS rfl _ _ rfl w.heap.size _ rfl hO p ss k c hn rfl HC1.out (by omega) (by simp) ?_)
        intro v2 w2 hown2 hg2
        have hb2 : Below w.heap.size w w2 := (below1 w (.cells #[] 9)).grown hg2 (by simp) (fun j e => by cases e; exact Nat.le_refl _)
        obtain ⟨q2, c2, rfl, hr2⟩ := readsS_of_owns hown2
        clear hO HC1 hown2 hg2
        have W := Lib.hid (fun W hR hF => where_any q2 ss c2 W (by rw [hn.out]; omega) hC.out.2.2 hR hF)
        have RW := Lib.hid (fun W hR => refWhere_any p ss k c W hn (by omega) (Lib.hid hC.out.2.2) hR)
        rw [hn.out] at W ⊢
        obtain ⟨V, hV⟩ : ∃ V, whereV ss = V := ⟨_, rfl⟩
        obtain ⟨E, hE⟩ : ∃ E, whereE ss = E := ⟨_, rfl⟩
        rw [hV, hE] at W RW
        clear hV hE
        go_wp2_with fail
        refine (W.out _ hr2 (hf.below hb2 (Nat.le_refl _))).mono ?_
        rintro e w3 ⟨rfl, hb3⟩
        have hb4 := tr hb2 hb3
        clear hb2 hb3 hr2 W
        go_wp2_with fail
        refine (RW.out _ (hC.out.below hb4 (Nat.le_refl _)).2.1).mono ?_
        rintro e w5 ⟨rfl, hb5⟩
        have hb6 := tr hb4 hb5
        clear hb4 hb5 RW
        go_wp2_with fail
        refine (P.out _ (hf.below hb6 (Nat.le_refl _))).mono ?_
        rintro e w7 ⟨q7, ⟨c7, rfl⟩, hr7, hb7⟩
        have hb8 := tr hb6 hb7
        clear hb6 hb7 P
        go_wp2_with fail
        refine (RP.out _).mono ?_
        rintro e w9 ⟨⟨q9, c9, rfl, hr9⟩, hb9⟩
        have hb10 := tr hb8 hb9
        have hr79 := Lib.hid (hr7.below hb9 (Nat.le_refl _))
        have hr99 := Lib.hid hr9
        clear hb8 hb9 hr7 hr9 RP hn
        obtain ⟨m, hm⟩ : ∃ m, L.length = m := ⟨_, rfl⟩
        have HM := Lib.hid hm
        have hm7 : m ≤ 729 := by rw [← hm]; exact HL.out
        rw [hm]
        clear hm
        go_wp2_with fail
        go_loopw [14] (fun i wr => ∃ j : Nat, j ≤ m ∧ i = .int .i64 j ∧ ∃ r, wr = w9.drewN r) (fun i _ => m - (intOf i).toNat)
        case atStart => exact ⟨0, by omega, rfl, 0, rfl⟩
        case round =>
          obtain ⟨j, hj, rfl, r, rfl⟩ := hrel
          by_cases hjm : j < m
          · obtain ⟨qa, oa, rfl, ha⟩ := hr79.out j (by rw [HM.out]; exact hjm)
            obtain ⟨qb, ob, rfl, hb⟩ := hr99.out j (by rw [HM.out]; exact hjm)
            generalize nthS L j = t at ha hb
            have e1 : (t.toList != t.toList) = false := by simp
            go_wp2_with fail
            go_quiet (fail)
            go_wp2_with fail
            go_roundw
            case rel => exact ⟨j + 1, by omega, by go_num, _, rfl⟩
            case measure => simp [intOf]; omega
          · obtain rfl : j = m := by omega
            have hbW := below_drewN hb10 r
            generalize w9.drewN r = W at hbW ⊢
            clear hr79 hr99 hb10
            cases ho : outB 0 6 lines
            · have hl : 0 ≤ lines ∧ lines ≤ 6 := by simp [outB] at ho; omega
              obtain ⟨N, rfl⟩ := Int.eq_ofNat_of_zero_le hl.1
              have hN : N ≤ 6 := by omega
              have HE1 := Lib.hid (show nearE (N : Int) = 0 by unfold nearE; rw [ho]; rfl)
              have HE2 := Lib.hid (show nearR Z (N : Int) = nearV Z N by unfold nearR; rw [ho, Int.toNat_natCast]; rfl)
              have R := Lib.hid (RN.out N hN)
              have y0 : ¬ (N : Int) < 0 := by omega
              have y1 : ¬ (6 : Int) < (N : Int) := by omega
              rw [HE1.out, HE2.out] at NE
              generalize nearV Z N = V2 at NE R
              clear hl ho RN HE1 HE2
              go_wp2_with fail
              refine (NE.out _ (hf.below hbW (Nat.le_refl _))).mono ?_
              rintro e w11 ⟨rfl, hb11⟩
              have hb12 := tr hbW hb11
              clear hbW hb11
              go_wp2_with fail
              refine (R.out _).mono ?_
              rintro e w13 ⟨rfl, hb13⟩
              have hb14 := tr hb12 hb13
              clear hb12 hb13
              go_wp2_with fail
              refine (known_any _ (hs.below hb14 (Nat.le_refl _)) (hf.below hb14 (Nat.le_refl _))).mono ?_
              rintro e wz ⟨rfl, hbz⟩
              go_wp2
              go_ret
              exact ⟨rfl, tr hb14 hbz⟩
            · have HE1 := Lib.hid (show nearE lines = 3 by unfold nearE; rw [ho]; rfl)
              have HE2 := Lib.hid (show nearR Z lines = 0 by unfold nearR; rw [ho]; rfl)
              rw [HE1.out, HE2.out] at NE
              clear RN HE1 HE2
              by_cases hl0 : lines < 0
              · clear ho
                go_wp2_with fail
                refine (NE.out _ (hf.below hbW (Nat.le_refl _))).mono ?_
                rintro e w11 ⟨rfl, hb11⟩
                have hb12 := tr hbW hb11
                clear hbW hb11
                go_wp2_with fail
                refine (known_any _ (hs.below hb12 (Nat.le_refl _)) (hf.below hb12 (Nat.le_refl _))).mono ?_
                rintro e wz ⟨rfl, hbz⟩
                go_wp2
                go_ret
                exact ⟨rfl, tr hb12 hbz⟩
              · have hl6 : 6 < lines := by simp [outB] at ho; omega
                clear ho
                go_wp2_with fail
                refine (NE.out _ (hf.below hbW (Nat.le_refl _))).mono ?_
                rintro e w11 ⟨rfl, hb11⟩
                have hb12 := tr hbW hb11
                clear hbW hb11
                go_wp2_with fail
                refine (known_any _ (hs.below hb12 (Nat.le_refl _)) (hf.below hb12 (Nat.le_refl _))).mono ?_
                rintro e wz ⟨rfl, hbz⟩
                go_wp2
                go_ret
                exact ⟨rfl, tr hb12 hbz⟩
end Go.Proofs.YtdfdgeaohneeaaaGreatDoor
