/-
  The reference of chapter 4: the set of a pattern; the sets of patterns.
-/
import Derived.Test.YtdfdgeaohneeaaaGreatDoorHxYf
namespace Go.Proofs.YtdfdgeaohneeaaaGreatDoor
open Go Go.RowKit
set_option linter.unusedVariables false

theorem pat_byte {s : ByteArray} (h : noPat s = false) {k : Nat} (hk : k < 6) : okC (byteAt s k) = true := by
  cases hc : okC (byteAt s k)
  · rw [noPat_yes (by rw [pat_size h]; exact hk) hc] at h
    cases h
  · rfl

set_option maxRecDepth 100000 in
set_option maxHeartbeats 2000000 in
theorem refMatches_any (s : ByteArray) (hp : noPat s = false) (w : World) :
    Calls Tryz.prog 47 #[.string s] w fun e w' => e = .returned (.int .u64 (matchTo s 6)) ∧ Below w.heap.size w w' := by
  have HP := Lib.hid hp
  have hz := pat_size hp
  have h6 : 6 ≤ s.size := by omega
  have h7 : s.size ≤ 6 := by omega
  clear hp hz
  obtain ⟨T, hT⟩ : ∃ T : Nat → Int, T = foldTo (okTo s 6) := ⟨_, rfl⟩
  have T0 := Lib.hid (show T 0 = 0 by rw [hT]; rfl)
  have T1 := Lib.hid (show ∀ h, okTo s 6 h = true → T (h + 1) = bits BinOp.or IntKind.u64 (T h) (2 ^ h) from fun h e => by rw [hT]; show (if okTo s 6 h = true then _ else _) = _; rw [if_pos e])
  have T2 := Lib.hid (show ∀ h, okTo s 6 h = false → T (h + 1) = T h from fun h e => by rw [hT]; show (if okTo s 6 h = true then _ else _) = _; rw [if_neg (by rw [e]; simp)])
  have T3 := Lib.hid (show T 64 = matchTo s 6 by rw [hT]; exact fold_match s)
  clear hT
  go_enter Tryz.func47, Tryz.ntmps47
  go_wp2
  go_loopw [3, 4] (fun v i wr => ∃ h : Nat, h ≤ 64 ∧ i = .int .i64 h ∧ v = .int .u64 (T h) ∧ Below w.heap.size w wr) (fun _ i _ => 64 - (intOf i).toNat)
  case atStart => exact ⟨0, by omega, rfl, by rw [T0.out], Below.refl _ _⟩
  case round =>
    obtain ⟨h, hh, rfl, rfl, hB⟩ := hrel
    by_cases hlt : h < 64
    · have hx : Hex (h : Int) := ⟨by omega, by omega⟩
      have HX := Lib.hid hx
      have HI := Lib.hid (show (Tryz.prog.info? 54).map (·.size) = some (arr (sixL (h : Int))).size by rw [arr_size, sixL_length]; exact info_six)
      have HO := Lib.hid (show (arr (List.replicate 6 0)).size = (arr (sixL (h : Int))).size by rw [arr_size, arr_size, sixL_length]; rfl)
      have HSIX := Lib.hid (fun k hk => six_bit k hk h hlt)
      clear hx
      go_wp2_with fail
      refine (refSix_any (h : Int) HX.out _).mono ?_
      rintro e w1 ⟨rfl, hb1⟩
      have hB1 := tr hB hb1
      have N := Lib.hid (newAt (W := w1) (o := .cells (arr (List.replicate 6 0)) 54) rfl)
      go_wp2_with (first | (refine wpList_store_row rfl 54 (.tmp 5) (.tmp 13) rfl w1.heap.size (arr (sixL (h : Int))) rfl rfl 54 _ N.out HI.out HO.out (arr_one _) ?_) | fail)
      generalize hW2 : World.setRow _ _ _ = w2
      have HK := Lib.hid (show Blk w2 w1.heap.size 54 (arr (sixL (h : Int))) by rw [← hW2]; exact Blk.row N.out (arr (sixL (h : Int))))
      have hB2 : Below w.heap.size w w2 := by rw [← hW2]; exact below_setRow (hB1.alloc hB1.size _) hB1.size _
      clear hW2 N HI HO hb1 hB1 hB
      generalize w1.heap.size = gL at HK ⊢
      go_loopw [6, 7] (fun v i wz => ∃ k : Nat, k ≤ 6 ∧ i = .int .i64 k ∧ v = .bool (okTo s k h) ∧ ∃ r, wz = w2.drewN r) (fun _ i _ => 6 - (intOf i).toNat)
      case atStart => exact ⟨0, by omega, rfl, rfl, 0, rfl⟩
      case round =>
        obtain ⟨k, hk, rfl, rfl, r, rfl⟩ := hrel
        by_cases hk6 : k < 6
        · have hks : k < s.size := by omega
          have eb := byteAt_eq hks
          have hc : w2.cell? ⟨gL, k, none⟩ = some (.int .i64 (if h.testBit k = true then 1 else 0)) := by
            rw [HK.out.cell k, arr_get (by rw [sixL_length]; exact hk6), HSIX.out k hk6]
          have HS := Lib.hid (okTo_succ s k h)
          have hok := pat_byte HP.out hk6
          unfold okL at HS
          cases ho : okTo s k h
          · have HE := Lib.hid (show okTo s (k + 1) h = false by rw [HS.out, ho]; rfl)
            clear HS hok eb hc
            go_wp2
            go_quiet (fail)
            go_wp2
            go_roundw
            case rel => exact ⟨k + 1, by omega, by go_num, by rw [HE.out], _, rfl⟩
            case measure => simp [intOf]; omega
          · by_cases h63 : s[k].toNat = 63
            · have HE := Lib.hid (show okTo s (k + 1) h = true by rw [HS.out, ho, eb, h63]; rfl)
              have e1 : ((s[k].toNat : Int) == 63) = true := by simp; omega
              clear HS hok eb hc h63
              go_wp2
              go_quiet (fail)
              go_wp2
              go_roundw
              case rel => exact ⟨k + 1, by omega, by go_num, by rw [HE.out], _, rfl⟩
              case measure => simp [intOf]; omega
            · have e1 : ((s[k].toNat : Int) == 63) = false := by simp; omega
              by_cases h49 : s[k].toNat = 49
              · have HE := Lib.hid (show okTo s (k + 1) h = h.testBit k by rw [HS.out, ho, eb, h49]; rfl)
                have e2 : IntKind.u8.wrap ((s[k].toNat : Int) - 48) = 1 := by rw [h49]; rfl
                cases hb : h.testBit k
                · rw [hb] at hc HE
                  clear HS hok eb h63 h49 hb
                  go_wp2
                  go_quiet (fail)
                  go_wp2
                  go_roundw
                  case rel => exact ⟨k + 1, by omega, by go_num, by rw [HE.out]; try rfl, _, rfl⟩
                  case measure => simp [intOf]; omega
                · rw [hb] at hc HE
                  clear HS hok eb h63 h49 hb
                  go_wp2
                  go_quiet (fail)
                  go_wp2
                  go_roundw
                  case rel => exact ⟨k + 1, by omega, by go_num, by rw [HE.out]; try rfl, _, rfl⟩
                  case measure => simp [intOf]; omega
              · have h48 : s[k].toNat = 48 := by
                  rw [eb] at hok
                  unfold okC at hok
                  simp at hok
                  omega
                have HE := Lib.hid (show okTo s (k + 1) h = !h.testBit k by rw [HS.out, ho, eb, h48]; rfl)
                have e2 : IntKind.u8.wrap ((s[k].toNat : Int) - 48) = 0 := by rw [h48]; rfl
                cases hb : h.testBit k
                · rw [hb] at hc HE
                  clear HS hok eb h63 h49 h48 hb
                  go_wp2
                  go_quiet (fail)
                  go_wp2
                  go_roundw
                  case rel => exact ⟨k + 1, by omega, by go_num, by rw [HE.out]; try rfl, _, rfl⟩
                  case measure => simp [intOf]; omega
                · rw [hb] at hc HE
                  clear HS hok eb h63 h49 h48 hb
                  go_wp2
                  go_quiet (fail)
                  go_wp2
                  go_roundw
                  case rel => exact ⟨k + 1, by omega, by go_num, by rw [HE.out]; try rfl, _, rfl⟩
                  case measure => simp [intOf]; omega
        · obtain rfl : k = 6 := by omega
          have hB3 := below_drewN hB2 r
          have HP2 := Lib.hid (u64_pow hlt)
          cases ho : okTo s 6 h
          · have HE := Lib.hid (T2.out h ho)
            go_wp2
            go_roundw
            case rel => exact ⟨h + 1, by omega, by go_num, by rw [HE.out], hB3⟩
            case measure => simp [intOf]; omega
          · have HE := Lib.hid (T1.out h ho)
            go_wp2
            go_roundw
            case rel => exact ⟨h + 1, by omega, by go_num, by rw [HE.out, HP2.out], hB3⟩
            case measure => simp [intOf]; omega
    · obtain rfl : h = 64 := by omega
      go_wp2
      go_ret
      exact ⟨by rw [T3.out]; rfl, hB⟩

set_option maxRecDepth 100000 in
set_option maxHeartbeats 1000000 in
theorem refWhere_any (p : Option Addr) (ss : List ByteArray) (n c : Nat) (w : World) (hn : Hid (ss.length = n)) (hl : n ≤ 1000000) (hz : Hid (SizeS ss)) (hR : ReadsS w p ss) :
    Calls Tryz.prog 16 #[.slice p n c] w fun e w' => e = .returned (.tuple #[.int .u64 (whereV ss), .int .i64 (whereE ss)]) ∧ Below w.heap.size w w' := by
  by_cases h40 : 40 < n
  · have E := Lib.hid (show whereE ss = 5 by unfold whereE; rw [if_pos (by rw [hn.out]; exact h40)])
    have E2 := Lib.hid (show whereV ss = 0 by unfold whereV; rw [E.out, if_neg (by omega)])
    go_enter Tryz.func16, Tryz.ntmps16
    go_wp2
    go_ret2
    exact ⟨by rw [E.out, E2.out]; rfl, Below.refl _ _⟩
  · have H40 := Lib.hid (show ¬ 40 < ss.length by rw [hn.out]; exact h40)
    have hx : decide ((40 : Int) < (n : Int)) = false := by simp; omega
    have hx2 : ¬ ((n : Int) > 40) := by omega
    have HR := Lib.hid hR
    clear h40 hR
    go_enter Tryz.func16, Tryz.ntmps16
    go_wp2
    go_loopw [4, 5] (fun v i wr => ∃ k : Nat, k ≤ n ∧ i = .int .i64 k ∧ v = .int .u64 (whereTo (ss.take k)) ∧ Hid (∀ j, j < k → noPat (nthS ss j) = false) ∧ Below w.heap.size w wr) (fun _ i _ => n - (intOf i).toNat)
    case atStart => exact ⟨0, by omega, rfl, rfl, fun j hj => by omega, Below.refl _ _⟩
    case round =>
      obtain ⟨k, hk, rfl, rfl, HN, hB⟩ := hrel
      by_cases hlt : k < n
      · have hlk : k < ss.length := by rw [hn.out]; exact hlt
        obtain ⟨q, o, rfl, hcell⟩ := HR.out.below hB (Nat.le_refl _) k hlk
        have HZ := Lib.hid (hz.out k hlk)
        have E3 := Lib.hid (show whereTo (ss.take (k + 1)) = _ by rw [takeS_succ hlk, whereTo_snoc])
        obtain ⟨V, hV⟩ : ∃ V, whereTo (ss.take k) = V := ⟨_, rfl⟩
        obtain ⟨t, ht⟩ : ∃ t, nthS ss k = t := ⟨_, rfl⟩
        rw [hV, ht] at E3
        have HT := Lib.hid ht
        rw [hV]
        rw [ht] at hcell HZ
        clear hV
        cases hq : noPat t
        · have HQ := Lib.hid hq
          have HQ2 := Lib.hid (show noPat (nthS ss k) = false by rw [ht]; exact hq)
          clear hq ht hlk
          go_wp2_with fail
          refine (refPattern_any t HZ.out _).mono ?_
          rintro e w1 ⟨rfl, rfl⟩
          rw [HQ.out]
          go_wp2_with fail
          refine (refMatches_any t HQ.out _).mono ?_
          rintro e w2 ⟨rfl, hb2⟩
          have hB2 := tr hB hb2
          go_wp2
          go_roundw
          case rel => exact ⟨k + 1, by omega, by go_num, by rw [E3.out], fun j hj => by
            by_cases e : j = k
            · subst e; exact HQ2.out
            · exact HN.out j (by omega), hB2⟩
          case measure => simp [intOf]; omega
        · have HQ := Lib.hid hq
          have E := Lib.hid (show whereE ss = 4 by
            unfold whereE
            rw [if_neg H40.out, if_pos]
            rw [List.any_eq_true]
            exact ⟨_, nthS_mem hlk, by rw [ht]; exact hq⟩)
          have E2 := Lib.hid (show whereV ss = 0 by unfold whereV; rw [E.out, if_neg (by omega)])
          clear hq ht hlk
          go_wp2_with fail
          refine (refPattern_any t HZ.out _).mono ?_
          rintro e w1 ⟨rfl, rfl⟩
          rw [HQ.out]
          go_wp2
          go_ret2
          exact ⟨by rw [E.out, E2.out]; rfl, hB⟩
      · obtain rfl : k = n := by omega
        have E := Lib.hid (show whereE ss = 0 by
          unfold whereE
          rw [if_neg H40.out, anyS_false (fun j hj => HN.out j (by rw [← hn.out]; exact hj))]
          rfl)
        have E2 := Lib.hid (show whereV ss = whereTo (ss.take k) by unfold whereV; rw [E.out, if_pos rfl, ← hn.out, List.take_length])
        obtain ⟨V, hV⟩ : ∃ V, whereTo (ss.take k) = V := ⟨_, rfl⟩
        rw [hV] at E2 ⊢
        clear hV
        go_wp2
        go_ret2
        exact ⟨by rw [E.out, E2.out]; rfl, hB⟩
end Go.Proofs.YtdfdgeaohneeaaaGreatDoor
