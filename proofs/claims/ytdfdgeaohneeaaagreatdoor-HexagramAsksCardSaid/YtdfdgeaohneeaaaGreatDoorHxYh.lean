/-
  The reference of chapter 4: what is near to a set.
-/
import Derived.Test.YtdfdgeaohneeaaaGreatDoorHxYf
import Derived.Test.YtdfdgeaohneeaaaGreatDoorHxRb
namespace Go.Proofs.YtdfdgeaohneeaaaGreatDoor
open Go Go.RowKit
set_option linter.unusedVariables false

set_option maxRecDepth 100000 in
set_option maxHeartbeats 4000000 in
theorem refNear_any (s : Nat) (hs : s < 2 ^ 64) (n : Nat) (hn : n ≤ 6) (w : World) :
    Calls Tryz.prog 20 #[.int .u64 s, .int .i64 n] w fun e w' => e = .returned (.int .u64 (nearV s n)) ∧ Below w.heap.size w w' := by
  obtain ⟨C, hC⟩ : ∃ C : Nat → Nat → Bool, C = nearC s n := ⟨_, rfl⟩
  have HC := Lib.hid (show ∀ h g, C h g = (decide (dstTo h g 6 ≤ n) && s.testBit h) from fun h g => by rw [hC]; rfl)
  have HE := Lib.hid (show refOut C 64 = nearV s n by rw [hC]; exact ref_near hs n)
  have O1 := Lib.hid (show ∀ h, refIn C h (refOut C h) 64 = refOut C (h + 1) from fun h => rfl)
  have I1 := Lib.hid (show ∀ h a g, C h g = true → refIn C h a (g + 1) = bits BinOp.or IntKind.u64 (refIn C h a g) (2 ^ g) from fun h a g e => by show (if C h g = true then _ else _) = _; rw [if_pos e])
  have I2 := Lib.hid (show ∀ h a g, C h g = false → refIn C h a (g + 1) = refIn C h a g from fun h a g e => by show (if C h g = true then _ else _) = _; rw [if_neg (by rw [e]; simp)])
  have I0 := Lib.hid (show ∀ h a, refIn C h a 0 = a from fun h a => rfl)
  obtain ⟨T, hT⟩ : ∃ T : Nat → Int, T = refOut C := ⟨_, rfl⟩
  obtain ⟨U, hU⟩ : ∃ U : Nat → Int → Nat → Int, U = refIn C := ⟨_, rfl⟩
  have T0 := Lib.hid (show T 0 = 0 by rw [hT]; rfl)
  rw [← hT] at HE O1
  rw [← hU] at O1 I1 I2 I0
  have HIN := Lib.hid (fun h => in_ref (h := h) hs)
  obtain ⟨Z, hZ⟩ : ∃ Z, (s : Int) = Z := ⟨_, rfl⟩
  rw [hZ] at HIN HE ⊢
  clear hC hT hU hs hZ
  go_enter Tryz.func20, Tryz.ntmps20
  go_wp2
  go_loopw [5, 6] (fun v i wr => ∃ h : Nat, h ≤ 64 ∧ i = .int .i64 h ∧ v = .int .u64 (T h) ∧ Below w.heap.size w wr) (fun _ i _ => 64 - (intOf i).toNat)
  case atStart => exact ⟨0, by omega, rfl, by rw [T0.out], Below.refl _ _⟩
  case round =>
    obtain ⟨h, hh, rfl, rfl, hB⟩ := hrel
    by_cases hlt : h < 64
    · obtain ⟨A, hA⟩ : ∃ A, T h = A := ⟨_, rfl⟩
      have HA := Lib.hid (show U h A 64 = T (h + 1) by rw [← hA]; exact O1.out h)
      rw [hA]
      clear hA
      have HXh := Lib.hid (show Hex (h : Int) from ⟨by omega, by omega⟩)
      have HBh := Lib.hid (fun k hk => six_bit k hk h hlt)
      have HIh := Lib.hid (HIN.out h)
      have hd1 : decide ((h : Int) < 64) = true := by simp; omega
      go_wp2
      go_loopw [5, 7] (fun v i wz => ∃ g : Nat, g ≤ 64 ∧ i = .int .i64 g ∧ v = .int .u64 (U h A g) ∧ Below w.heap.size w wz) (fun _ i _ => 64 - (intOf i).toNat)
      case atStart => exact ⟨0, by omega, rfl, by rw [I0.out], hB⟩
      case round =>
        obtain ⟨g, hg, rfl, rfl, hBz⟩ := hrel
        clear hB
        by_cases hlg : g < 64
        · have HXg := Lib.hid (show Hex (g : Int) from ⟨by omega, by omega⟩)
          have HBg := Lib.hid (fun k hk => six_bit k hk g hlg)
          have HSx := Lib.hid (show (Tryz.prog.info? 54).map (·.size) = some (arr (sixL (h : Int))).size by rw [arr_size, sixL_length]; exact info_six)
          have HSy := Lib.hid (show (Tryz.prog.info? 54).map (·.size) = some (arr (sixL (g : Int))).size by rw [arr_size, sixL_length]; exact info_six)
          have HTx := Lib.hid (show (arr (List.replicate 6 0)).size = (arr (sixL (h : Int))).size by rw [arr_size, arr_size, sixL_length]; rfl)
          have HTy := Lib.hid (show (arr (List.replicate 6 0)).size = (arr (sixL (g : Int))).size by rw [arr_size, arr_size, sixL_length]; rfl)
          have HCg := Lib.hid (HC.out h g)
          have HG1 := Lib.hid (I1.out h A g)
          have HG2 := Lib.hid (I2.out h A g)
          obtain ⟨B, hBB⟩ : ∃ B, U h A g = B := ⟨_, rfl⟩
          rw [hBB] at HG1 HG2 ⊢
          clear hBB
          have hd2 : decide ((g : Int) < 64) = true := by simp; omega
          go_wp2_with fail
          refine (refSix_any (h : Int) HXh.out _).mono ?_
          rintro e w3 ⟨rfl, hb3⟩
          have hb4 := tr hBz hb3
          clear hb3
          go_wp2_with fail
          refine (refSix_any (g : Int) HXg.out _).mono ?_
          rintro e w5 ⟨rfl, hb5⟩
          have hb6 := tr hb4 hb5
          clear hb5 hb4
          obtain ⟨L1, hL1⟩ : ∃ L, sixL (h : Int) = L := ⟨_, rfl⟩
          obtain ⟨L2, hL2⟩ : ∃ L, sixL (g : Int) = L := ⟨_, rfl⟩
          have hl1 : Hid (L1.length = 6) := by rw [← hL1]; exact sixL_length _
          have hl2 : Hid (L2.length = 6) := by rw [← hL2]; exact sixL_length _
          rw [hL1] at HBh HSx HTx ⊢
          rw [hL2] at HBg HSy HTy ⊢
          clear hL1 hL2
          have N0 := Lib.hid (show Blk ((w5.alloc (.cells (arr (List.replicate 6 0)) 54)).alloc (.cells (arr (List.replicate 6 0)) 54)) w5.heap.size 54 (arr (List.replicate 6 0)) from (Blk.new w5 _ _).alloc _)
          have M1 := Lib.hid (show Blk (((w5.alloc (.cells (arr (List.replicate 6 0)) 54)).alloc (.cells (arr (List.replicate 6 0)) 54)).setRow w5.heap.size (arr L1)) (w5.heap.size + 1) 54 (arr (List.replicate 6 0)) from (Blk.newN _ _ (by simp)).rowFar (by omega) _)
          go_wp2_with (first
            | (refine wpList_store_row rfl 54 (.tmp 8) (.tmp 21) rfl w5.heap.size (arr L1) rfl rfl 54 _ N0.out HSx.out HTx.out (arr_one _) ?_)
            | (refine wpList_store_row rfl 54 (.tmp 9) (.tmp 23) rfl (w5.heap.size + 1) (arr L2) rfl rfl 54 _ M1.out HSy.out HTy.out (arr_one _) ?_)
            | fail)
          generalize hW : World.setRow (World.setRow _ _ _) _ _ = W
          have HK1 := Lib.hid (show Blk W w5.heap.size 54 (arr L1) by rw [← hW]; exact ((N0.out.row (arr L1))).rowFar (by omega) _)
          have HK2 := Lib.hid (show Blk W (w5.heap.size + 1) 54 (arr L2) by rw [← hW]; exact M1.out.row (arr L2))
          have hb8 : Below w.heap.size w W := by
            rw [← hW]
            have := hb6.size
            exact below_setRow (below_setRow ((hb6.alloc (by omega) _).alloc (by simp; omega) _) (by omega) _) (by omega) _
          clear hW N0 M1 hb6 HSx HSy HTx HTy
          generalize w5.heap.size = gL at HK1 HK2 ⊢
          go_loopw [10, 11] (fun d i wy => ∃ m : Nat, m ≤ 6 ∧ i = .int .i64 m ∧ (∃ D : Nat, d = .int .i64 D ∧ Hid (dstTo h g m = D) ∧ D ≤ 6) ∧ ∃ r, wy = W.drewN r) (fun _ i _ => 6 - (intOf i).toNat)
          case atStart => exact ⟨0, by omega, rfl, ⟨0, rfl, Lib.hid rfl, by omega⟩, 0, rfl⟩
          case round =>
            obtain ⟨m, hm, rfl, ⟨D, rfl, HD, hd6⟩, r, rfl⟩ := hrel
            by_cases hlm : m < 6
            · have ha : W.cell? ⟨gL, m, none⟩ = some (.int .i64 (if h.testBit m = true then 1 else 0)) := by
                rw [HK1.out.cell m, arr_get (by rw [hl1.out]; exact hlm), HBh.out m hlm]
              have hc : W.cell? ⟨gL + 1, m, none⟩ = some (.int .i64 (if g.testBit m = true then 1 else 0)) := by
                rw [HK2.out.cell m, arr_get (by rw [hl2.out]; exact hlm), HBg.out m hlm]
              have hD2 : dstTo h g (m + 1) = D + if h.testBit m = g.testBit m then 0 else 1 := by unfold dstTo; rw [HD.out]
              have hD3 := dst_le h g (m + 1)
              rw [hD2] at hD3
              cases h1 : h.testBit m <;> cases h2 : g.testBit m
              all_goals
                rw [h1] at ha
                rw [h2] at hc
                rw [h1, h2] at hD2 hD3
                simp only [Bool.false_eq_true, if_false, if_true, reduceCtorEq] at ha hc hD2 hD3
                have HD2 := Lib.hid hD2
                clear hD2 h1 h2
                go_wp2
                go_quiet (fail)
                go_wp2
                go_roundw
                case rel => first | exact ⟨m + 1, by omega, by go_num, ⟨D, rfl, HD2, by omega⟩, _, rfl⟩ | exact ⟨m + 1, by omega, by go_num, ⟨D + 1, by go_num, HD2, by omega⟩, _, rfl⟩
                case measure => simp [intOf]; omega
            · obtain rfl : m = 6 := by omega
              have hBW := below_drewN hb8 r
              generalize W.drewN r = V at hBW ⊢
              have HP := Lib.hid (u64_pow hlg)
              have HCg := Lib.hid (show C h g = (decide (D ≤ n) && s.testBit h) by rw [HCg.out, HD.out])
              by_cases hdn : D ≤ n
              · have x1 : (D : Int) ≤ (n : Int) := by omega
                cases hb : s.testBit h
                · have e1 : (bits BinOp.and IntKind.u64 (Z / 2 ^ h) 1 == 1) = false := by rw [HIh.out, hb]
                  have HF := Lib.hid (HG2.out (by rw [HCg.out, hb]; simp))
                  clear hdn hb
                  go_wp2_with fail
                  go_roundw
                  case rel => exact ⟨g + 1, by omega, by go_num, by rw [HF.out], hBW⟩
                  case measure => simp [intOf]; omega
                · have e1 : (bits BinOp.and IntKind.u64 (Z / 2 ^ h) 1 == 1) = true := by rw [HIh.out, hb]
                  have HF := Lib.hid (HG1.out (by rw [HCg.out, hb]; simp [hdn]))
                  clear hdn hb
                  go_wp2_with fail
                  go_roundw
                  case rel => exact ⟨g + 1, by omega, by go_num, by rw [HF.out, HP.out], hBW⟩
                  case measure => simp [intOf]; omega
              · have x1 : ¬ (D : Int) ≤ (n : Int) := by omega
                have HF := Lib.hid (HG2.out (by rw [HCg.out]; simp [hdn]))
                clear hdn
                go_wp2_with fail
                go_roundw
                case rel => exact ⟨g + 1, by omega, by go_num, by rw [HF.out], hBW⟩
                case measure => simp [intOf]; omega
        · obtain rfl : g = 64 := by omega
          rw [HA.out]
          go_wp2
          go_roundw
          case rel => exact ⟨h + 1, by omega, by go_num, rfl, hBz⟩
          case measure => simp [intOf]; omega
    · obtain rfl : h = 64 := by omega
      go_wp2
      go_ret
      exact ⟨by rw [HE.out]; rfl, hB⟩
end Go.Proofs.YtdfdgeaohneeaaaGreatDoor
