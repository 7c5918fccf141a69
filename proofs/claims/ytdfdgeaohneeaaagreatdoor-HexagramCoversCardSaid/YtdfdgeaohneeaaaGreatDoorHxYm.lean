/-
  HexagramCovers: the walk of the law.
-/
import Derived.Test.YtdfdgeaohneeaaaGreatDoorHxYl
import Derived.Test.YtdfdgeaohneeaaaGreatDoorHxYe
import Derived.Test.YtdfdgeaohneeaaaGreatDoorHxCb
import Derived.Test.YtdfdgeaohneeaaaGreatDoorHxW
import Derived.Deep.CutRange
namespace Go.Proofs.YtdfdgeaohneeaaaGreatDoor
open Go Go.RowKit
set_option linter.unusedVariables false
set_option linter.unusedSimpArgs false

theorem keepS_alloc {w w' : World} {a : Addr} {v : Value} (h : w'.cell? a = some v ∧ Below w.heap.size w w') (o : Obj) : (w'.alloc o).cell? a = some v ∧ Below w.heap.size w (w'.alloc o) :=
  ⟨cell_tr (below1 w' o) h.1, h.2.alloc h.2.size o⟩
theorem keepS_alloc2 {w w' : World} {a : Addr} {v : Value} (h : w'.cell? a = some v ∧ Below w.heap.size w w') (o : Obj) : (w'.alloc o).drew.cell? a = some v ∧ Below w.heap.size w (w'.alloc o).drew :=
  ⟨(keepS_alloc h o).1, (keepS_alloc h o).2.drew⟩
theorem keepS_tr {w w' w'' : World} {a : Addr} {v : Value} (h : w'.cell? a = some v ∧ Below w.heap.size w w') (hb : Below w'.heap.size w' w'') : w''.cell? a = some v ∧ Below w.heap.size w w'' :=
  ⟨cell_tr hb h.1, tr h.2 hb⟩
theorem apply_bd (ops : List Int) : ∀ h : Nat, h < 64 → 0 ≤ applyV (h : Int) ops ∧ applyV (h : Int) ops ≤ 63 := fun h hh => applyV_hex (show Hex (h : Int) from ⟨by omega, by omega⟩) ops
theorem image_size (s : Nat) (ops : List Int) : ∃ g : Nat, g < 2 ^ 64 ∧ imgV s ops = (g : Int) ∧ sizeV g ≤ sizeV s := by
  obtain ⟨g, g1, e, g2⟩ := isSet_img (s := s) (apply_bd ops) 64 (Nat.le_refl _)
  refine ⟨g, g1, e, ?_⟩
  unfold sizeV
  rw [cntP_congr g2]
  exact img_cnt (apply_bd ops) 64 (Nat.le_refl _)
theorem near_ok (s : Int) (x : Nat) (hx : x ≤ 6) (w : World) (hf : Fst w) :
    Calls Tryz.prog 19 #[.int .u64 s, .int .i64 x] w fun e w' => e = .returned (.tuple #[.int .u64 (nearV s x), .int .i64 0]) ∧ Below w.heap.size w w' := by
  have := near_any s x w hf
  have ho : outB 0 6 (x : Int) = false := by simp [outB]; omega
  have e1 : nearE (x : Int) = 0 := by unfold nearE; rw [ho]; rfl
  have e2 : nearR s (x : Int) = nearV s x := by unfold nearR; rw [ho, Int.toNat_natCast]; rfl
  rw [e1, e2] at this
  exact this

set_option maxRecDepth 100000 in
set_option maxHeartbeats 4000000 in
theorem covers_law (S O : Nat) (hS : Hid (S < 2 ^ 64)) (hO : Hid (O < 2 ^ 64)) (b0 b1 : Int) (hb0 : 0 ≤ b0 ∧ b0 ≤ 255) (hb1 : 0 ≤ b1 ∧ b1 ≤ 255) (p : Option Addr) (xs : List Int) (n c : Nat) (hn : Hid (xs.length = n)) (w : World) (hC : Hid (Came w p xs c)) (hs : Src w) (hf : Fst w) :
    Calls Tryz.prog 7 #[.agg #[.int .u64 S, .int .u64 O, .int .u8 b0, .int .u8 b1], .slice p n c] w fun e w' => e = .returned (.bool true) ∧ Below w.heap.size w w' := by
  by_cases h25 : 25 < n
  · have x0 : (25 : Int) < (n : Int) := by omega
    have hb := below1 w (.cells #[.int .u64 S, .int .u64 O, .int .u8 b0, .int .u8 b1] 63)
    go_enter Tryz.func7, Tryz.ntmps7
    go_wp2_with fail
    refine (known_any _ (hs.below hb (Nat.le_refl _)) (hf.below hb (Nat.le_refl _))).mono ?_
    rintro e w1 ⟨rfl, hb2⟩
    go_wp2
    go_ret
    exact ⟨rfl, tr hb hb2⟩
  · have x0 : ¬ (25 : Int) < (n : Int) := by omega
    have hq0 := (Blk.new w 63 #[.int .u64 S, .int .u64 O, .int .u8 b0, .int .u8 b1]).cell 0
    have hq1 := (Blk.new w 63 #[.int .u64 S, .int .u64 O, .int .u8 b0, .int .u8 b1]).cell 1
    have hq2 := (Blk.new w 63 #[.int .u64 S, .int .u64 O, .int .u8 b0, .int .u8 b1]).cell 2
    have hq3 := (Blk.new w 63 #[.int .u64 S, .int .u64 O, .int .u8 b0, .int .u8 b1]).cell 3
    have hb := below1 w (.cells #[.int .u64 S, .int .u64 O, .int .u8 b0, .int .u8 b1] 63)
    go_enter Tryz.func7, Tryz.ntmps7
    go_wp2_with fail
    go_region
    have cb0 : ((w.alloc (.cells #[.int .u64 S, .int .u64 O, .int .u8 b0, .int .u8 b1] 63)).alloc (.cells #[.int .u8 b0, .int .u8 b1] 61)).drew.cell? ⟨w.heap.size + 1, 0, none⟩ = some (.int .u8 b0) := by
      have := (Blk.new (w.alloc (.cells #[.int .u64 S, .int .u64 O, .int .u8 b0, .int .u8 b1] 63)) 61 #[.int .u8 b0, .int .u8 b1]).cell 0
      rw [World.size_alloc] at this
      exact this
    have cb1 : ((w.alloc (.cells #[.int .u64 S, .int .u64 O, .int .u8 b0, .int .u8 b1] 63)).alloc (.cells #[.int .u8 b0, .int .u8 b1] 61)).drew.cell? ⟨w.heap.size + 1, 1, none⟩ = some (.int .u8 b1) := by
      have := (Blk.new (w.alloc (.cells #[.int .u64 S, .int .u64 O, .int .u8 b0, .int .u8 b1] 63)) 61 #[.int .u8 b0, .int .u8 b1]).cell 1
      rw [World.size_alloc] at this
      exact this
    have hbV : Below w.heap.size w ((w.alloc (.cells #[.int .u64 S, .int .u64 O, .int .u8 b0, .int .u8 b1] 63)).alloc (.cells #[.int .u8 b0, .int .u8 b1] 61)).drew := (hb.alloc (by simp) _).drew
    generalize ((w.alloc (.cells #[.int .u64 S, .int .u64 O, .int .u8 b0, .int .u8 b1] 63)).alloc (.cells #[.int .u8 b0, .int .u8 b1] 61)).drew = V at cb0 cb1 hbV ⊢
    have CB0 := Lib.hid cb0
    have CB1 := Lib.hid cb1
    have hn25 : n ≤ 25 := by omega
    clear hb hq0 hq1 hq2 hq3 cb0 cb1 x0 h25
    have HQ := Lib.hid (isSet_nat hS.out)
    have HI1 := Lib.hid (fun W q d hR hW => image_any S hS.out q xs d (by rw [hn.out]; omega) W hR hW)
    have HI2 := Lib.hid (fun W q d hR hW => image_any O hO.out q xs d (by rw [hn.out]; omega) W hR hW)
    have HI3 := Lib.hid (fun W q d hR hW => image_any (S ||| O) (Nat.or_lt_two_pow hS.out hO.out) q xs d (by rw [hn.out]; omega) W hR hW)
    have HOR := Lib.hid (u64_or S O hS.out hO.out)
    have HSZ := Lib.hid (size_any S hS.out)
    obtain ⟨Z, hZ⟩ : ∃ Z, (S : Int) = Z := ⟨_, rfl⟩
    obtain ⟨Y, hY⟩ : ∃ Y, (O : Int) = Y := ⟨_, rfl⟩
    obtain ⟨X, hX⟩ : ∃ X, ((S ||| O : Nat) : Int) = X := ⟨_, rfl⟩
    rw [hZ] at HQ HI1 HOR HSZ ⊢
    rw [hY] at HI2 HOR ⊢
    rw [hX] at HI3 HOR
    clear hZ hY hX
    have P := Lib.hid (patterns_any Z)
    have GA := Lib.hid (fun i (hi : i < (patternsL Z).length) => great_at Z hi)
    have GL := Lib.hid (fun i (hi : i + 1 < (patternsL Z).length) => great_less Z hi)
    have TM := Lib.hid (show whereTo (patternsL Z) = Z from union_all HQ.out)
    have HL7 := Lib.hid (show (patternsL Z).length ≤ 729 by have := greatL_len Z (upto id 729); rw [upto_length] at this; exact this)
    obtain ⟨L, hL⟩ : ∃ L, patternsL Z = L := ⟨_, rfl⟩
    rw [hL] at P GA GL TM HL7
    clear hL
    obtain ⟨m, hm⟩ : ∃ m, L.length = m := ⟨_, rfl⟩
    have HM := Lib.hid hm
    rw [hm] at P GA GL HL7
    clear hm
    have hm7 : m ≤ 729 := HL7.out
    obtain ⟨T, hT⟩ : ∃ T : Nat → Int, T = fun k => whereTo (L.take k) := ⟨_, rfl⟩
    have T0 := Lib.hid (show T 0 = 0 by rw [hT]; rfl)
    have T1 := Lib.hid (show ∀ k, k < m → T (k + 1) = bits BinOp.or IntKind.u64 (T k) (matchTo (nthS L k) 6) from fun k hk => by rw [hT]; show whereTo (L.take (k + 1)) = _; rw [takeS_succ (by rw [HM.out]; exact hk), whereTo_snoc])
    have T2 := Lib.hid (show T m = Z by rw [hT]; show whereTo (L.take m) = _; rw [← HM.out, List.take_length]; exact TM.out)
    clear hT TM HL7
    go_wp2_with fail
    refine (P.out _ (hf.below hbV (Nat.le_refl _))).mono ?_
    rintro e w1 ⟨q1, ⟨c1, rfl⟩, hr1, hb1⟩
    have hbW := tr hbV hb1
    have HR := Lib.hid hr1
    have CC0 := Lib.hid (cell_tr hb1 CB0.out)
    have CC1 := Lib.hid (cell_tr hb1 CB1.out)
    generalize w.heap.size + 1 = gB at CC0 CC1 ⊢
    clear hr1 hb1 CB0 CB1 hbV P
    go_wp2_with fail
    go_loopw [9, 10] (fun v i wr => ∃ k : Nat, k ≤ m ∧ i = .int .i64 k ∧ v = .int .u64 (T k) ∧ Below w1.heap.size w1 wr) (fun _ i _ => m - (intOf i).toNat)
    case atStart => exact ⟨0, by omega, rfl, by rw [T0.out], Below.refl _ _⟩
    case round =>
      obtain ⟨k, hk, rfl, rfl, hB⟩ := hrel
      by_cases hlt : k < m
      · obtain ⟨kk, hk7, hgr, hsk⟩ := GA.out k hlt
        have hp0 := noPat_pat kk
        have hz0 := patS_size kk
        have hw0 := (great_within hgr).1
        have HOP := Lib.hid (fun i (hi : i < 6) (hb : byteAt (patS kk) i ≠ 63) => great_open HQ.out hk7 hi hgr hb (openS_at (patS kk) (patS_size kk) hi))
        have HPP := Lib.hid (fun i (hi : i < 6) => openS_pat (k := kk) hi)
        obtain ⟨q, o, rfl, hc0⟩ := HR.out.below hB (Nat.le_refl _) k (by rw [HM.out]; exact hlt)
        have HTk := Lib.hid (T1.out k hlt)
        rw [hsk] at hc0 HTk
        have HLS := Lib.hid (show ∀ j, k = j + 1 → Op.bytesLess (nthS L j).toList (patS kk).toList = true from fun j e => by
          have := GL.out j (by omega)
          rw [← e, hsk] at this
          exact this)
        have HSK := Lib.hid hsk
        obtain ⟨s, hs0⟩ : ∃ s, patS kk = s := ⟨_, rfl⟩
        rw [hs0] at hp0 hz0 hw0 HOP HPP hc0 HTk HLS HSK
        have HP := Lib.hid hp0
        clear hp0 hgr hsk hs0 hk7
        obtain ⟨M, hM⟩ : ∃ M, matchTo s 6 = M := ⟨_, rfl⟩
        have C := Lib.hid (fun W q c hR hF => where1_any s HP.out q c W hR hF)
        rw [hM] at hw0 HTk C
        clear hM
        have HCELL := Lib.hid hc0
        go_wp2_with fail
        have hba := hB.alloc hB.size (.cells #[.string s] 9)
        refine (C.out _ _ _ (readsS_one _ s _ ((Blk.new wr 9 #[.string s]).cell 0)) (hf.below (hbW.trans (hba.mono hbW.size)) (Nat.le_refl _))).mono ?_
        rintro e w5 ⟨rfl, hb5⟩
        have hB5 := hba.trans (hb5.mono (by have := hB.size; simp; omega))
        clear hba hc0 C
        have hr5 := HR.out.below hB5 (Nat.le_refl _)
        obtain ⟨q', o', e, hcs⟩ := hr5 k (by rw [HM.out]; exact hlt)
        cases e
        rw [HSK.out] at hcs
        have e1 : (bits BinOp.andNot IntKind.u64 M Z == 0) = true := hw0
        have e2 : (bits BinOp.andNot IntKind.u64 M Z != 0) = false := by
          show (!(bits BinOp.andNot IntKind.u64 M Z == 0)) = false
          rw [e1]
          rfl
        go_upto_region 9 with fail
        go_cut [85] from 54 to 84 (fun s85 wx => s85 = .bool false ∧ ∃ r, wx = w5.drewN r)
        case first =>
          by_cases hk0 : k = 0
          · have x0 : decide ((0 : Int) < (k : Int)) = false := by simp; omega
            have x1 : decide (0 < k) = false := by simp; omega
            clear hk0
            go_quiet (fail)
            go_wp2_with fail
            go_meet
            exact ⟨rfl, _, rfl⟩
          · obtain ⟨j, hj⟩ : ∃ j, k = j + 1 := ⟨k - 1, by omega⟩
            have x1 : (0 : Int) < (k : Int) := by omega
            have x2 : IntKind.i64.wrap ((k : Int) - 1) = (j : Int) := by
              rw [show (k : Int) - 1 = (j : Int) by omega]
              exact IntWalk.i64_in _ (by omega)
            obtain ⟨q', o', e, hcj⟩ := hr5 j (by rw [HM.out]; omega)
            cases e
            have x3 := HLS.out j hj
            have x4 : (j : Int) < (m : Int) := by omega
            have x5 : (0 : Int) ≤ (j : Int) := by omega
            have x6 : decide (0 < k) = true := by simp; omega
            have x7 : 0 < k := by omega
            generalize nthS L j = u at hcj x3
            clear hj hk0
            go_quiet (fail)
            go_wp2_with fail
            go_meet
            exact ⟨rfl, _, rfl⟩
        case rest =>
          obtain ⟨rfl, r, rfl⟩ := hcut
          have hB6 := below_drewN hB5 r
          generalize w5.drewN r = w6 at hB6 ⊢
          have h7 : s.size ≤ 6 := by omega
          have h8 : 6 ≤ s.size := by omega
          have HZ0 := Lib.hid hz0
          clear hB5 hr5 hcs e1 e2 hb5 hw0 HCELL hz0
          go_wp2_with fail
          go_loopw [13] (fun i wz => ∃ j : Nat, j ≤ 6 ∧ i = .int .i64 j ∧ Below w6.heap.size w6 wz) (fun i _ => 6 - (intOf i).toNat)
          case atStart => exact ⟨0, by omega, rfl, Below.refl _ _⟩
          case round =>
            obtain ⟨j, hj, rfl, hBz⟩ := hrel
            have hBy := hB6.trans (hBz.mono hB6.size)
            by_cases hj6 : j < 6
            · obtain ⟨q', o', e, hcs⟩ := HR.out.below hBy (Nat.le_refl _) k (by rw [HM.out]; exact hlt)
              cases e
              rw [HSK.out] at hcs
              have hjs : j < s.size := by omega
              have eb := byteAt_eq hjs
              by_cases h63 : s[j].toNat = 63
              · have e1 : ((s[j].toNat : Int) == 63) = true := by simp; omega
                clear eb h63
                go_wp2_with fail
                go_roundw
                case rel => exact ⟨j + 1, by omega, by go_num, hBz⟩
                case measure => simp [intOf]; omega
              · have e1 : ((s[j].toNat : Int) == 63) = false := by simp; omega
                have HWN := HOP.out j hj6 (by rw [eb]; exact h63)
                have HPN := HPP.out j hj6
                have hsl1 := slice_to s j (by omega)
                have hsl2 := slice_from s j (by omega)
                have hz := openS_size s HZ0.out hj6
                have hfR := hf.below (hbW.trans (hBy.mono hbW.size)) (Nat.le_refl _)
                clear eb h63
                obtain ⟨t, ht⟩ : ∃ t, openS s j = t := ⟨_, rfl⟩
                rw [ht] at HWN HPN hz
                have HPT := Lib.hid HPN
                have C2 := Lib.hid (fun W q c hR hF => where1_any t HPT.out q c W hR hF)
                unfold openS at ht
                have za : (s.extract 0 j).size = j := by rw [ByteArray.size_extract]; omega
                have zb : (s.extract (j + 1) s.size).size = 5 - j := by rw [ByteArray.size_extract]; omega
                generalize s.extract 0 j = a at hsl1 za ht
                generalize s.extract (j + 1) s.size = b at hsl2 zb ht
                have zc : (a ++ (⟨#[63]⟩ : ByteArray)).size = j + 1 := by rw [ByteArray.size_append, za]; rfl
                obtain ⟨d, hd⟩ : ∃ d, a ++ (⟨#[63]⟩ : ByteArray) = d := ⟨_, rfl⟩
                have ad1 : ∀ W : World, (Op.stringOp .add a (⟨#[63]⟩ : ByteArray)).run Tryz.prog W = .ok (.string (a ++ (⟨#[63]⟩ : ByteArray))) W := fun W => run_string_add_sum W _ _ (by rw [za]; show j + 1 ≤ _; omega)
                rw [hd] at ht zc ad1
                have ad2 : ∀ W : World, (Op.stringOp .add d b).run Tryz.prog W = .ok (.string (d ++ b)) W := fun W => run_string_add_sum W _ _ (by rw [zc, zb]; omega)
                rw [ht] at ad2
                have k1 : IntKind.i64.wrap ((j : Int) + 1) = (j : Int) + 1 := IntWalk.i64_in _ (by omega)
                have k0 : (0 : Int) ≤ (j : Int) := by omega
                have kd : decide ((j : Int) < 6) = true := by simp; omega
                have HE9 := Lib.hid HWN
                clear za zb zc hz ht hd HWN HPN HPT
                go_wp2_with fail
                have hS00 : wr.cell? ⟨q, o + k, none⟩ = some (.string s) ∧ Below wr.heap.size wr wr := ⟨hcs, Below.refl _ _⟩
                have hS0 : wr.drew.cell? ⟨q, o + k, none⟩ = some (.string s) ∧ Below wr.heap.size wr wr.drew := ⟨hcs, (Below.refl _ _).drew⟩
                go_region_held3 (fun w' => w'.cell? ⟨q, o + k, none⟩ = some (.string s) ∧ Below wr.heap.size wr w')
                  (first | with_reducible assumption | with_reducible exact keepS_tr (by assumption) hbk | with_reducible exact keepS_alloc2 (by assumption) _)
                  (first | (go_at_call 15; (with_reducible refine (C2.out _ _ _ (readsS_one _ t _ ((Blk.new _ 9 #[.string t]).cell 0)) (hfR.below (by assumption : _ ∧ Below wr.heap.size wr _).2 (Nat.le_refl _))).mono ?_); rintro e w' ⟨rfl, hbk⟩))
                rename_i hh
                have hB7 := hBz.trans (hh.2.mono hBz.size)
                have e9 : (bits BinOp.andNot IntKind.u64 (matchTo t 6) Z == 0) = false := HE9.out
                clear hS0 hS00 hsl1 hsl2 ad1 ad2 hh
                go_wp2_with fail
                go_roundw
                case rel => first | exact ⟨j + 1, by omega, by go_num, hB7⟩ | ((repeat apply Exists.intro); exact ⟨⟨j + 1, by omega, by go_num, hB7⟩, rfl⟩)
                case measure => simp [intOf]; omega
            · obtain rfl : j = 6 := by omega
              go_wp2_with fail
              go_roundw
              case rel => exact ⟨k + 1, by omega, by go_num, by rw [HTk.out], hBy⟩
              case measure => simp [intOf]; omega
      · obtain rfl : k = m := by omega
        rw [T2.out]
        have hbX := hbW.trans (hB.mono hbW.size)
        have cb0 := cell_tr hB CC0.out
        have cb1 := cell_tr hB CC1.out
        obtain ⟨x, hx⟩ := Int.eq_ofNat_of_zero_le (show 0 ≤ b0 % 4 by omega)
        obtain ⟨y, hy⟩ := Int.eq_ofNat_of_zero_le (show 0 ≤ b1 % 4 by omega)
        have hx3 : x ≤ 3 := by omega
        have hy3 : y ≤ 3 := by omega
        have kb0 : IntKind.i64.wrap b0 = b0 := IntWalk.i64_in _ (by omega)
        have kb1 : IntKind.i64.wrap b1 = b1 := IntWalk.i64_in _ (by omega)
        obtain ⟨b0l, b0h⟩ := hb0
        obtain ⟨b1l, b1h⟩ := hb1
        have HNW := Lib.hid (near_within HQ.out x)
        have HN1 := Lib.hid (near_ok Z x (by omega))
        have HN2 := Lib.hid (near_ok (nearV Z x) y (by omega))
        have HN3 := Lib.hid (near_ok Z (x + y) (by omega))
        rw [near_add] at HN2
        generalize nearV Z x = A at HNW HN1 HN2
        generalize nearV Z (x + y) = B at HN2 HN3
        have e1 : (bits BinOp.andNot IntKind.u64 Z A == 0) = true := HNW.out
        have e2 : (bits BinOp.andNot IntKind.u64 Z A != 0) = false := by
          show (!(bits BinOp.andNot IntKind.u64 Z A == 0)) = false
          rw [e1]
          rfl
        have kxy : IntKind.i64.wrap ((x : Int) + (y : Int)) = ((x + y : Nat) : Int) := by
          rw [show (x : Int) + (y : Int) = ((x + y : Nat) : Int) by omega]
          exact IntWalk.i64_in _ (by omega)
        obtain ⟨z, hz⟩ : ∃ z, x + y = z := ⟨_, rfl⟩
        rw [hz] at HN3 kxy
        have OP := Lib.hid (fun (W : World) (hW : Came W p xs c) => opsOf_any p xs c W hW (by rw [hn.out]; omega))
        rw [hn.out] at OP HI1 HI2 HI3
        clear hz hB HNW GA GL T0 T1 T2 HM HR CC0 CC1 HQ hx3 hy3
        by_cases hE : opsE xs = 0
        · have J1 : imageR S xs = imgV S xs := by unfold imageR; rw [if_pos hE]
          have J2 : imageR O xs = imgV O xs := by unfold imageR; rw [if_pos hE]
          have J3 : imageR (S ||| O) xs = bits BinOp.or IntKind.u64 (imgV S xs) (imgV O xs) := by
            unfold imageR
            rw [if_pos hE]
            exact img_union (apply_bd xs)
          rw [J1, hE] at HI1
          rw [J2, hE] at HI2
          rw [J3, hE] at HI3
          obtain ⟨g, g1, g2, g3⟩ := image_size S xs
          have HGS := Lib.hid (size_any g g1)
          rw [g2] at HI1 HI3
          generalize imgV O xs = jj at HI2 HI3
          obtain ⟨G, hG⟩ : ∃ G, (g : Int) = G := ⟨_, rfl⟩
          rw [hG] at HGS HI1 HI3
          have sle : ((sizeV g : Nat) : Int) ≤ ((sizeV S : Nat) : Int) := by omega
          generalize sizeV g = sg at HGS sle
          generalize sizeV S = sS at HSZ sle
          clear J1 J2 J3 hE hG g1 g2 g3
          go_wp2_with fail
          go_quiet (fail)
          go_wp2_with fail
          refine (HN1.out _ (hf.below (below_drewN hbX _) (Nat.le_refl _))).mono ?_
          rintro e w3 ⟨rfl, hb3⟩
          have hb4 := tr (below_drewN hbX _) hb3
          clear hb3 hbX cb0 cb1
          go_wp2_with fail
          refine (HN2.out _ (hf.below hb4 (Nat.le_refl _))).mono ?_
          rintro e w5 ⟨rfl, hb5⟩
          have hb6 := tr hb4 hb5
          clear hb4 hb5
          go_wp2_with fail
          refine (HN3.out _ (hf.below hb6 (Nat.le_refl _))).mono ?_
          rintro e w7 ⟨rfl, hb7⟩
          have hb8 := tr hb6 hb7
          clear hb6 hb7
          go_wp2_with fail
          clear e1 e2
          refine (OP.out _ (hC.out.below hb8 (Nat.le_refl _))).mono ?_
          rintro e w9 ⟨⟨q9, c9, rfl, hr9⟩, hb9⟩
          have hb10 := tr hb8 hb9
          clear hb8 hb9
          go_wp2_with fail
          refine (HI1.out _ q9 c9 hr9 (hs.below hb10 (Nat.le_refl _))).mono ?_
          rintro e w11 ⟨rfl, hb11⟩
          have hb12 := tr hb10 hb11
          clear hb10 hb11 hr9
          go_wp2_with fail
          refine (OP.out _ (hC.out.below hb12 (Nat.le_refl _))).mono ?_
          rintro e w13 ⟨⟨q13, c13, rfl, hr13⟩, hb13⟩
          have hb14 := tr hb12 hb13
          clear hb12 hb13
          go_wp2_with fail
          refine (HI2.out _ q13 c13 hr13 (hs.below hb14 (Nat.le_refl _))).mono ?_
          rintro e w15 ⟨rfl, hb15⟩
          have hb16 := tr hb14 hb15
          clear hb14 hb15 hr13
          go_wp2_with fail
          refine (OP.out _ (hC.out.below hb16 (Nat.le_refl _))).mono ?_
          rintro e w17 ⟨⟨q17, c17, rfl, hr17⟩, hb17⟩
          have hb18 := tr hb16 hb17
          clear hb16 hb17
          go_wp2_with fail
          rw [HOR.out]
          refine (HI3.out _ q17 c17 hr17 (hs.below hb18 (Nat.le_refl _))).mono ?_
          rintro e w19 ⟨rfl, hb19⟩
          have hb20 := tr hb18 hb19
          clear hb18 hb19 hr17
          go_wp2_with fail
          refine (HGS.out _).mono ?_
          rintro e w21 ⟨rfl, rfl⟩
          go_wp2_with fail
          refine (HSZ.out _).mono ?_
          rintro e w22 ⟨rfl, rfl⟩
          go_wp2_with fail
          refine (known_any _ (hs.below hb20 (Nat.le_refl _)) (hf.below hb20 (Nat.le_refl _))).mono ?_
          rintro e wz ⟨rfl, hbz⟩
          go_wp2
          go_ret
          exact ⟨rfl, tr hb20 hbz⟩
        · have J : ∀ u, imageR u xs = 0 := fun u => by unfold imageR; rw [if_neg hE]
          rw [J] at HI1 HI2 HI3
          obtain ⟨E, hEE⟩ : ∃ E, opsE xs = E := ⟨_, rfl⟩
          rw [hEE] at HI1 HI2 HI3 hE
          have x0 : (E == 0) = false := by simpa using hE
          have x1 : (E != 0) = true := by simpa using hE
          clear J hE hEE HSZ
          go_wp2_with fail
          go_quiet (fail)
          go_wp2_with fail
          refine (HN1.out _ (hf.below (below_drewN hbX _) (Nat.le_refl _))).mono ?_
          rintro e w3 ⟨rfl, hb3⟩
          have hb4 := tr (below_drewN hbX _) hb3
          clear hb3 hbX cb0 cb1
          go_wp2_with fail
          refine (HN2.out _ (hf.below hb4 (Nat.le_refl _))).mono ?_
          rintro e w5 ⟨rfl, hb5⟩
          have hb6 := tr hb4 hb5
          clear hb4 hb5
          go_wp2_with fail
          refine (HN3.out _ (hf.below hb6 (Nat.le_refl _))).mono ?_
          rintro e w7 ⟨rfl, hb7⟩
          have hb8 := tr hb6 hb7
          clear hb6 hb7
          go_wp2_with fail
          clear e1 e2
          refine (OP.out _ (hC.out.below hb8 (Nat.le_refl _))).mono ?_
          rintro e w9 ⟨⟨q9, c9, rfl, hr9⟩, hb9⟩
          have hb10 := tr hb8 hb9
          clear hb8 hb9
          go_wp2_with fail
          refine (HI1.out _ q9 c9 hr9 (hs.below hb10 (Nat.le_refl _))).mono ?_
          rintro e w11 ⟨rfl, hb11⟩
          have hb12 := tr hb10 hb11
          clear hb10 hb11 hr9
          go_wp2_with fail
          refine (OP.out _ (hC.out.below hb12 (Nat.le_refl _))).mono ?_
          rintro e w13 ⟨⟨q13, c13, rfl, hr13⟩, hb13⟩
          have hb14 := tr hb12 hb13
          clear hb12 hb13
          go_wp2_with fail
          refine (HI2.out _ q13 c13 hr13 (hs.below hb14 (Nat.le_refl _))).mono ?_
          rintro e w15 ⟨rfl, hb15⟩
          have hb16 := tr hb14 hb15
          clear hb14 hb15 hr13
          go_wp2_with fail
          refine (OP.out _ (hC.out.below hb16 (Nat.le_refl _))).mono ?_
          rintro e w17 ⟨⟨q17, c17, rfl, hr17⟩, hb17⟩
          have hb18 := tr hb16 hb17
          clear hb16 hb17
          go_wp2_with fail
          rw [HOR.out]
          refine (HI3.out _ q17 c17 hr17 (hs.below hb18 (Nat.le_refl _))).mono ?_
          rintro e w19 ⟨rfl, hb19⟩
          have hb20 := tr hb18 hb19
          clear hb18 hb19 hr17
          go_wp2_with fail
          refine (known_any _ (hs.below hb20 (Nat.le_refl _)) (hf.below hb20 (Nat.le_refl _))).mono ?_
          rintro e wz ⟨rfl, hbz⟩
          go_wp2
          go_ret
          exact ⟨rfl, tr hb20 hbz⟩
end Go.Proofs.YtdfdgeaohneeaaaGreatDoor
