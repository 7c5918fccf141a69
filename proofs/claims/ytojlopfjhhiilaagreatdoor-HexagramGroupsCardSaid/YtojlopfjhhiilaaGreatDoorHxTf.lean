/-
  HexagramGroups: the walk of the law.
-/
import Derived.Test.YtojlopfjhhiilaaGreatDoorHxTe
import Derived.Test.YtojlopfjhhiilaaGreatDoorHxCi
import Derived.Test.YtojlopfjhhiilaaGreatDoorHxW
import Derived.Test.YtojlopfjhhiilaaGreatDoorHxRb
import Derived.Deep.CutRange
import Derived.Deep.QuietTactic
import Derived.BigQuiet
namespace Go.Proofs.YtojlopfjhhiilaaGreatDoor
open Go Go.RowKit
set_option linter.unusedVariables false

theorem or16 : ∀ s, s < 16 → ∀ d, d < 16 → bits BinOp.or IntKind.i64 (s : Nat) (d : Nat) = ((s ||| d : Nat) : Int) := by decide +kernel
theorem set_bits : ∀ s : Nat, s < 16 → ∀ k : Nat, k < 4 → bits BinOp.and IntKind.i64 ((s : Int) / 2 ^ k) 1 = if setB (s : Int) k = true then 1 else 0 := by decide +kernel
theorem oneOp (o : Nat) (ho : o < 4) (h : Int) (hh : Hex h) : applyR h [(o : Int)] = opV h o ∧ applyE h [(o : Int)] = 0 := by
  have h0 : chkH [h] = 0 := chkH_of fun k hk => by
    have : k = 0 := by simpa using hk
    subst this
    exact hh
  have e : opsE [(o : Int)] = 0 := by
    have : o = 0 ∨ o = 1 ∨ o = 2 ∨ o = 3 := by omega
    rcases this with rfl | rfl | rfl | rfl <;> decide +kernel
  have e2 : applyE h [(o : Int)] = 0 := by unfold applyE; rw [if_pos h0, e]
  refine ⟨?_, e2⟩
  unfold applyR
  rw [if_pos e2]
  simp [applyV]
set_option maxRecDepth 100000 in
set_option maxHeartbeats 16000000 in
theorem groups_go (a b m h s d n nw N : Nat) (h64 : h < 64) (s16 : s < 16) (d16 : d < 16) (L W : List Int)
    (EA : Hid ((a : Int) % 64 = h)) (EB : Hid ((b : Int) % 16 = s)) (EM : Hid ((m : Int) % 16 = d)) (OR : Hid (bits BinOp.or IntKind.i64 (s : Nat) (d : Nat) = ((s ||| d : Nat) : Int)))
    (HL : Hid (orbitL (h : Int) (s : Int) = L)) (HE : Hid (orbitE (h : Int) (s : Int) = 0)) (HW : Hid (orbitL (h : Int) ((s ||| d : Nat) : Int) = W)) (WE : Hid (orbitE (h : Int) ((s ||| d : Nat) : Int) = 0))
    (MS : Hid (setE (s : Int) = 0)) (MR : Hid (mapsR (s : Int) = ((n + 1 + N : Nat) : Int))) (HN : Hid (L.length = n + 1)) (HNW : Hid (W.length = nw)) (n64 : n < 64) (w64 : nw ≤ 64) (K : Hid (OrbOk h s L W (n + 1 + N))) (ha : a < 256) (hb : b < 256) (hm : m < 256) (w : World) (hs : Src w) (hf : Fst w) :
    Calls Tryz.prog 4 #[.int .u8 a, .int .u8 b, .int .u8 m] w fun e w' => e = .returned (.bool true) ∧ Below w.heap.size w w' := by
  go_enter Tryz.func4, Tryz.ntmps4
  go_wp2_with fail
  rw [EA.out, EB.out]
  refine (orbit_any _ _ _ hs).mono ?_
  rintro e w1 ⟨q1, ⟨c1, rfl⟩, hr1, hb1⟩
  rw [HE.out, HL.out, HN.out]
  rw [HL.out] at hr1
  go_wp2_with fail
  refine (mapsOf_any _ _ (hs.below hb1 (Nat.le_refl _))).mono ?_
  rintro e w2 ⟨rfl, hb2⟩
  have hb3 := tr hb1 hb2
  have hr3 := Lib.hid (hr1.below hb2 (Nat.le_refl _))
  clear hb1 hb2 hr1
  rw [MS.out, MR.out]
  go_wp2_with fail
  rw [EM.out]
  go_wp2_with fail
  rw [OR.out]
  refine (orbit_any _ _ _ (hs.below hb3 (Nat.le_refl _))).mono ?_
  rintro e w4 ⟨q2, ⟨c2, rfl⟩, hr4, hb4⟩
  rw [HW.out] at hr4
  have hb5 := tr hb3 hb4
  have HR1 := Lib.hid (hr3.out.below hb4 (Nat.le_refl _))
  have HR2 := Lib.hid hr4
  clear hr3 hr4 hb3 hb4
  rw [WE.out, HW.out, HNW.out]
  have x1 : ((n : Int) + 1 == 0) = false := by
    have : ¬ ((n : Int) + 1 = 0) := by omega
    simpa using this
  have x3 : decide ((n : Int) + 1 + (N : Int) < (n : Int) + 1) = false := decide_eq_false (by omega)
  have N0 := Lib.hid (show Blk ((w4.alloc (.cells (arrB off64) 34)).alloc (.cells (arrB off64) 34)) w4.heap.size 34 (arrB off64) from (Blk.new w4 _ _).alloc _)
  have M1 := Lib.hid (show Blk (((w4.alloc (.cells (arrB off64) 34)).alloc (.cells (arrB off64) 34)).setRow w4.heap.size (arrB off64)) (w4.heap.size + 1) 34 (arrB off64) from (Blk.newN _ _ (by simp)).rowFar (by omega) _)
  go_wp2_with (first
    | (refine wpList_store_row rfl 34 (.tmp 15) (.tmp 73) rfl w4.heap.size (arrB off64) rfl rfl 34 _ N0.out info_64b rfl (arrB_one _) ?_)
    | (refine wpList_store_row rfl 34 (.tmp 16) (.tmp 74) rfl (w4.heap.size + 1) (arrB off64) rfl rfl 34 _ M1.out info_64b rfl (arrB_one _) ?_) | fail)
  have hb6 : Below w4.heap.size w4 ((((w4.alloc (.cells (arrB off64) 34)).alloc (.cells (arrB off64) 34)).setRow w4.heap.size (arrB off64)).setRow (w4.heap.size + 1) (arrB off64)) := below_setRow (below_setRow (((Below.refl _ _).alloc (Nat.le_refl _) _).alloc (by simp) _) (by omega) _) (by omega) _
  have HI := Lib.hid (show Blk ((((w4.alloc (.cells (arrB off64) 34)).alloc (.cells (arrB off64) 34)).setRow w4.heap.size (arrB off64)).setRow (w4.heap.size + 1) (arrB off64)) w4.heap.size 34 (arrB off64) from (N0.out.row _).rowFar (by omega) _)
  have HO := Lib.hid (show Blk ((((w4.alloc (.cells (arrB off64) 34)).alloc (.cells (arrB off64) 34)).setRow w4.heap.size (arrB off64)).setRow (w4.heap.size + 1) (arrB off64)) (w4.heap.size + 1) 34 (arrB off64) from M1.out.row _)
  clear N0 M1
  generalize hW : ((((w4.alloc (.cells _ 34)).alloc (.cells _ 34)).setRow w4.heap.size (arrB off64)).setRow (w4.heap.size + 1) (arrB off64)) = W0 at hb6 HI HO
  have e2 : ((((w4.alloc (.cells #[.bool false, .bool false, .bool false, .bool false, .bool false, .bool false, .bool false, .bool false, .bool false, .bool false, .bool false, .bool false, .bool false, .bool false, .bool false, .bool false, .bool false, .bool false, .bool false, .bool false, .bool false, .bool false, .bool false, .bool false, .bool false, .bool false, .bool false, .bool false, .bool false, .bool false, .bool false, .bool false, .bool false, .bool false, .bool false, .bool false, .bool false, .bool false, .bool false, .bool false, .bool false, .bool false, .bool false, .bool false, .bool false, .bool false, .bool false, .bool false, .bool false, .bool false, .bool false, .bool false, .bool false, .bool false, .bool false, .bool false, .bool false, .bool false, .bool false, .bool false, .bool false, .bool false, .bool false, .bool false] 34)).alloc (.cells #[.bool false, .bool false, .bool false, .bool false, .bool false, .bool false, .bool false, .bool false, .bool false, .bool false, .bool false, .bool false, .bool false, .bool false, .bool false, .bool false, .bool false, .bool false, .bool false, .bool false, .bool false, .bool false, .bool false, .bool false, .bool false, .bool false, .bool false, .bool false, .bool false, .bool false, .bool false, .bool false, .bool false, .bool false, .bool false, .bool false, .bool false, .bool false, .bool false, .bool false, .bool false, .bool false, .bool false, .bool false, .bool false, .bool false, .bool false, .bool false, .bool false, .bool false, .bool false, .bool false, .bool false, .bool false, .bool false, .bool false, .bool false, .bool false, .bool false, .bool false, .bool false, .bool false, .bool false, .bool false] 34)).setRow w4.heap.size (arrB off64)).setRow (w4.heap.size + 1) (arrB off64)) = W0 := hW
  rw [e2]
  clear hW e2
  obtain ⟨G, hG⟩ : ∃ G, w4.heap.size = G := ⟨_, rfl⟩
  rw [hG] at hb6 HI HO ⊢
  have HG := Lib.hid hG
  clear hG x1 x3
  go_loopw [17] (fun i wr => ∃ k : Nat, k ≤ n + 1 ∧ i = .int .i64 k ∧ (∃ B, Hid (Mkd L k B) ∧ Hid (Blk wr G 34 (arrB B))) ∧ Hid (Blk wr (G + 1) 34 (arrB off64)) ∧ Hid (Below G w4 wr)) (fun i _ => n + 1 - (intOf i).toNat)
  case atStart => exact ⟨0, by omega, rfl, ⟨off64, Lib.hid (Mkd.start L), HI⟩, HO, Lib.hid hb6⟩
  case round =>
    obtain ⟨k, hk, rfl, ⟨B, HM, HB⟩, HC, HW0⟩ := hrel
    by_cases hlt : k < n + 1
    · obtain ⟨q, o, rfl, hc1⟩ := (HR1.out.below HW0.out (by rw [HG.out]; exact Nat.le_refl _)) k (by have := HN.out; omega)
      have hu := K.out.hex k (by have := HN.out; omega)
      have MS := fun P : Nat => fun (hP : P < 64) (e : nth L k = P) => HM.out.step hP e
      by_cases hk0 : 0 < k
      · obtain ⟨j, hj⟩ : ∃ j, k = j + 1 := ⟨k - 1, by omega⟩
        obtain ⟨q', o', hqq, hc2⟩ := (HR1.out.below HW0.out (by rw [HG.out]; exact Nat.le_refl _)) j (by have := HN.out; omega)
        have hqq2 := hqq
        simp only [Option.some.injEq, Addr.mk.injEq, and_true] at hqq2
        obtain ⟨rfl, rfl⟩ := hqq2
        have hlt2 := K.out.asc j (by have := HN.out; omega)
        rw [← hj] at hlt2
        have ej : IntKind.i64.wrap ((k : Int) - 1) = (j : Int) := by
          rw [show (k : Int) - 1 = (j : Int) by omega]
          exact IntWalk.i64_in _ (by omega)
        have hjn : (j : Int) < (n : Int) + 1 := by omega
        have hkn : (k : Int) < (n : Int) + 1 := by omega
        generalize hue : nth L k = u at hc1 hu MS hlt2
        generalize hve : nth L j = v at hc2 hlt2
        obtain ⟨P, hP⟩ := Int.eq_ofNat_of_zero_le hu.1
        subst hP
        have hP64 : P < 64 := by omega
        have d1 : decide ((P : Int) < 0) = false := decide_eq_false (by omega)
        have d2 : decide ((63 : Int) < (P : Int)) = false := decide_eq_false (by omega)
        have d3 : decide ((0 : Int) < (k : Int)) = true := decide_eq_true (by omega)
        have d5 : decide (0 < k) = true := decide_eq_true hk0
        have d4 : decide ((P : Int) ≤ v) = false := decide_eq_false (by omega)
        have hc3 := HB.out.cell P
        rw [arrB_get (by rw [HM.out.1]; exact hP64)] at hc3
        have hf3 := HB.out.frozen P
        have hP3 : (P : Int) < 64 := by omega
        have HMS := Lib.hid (MS P hP64 rfl)
        have HJ := Lib.hid hj
        clear MS hu hlt2 hqq hk0 hj
        go_wp2
        go_quiet (fail)
        go_wp2
        go_roundw
        case rel => exact ⟨k + 1, by omega, by go_num, ⟨B.set P true, HMS, Lib.hid (by rw [← arrB_set]; exact (show Blk (wr.drewN nq) G 34 (arrB B) from HB.out).set_ P _)⟩, Lib.hid ((show Blk (wr.drewN nq) (G + 1) 34 (arrB off64) from HC.out).far (by simp) _), Lib.hid ((below_drewN HW0.out nq).setCell (p := ⟨G, P, none⟩) (Nat.le_refl _) _)⟩
        case measure => simp [intOf]; omega
      · have hkn : (k : Int) < (n : Int) + 1 := by omega
        generalize hue : nth L k = u at hc1 hu MS
        obtain ⟨P, hP⟩ := Int.eq_ofNat_of_zero_le hu.1
        subst hP
        have hP64 : P < 64 := by omega
        have d1 : decide ((P : Int) < 0) = false := decide_eq_false (by omega)
        have d2 : decide ((63 : Int) < (P : Int)) = false := decide_eq_false (by omega)
        have d3 : decide ((0 : Int) < (k : Int)) = false := decide_eq_false (by omega)
        have d5 : decide (0 < k) = false := decide_eq_false hk0
        have hc3 := HB.out.cell P
        rw [arrB_get (by rw [HM.out.1]; exact hP64)] at hc3
        have hf3 := HB.out.frozen P
        have hP3 : (P : Int) < 64 := by omega
        have HMS := Lib.hid (MS P hP64 rfl)
        clear MS hu hk0
        go_wp2
        go_quiet (fail)
        go_wp2
        go_roundw
        case rel => exact ⟨k + 1, by omega, by go_num, ⟨B.set P true, HMS, Lib.hid (by rw [← arrB_set]; exact (show Blk (wr.drewN nq) G 34 (arrB B) from HB.out).set_ P _)⟩, Lib.hid ((show Blk (wr.drewN nq) (G + 1) 34 (arrB off64) from HC.out).far (by simp) _), Lib.hid ((below_drewN HW0.out nq).setCell (p := ⟨G, P, none⟩) (Nat.le_refl _) _)⟩
        case measure => simp [intOf]; omega
    · have hke : n + 1 = k := by omega
      have HM0 := Lib.hid (show Mkd L (n + 1) B by rw [hke]; exact HM.out)
      have hkx : decide ((k : Int) < (n : Int) + 1) = false := decide_eq_false (by omega)
      clear hlt hk hke HM
      have HM := HM0
      clear HM0
      obtain ⟨B1, HB1⟩ : ∃ B1, B = B1 := ⟨_, rfl⟩
      rw [HB1] at HM HB
      clear HB1 B
      go_wp2
      clear hkx
      go_loopw [18] (fun i wz => ∃ k : Nat, k ≤ nw ∧ i = .int .i64 k ∧ (∃ B, Hid (Mkd W k B) ∧ Hid (Blk wz (G + 1) 34 (arrB B))) ∧ Hid (Blk wz G 34 (arrB B1)) ∧ Hid (Below G w4 wz)) (fun i _ => nw - (intOf i).toNat)
      case atStart => exact ⟨0, by omega, rfl, ⟨off64, Lib.hid (Mkd.start W), HC⟩, HB, HW0⟩
      case round =>
        obtain ⟨k, hk, rfl, ⟨B, HM2, HB2⟩, HC2, HW2⟩ := hrel
        by_cases hlt : k < nw
        · obtain ⟨q, o, rfl, hc1⟩ := (HR2.out.below HW2.out (by rw [HG.out]; exact Nat.le_refl _)) k (by have := HNW.out; omega)
          have hu := K.out.whex k (by have := HNW.out; omega)
          have MS := fun P : Nat => fun (hP : P < 64) (e : nth W k = P) => HM2.out.step hP e
          generalize hue : nth W k = u at hc1 hu MS
          obtain ⟨P, hP⟩ := Int.eq_ofNat_of_zero_le hu.1
          subst hP
          have hP64 : P < 64 := by omega
          have d1 : decide ((P : Int) < 0) = false := decide_eq_false (by omega)
          have d2 : decide ((63 : Int) < (P : Int)) = false := decide_eq_false (by omega)
          have hkn : (k : Int) < (nw : Int) := by omega
          have hc3 := HB2.out.cell P
          rw [arrB_get (by rw [HM2.out.1]; exact hP64)] at hc3
          have hf3 := HB2.out.frozen P
          have hP3 : (P : Int) < 64 := by omega
          have HMS := Lib.hid (MS P hP64 rfl)
          clear MS hu
          go_wp2
          go_roundw
          case rel => exact ⟨k + 1, by omega, by go_num, ⟨B.set P true, HMS, Lib.hid (by rw [← arrB_set]; exact HB2.out.set_ P _)⟩, Lib.hid (HC2.out.far (by simp) _), Lib.hid (HW2.out.setCell (p := ⟨G + 1, P, none⟩) (by simp) _)⟩
          case measure => simp [intOf]; omega
        · obtain rfl : nw = k := by omega
          clear hlt hk
          have hbV := hb5.trans ((HW2.out.mono (by rw [HG.out]; exact Nat.le_refl _)).mono hb5.size)
          have hsV := hs.below hbV (Nat.le_refl _)
          have hfV := hf.below hbV (Nat.le_refl _)
          have HR3 := Lib.hid (HR1.out.below HW2.out (by rw [HG.out]; exact Nat.le_refl _))
          have HMW := HM2
          obtain ⟨V, hV⟩ : ∃ V, wr = V := ⟨_, rfl⟩
          rw [hV] at hbV hsV hfV HR3 HB2 HC2 ⊢
          clear hV HW2 HW0 HC HB HR1 HR2
          have hGI := HC2.out.lt
          have hGO := HB2.out.lt
          go_wp2
          go_loopw [19] (fun i wz => ∃ k : Nat, k ≤ n + 1 ∧ i = .int .i64 k ∧ Hid (Below V.heap.size V wz)) (fun i _ => n + 1 - (intOf i).toNat)
          case atStart => exact ⟨0, by omega, rfl, Lib.hid (Below.refl _ _)⟩
          case round =>
            obtain ⟨k, hk, rfl, HX⟩ := hrel
            by_cases hlt : k < n + 1
            · obtain ⟨q, o, rfl, hcV⟩ := HR3.out k (by have := HN.out; omega)
              have hu := K.out.hex k (by have := HN.out; omega)
              obtain ⟨jw, hjw, ew⟩ := K.out.wide k (by have := HN.out; omega)
              have HOP := Lib.hid (K.out.op k (by have := HN.out; omega))
              have HSM := Lib.hid (fun h8 => K.out.same h8 k (by have := HN.out; omega))
              have hkn : (k : Int) < (n : Int) + 1 := by omega
              have hmw := HMW.out.2 jw (by have := HNW.out; omega)
              rw [ew] at hmw
              generalize hue : nth L k = u at hcV hu ew hmw HOP HSM
              obtain ⟨P, hP⟩ := Int.eq_ofNat_of_zero_le hu.1
              subst hP
              have hP64 : P < 64 := by omega
              have hP3 : (P : Int) < 64 := by omega
              rw [Int.toNat_natCast] at hmw
              have hcO : V.cell? ⟨G + 1, P, none⟩ = some (.bool true) := by
                have := HB2.out.cell P
                rw [arrB_get (by rw [HMW.out.1]; exact hP64), hmw] at this
                exact this
              have HcV := Lib.hid hcV
              have hc1 := cell_tr HX.out hcV
              have hc2 := cell_tr HX.out hcO
              clear hcO hmw ew hjw hu hue hcV
              go_wp2
              go_loopw [20] (fun v wz => ∃ m : Nat, m ≤ 4 ∧ v = .int .i64 m ∧ Hid (Below V.heap.size V wz)) (fun v _ => 4 - (intOf v).toNat)
              case atStart => exact ⟨0, by omega, rfl, HX⟩
              case round =>
                obtain ⟨m', hm', rfl, HY⟩ := hrel
                by_cases hlt4 : m' < 4
                · have hc3 := cell_tr HY.out HcV.out
                  have hd4 : (m' : Int) ≤ 3 := by omega
                  clear hc1 hc2
                  go_wp2_with fail
                  refine (applyF_any (P : Int) (some ⟨wr.heap.size, 0, none⟩) [(m' : Int)] 1 (by simp) (wr.alloc (.cells #[.int .i64 m'] 35)) (Blk.reads (xs := [(m' : Int)]) (Blk.new wr 35 _)) (hsV.below (HY.out.alloc HY.out.size _) (Nat.le_refl _))).mono ?_
                  rintro e w7 ⟨rfl, hb7⟩
                  have hb8 : Below V.heap.size V w7 := tr (HY.out.alloc HY.out.size _) hb7
                  have hPX : Hex (P : Int) := ⟨by omega, by omega⟩
                  rw [(oneOp m' hlt4 (P : Int) hPX).1, (oneOp m' hlt4 (P : Int) hPX).2]
                  have hvx := opV_hex (P : Int) m'
                  have HOQ := Lib.hid (fun hset => HOP.out m' hlt4 hset)
                  generalize hoe : opV (P : Int) m' = T at hvx HOQ ⊢
                  obtain ⟨T', hT⟩ := Int.eq_ofNat_of_zero_le hvx.1
                  subst hT
                  have hT3 : (T' : Int) < 64 := by have := hvx.2; omega
                  have hT64 : T' < 64 := by omega
                  have d1 : decide ((T' : Int) < 0) = false := decide_eq_false (by omega)
                  have d2 : decide ((63 : Int) < (T' : Int)) = false := decide_eq_false (by omega)
                  have hbt := set_bits s s16 m' hlt4
                  clear hoe hvx hPX hb7
                  cases hset : setB (s : Int) m'
                  · rw [hset] at hbt
                    have hbt : bits BinOp.and IntKind.i64 ((s : Int) / 2 ^ m') 1 = 0 := by simpa using hbt
                    clear hset HOQ
                    go_wp2
                    go_roundw
                    case rel => exact ⟨m' + 1, by omega, by go_num, Lib.hid hb8⟩
                    case measure => simp [intOf]; omega
                  · rw [hset] at hbt
                    have hbt : bits BinOp.and IntKind.i64 ((s : Int) / 2 ^ m') 1 = 1 := by simpa using hbt
                    obtain ⟨jt, hjt, et⟩ := HOQ.out hset
                    have hc9 : w7.cell? ⟨G, T', none⟩ = some (.bool true) := by
                      have := (HC2.out.below hb8 hGI).cell T'
                      have hmt := HM.out.2 jt (by have := HN.out; omega)
                      rw [et, Int.toNat_natCast] at hmt
                      rw [arrB_get (by rw [HM.out.1]; exact hT64), hmt] at this
                      exact this
                    clear hset HOQ et hjt
                    go_wp2
                    go_roundw
                    case rel => exact ⟨m' + 1, by omega, by go_num, Lib.hid hb8⟩
                    case measure => simp [intOf]; omega
                · obtain rfl : m' = 4 := by omega
                  have hd4 : decide (((4 : Nat) : Int) ≤ 3) = false := by decide
                  have HP := Lib.hid (orbE_in hP64 s16)
                  clear hc1 hc2 hlt4 HOP
                  by_cases h8 : s < 8
                  · have h8d : decide ((s : Int) < 8) = true := decide_eq_true (by omega)
                    have HS8 := Lib.hid (HSM.out h8)
                    have hc3 := cell_tr HY.out HcV.out
                    clear h8 HSM
                    go_wp2_with fail
                    refine (orbit_any _ _ _ (hsV.below HY.out (Nat.le_refl _))).mono ?_
                    rintro e w8 ⟨q5, ⟨c5, rfl⟩, hr5, hb9⟩
                    rw [HP.out, HS8.out, HN.out]
                    rw [HS8.out] at hr5
                    have hb10 := tr HY.out hb9
                    have hrL := HR3.out.below hb10 (Nat.le_refl _)
                    clear hb9 hc3
                    go_wp2_with fail
                    refine (same_any _ L (n + 1) c1 q5 L (n + 1) c5 _ HN HN (by omega) hrL hr5).mono ?_
                    rintro e w10 ⟨rfl, r, rfl⟩
                    rw [decide_eq_true rfl]
                    go_wp2
                    go_roundw
                    case rel => exact ⟨k + 1, by omega, by go_num, Lib.hid (below_drewN hb10 r)⟩
                    case measure => simp [intOf]; omega
                  · have h8d : decide ((s : Int) < 8) = false := decide_eq_false (by omega)
                    clear h8 HSM
                    go_wp2
                    go_roundw
                    case rel => exact ⟨k + 1, by omega, by go_num, HY⟩
                    case measure => simp [intOf]; omega
            · have hkx : decide ((k : Int) < (n : Int) + 1) = false := decide_eq_false (by omega)
              obtain ⟨js, hjs, es⟩ := K.out.self
              have hcI : wr.cell? ⟨G, h, none⟩ = some (.bool true) := by
                have := (HC2.out.below HX.out hGI).cell h
                have hmt := HM.out.2 js (by have := HN.out; omega)
                rw [es, Int.toNat_natCast] at hmt
                rw [arrB_get (by rw [HM.out.1]; exact h64), hmt] at this
                exact this
              have hh3 : (h : Int) < 64 := by omega
              clear hjs es hlt hk
              by_cases h8 : s < 8
              · have h8d : decide ((8 : Int) ≤ (s : Int)) = false := decide_eq_false (by omega)
                have h8e : decide (8 ≤ s) = false := decide_eq_false (by omega)
                have hmod : ((n : Int) + 1 + (N : Int)) % ((n : Int) + 1) = 0 := by
                  have := K.out.maps h8
                  rw [HN.out] at this
                  exact_mod_cast this
                clear h8
                go_wp2_with fail
                refine (known_any _ (hsV.below HX.out (Nat.le_refl _)) (hfV.below HX.out (Nat.le_refl _))).mono ?_
                rintro e wk ⟨rfl, hbk⟩
                go_wp2
                go_ret
                exact ⟨rfl, tr hbV (tr HX.out hbk)⟩
              · have h8d : decide ((8 : Int) ≤ (s : Int)) = true := decide_eq_true (by omega)
                have h8e : decide (8 ≤ s) = true := decide_eq_true (by omega)
                clear h8
                go_wp2_with fail
                refine (known_any _ (hsV.below HX.out (Nat.le_refl _)) (hfV.below HX.out (Nat.le_refl _))).mono ?_
                rintro e wk ⟨rfl, hbk⟩
                go_wp2
                go_ret
                exact ⟨rfl, tr hbV (tr HX.out hbk)⟩
end Go.Proofs.YtojlopfjhhiilaaGreatDoor
