/-
  HouseRulers: the walk of the law.
-/
import Derived.Test.YtojlopfjhhiilaaDoorHoA
import Derived.Test.YtojlopfjhhiilaaDoorShG
namespace Go.Proofs.YtojlopfjhhiilaaDoor
open Go Go.RowKit
set_option linter.unusedVariables false

/-- The figures below k that something rules. -/
def ruledTo (p : Int) (k : Nat) : List Int := ((List.range k).filter fun f => nth rulL f == p).map Int.ofNat
theorem ruledTo_yes {p : Int} {k : Nat} (h : nth rulL k = p) : ruledTo p (k + 1) = ruledTo p k ++ [(k : Int)] := by
  simp [ruledTo, List.range_succ, List.filter_append, h]
theorem ruledTo_no {p : Int} {k : Nat} (h : ¬ nth rulL k = p) : ruledTo p (k + 1) = ruledTo p k := by
  simp [ruledTo, List.range_succ, List.filter_append, h]
theorem ruledTo_len (p : Int) (k : Nat) : (ruledTo p k).length ≤ k := by
  unfold ruledTo
  rw [List.length_map]
  exact Nat.le_trans (List.length_filter_le _ _) (by simp)
theorem ruledTo_all {p : Int} (h : outB 0 8 p = false) : ruledV p = ruledTo p 16 := by
  unfold ruledV ruledTo ruledL
  rw [h]
  simp [outB] at h
  have : Int.ofNat p.toNat = p := by simp; omega
  rw [this]
  rfl

theorem info_figure : (Tryd.prog.info? 22).map (fun i => (i.zero, i.size, i.bytes)) = some (some (.int .i64 0), 1, 8) := by kernel_rfl
theorem empty_ownsF (w : World) : (w.alloc (.cells #[] 22)).ownsRow w.heap.size 22 1 (.slice (some ⟨w.heap.size, 0, none⟩) 0 0) 0 [] :=
  ⟨rfl, Or.inr ⟨w.heap.size, 0, #[], rfl, Nat.le_refl _, heap_alloc_new w _, Nat.le_refl _, by simp [maxLen], rfl, rfl⟩⟩
set_option maxRecDepth 100000 in
set_option maxHeartbeats 16000000 in
theorem rulers_go (f p a b q E : Int) (F : Bool) (n e : Int) (w : World) (hw : 7 ≤ w.heap.size) (hr : Rul w)
    (HF : Hid (figB f = F)) (HQ : Hid (rulV f = q)) (HE : Hid (chkF [f] = E)) (hF : (F = true ∧ E = 0 ∧ Fig f ∧ Hid (nth rulL f.toNat = q)) ∨ (F = false ∧ E = 2 ∧ q = 0))
    (HA : Hid (apartV a b = n)) (HX : Hid (chkH [a, b] = e)) (hD : (e = 0 ∧ Hid (houB a = true) ∧ Hid (houB b = true) ∧ Hid (Hou a) ∧ Hid (Hou b) ∧ Hid (Int.ofNat (apartN a.toNat b.toNat) = n)) ∨ (e = 3 ∧ n = 0 ∧ Hid (houB a = true) ∧ Hid (houB b = false)) ∨ (e = 3 ∧ n = 0 ∧ Hid (houB a = false))) :
    Calls Tryd.prog 4 #[.int .i64 f, .int .i64 p, .agg (arr [a, b])] w fun e w' => e = .returned (.bool true) ∧ Below w.heap.size w w' := by
  have hB0 : Below w.heap.size w (w.alloc (.cells (arr [a, b]) 41)) := (Below.refl _ _).alloc (Nat.le_refl _) _
  have HM := Lib.hid (Blk.new w 41 (arr [a, b]))
  go_enter Tryd.func4, Tryd.ntmps4
  go_wp2_with fail
  refine (ruler_any f _ (by simp; omega) (hr.below hB0 (Nat.le_refl _))).mono ?_
  rintro e1 w1 ⟨rfl, hb1⟩
  rw [HQ.out, HE.out]
  have HM1 := Lib.hid (HM.out.below hb1 (by simp))
  have hB1 := tr hB0 hb1
  clear hB0 hb1 HM
  go_wp2_with fail
  refine (ruled_any p _ (by have := hB1.size; omega) (hr.below hB1 (Nat.le_refl _))).mono ?_
  rintro e1 w2 ⟨⟨qr, cr, rfl, hqr⟩, hb2⟩
  have HM2 := Lib.hid (HM1.out.below hb2 HM1.out.lt)
  have hB2 := tr hB1 hb2
  clear hB1 hb2 HM1
  have c0 : w2.cell? ⟨w.heap.size, 0, none⟩ = some (.int .i64 a) := by rw [HM2.out.cell]; rfl
  have c1 : w2.cell? ⟨w.heap.size, 1, none⟩ = some (.int .i64 b) := by rw [HM2.out.cell]; rfl
  go_wp2_with fail
  refine (apartS_any a b _ (by have := hB2.size; omega)).mono ?_
  rintro e1 w3 ⟨rfl, hb3⟩
  rw [HA.out, HX.out]
  have HM3 := Lib.hid (HM2.out.below hb3 HM2.out.lt)
  have hB3 := tr hB2 hb3
  have hqr3 := hqr.below hb3 (Nat.le_refl _)
  clear hB2 hb3 HM2 c0 c1 hqr
  have c0 : w3.cell? ⟨w.heap.size, 0, none⟩ = some (.int .i64 a) := by rw [HM3.out.cell]; rfl
  have c1 : w3.cell? ⟨w.heap.size, 1, none⟩ = some (.int .i64 b) := by rw [HM3.out.cell]; rfl
  rcases hF with ⟨rfl, rfl, hf, HR⟩ | ⟨rfl, rfl, rfl⟩
  · have HFi := Lib.hid hf
    clear hf
    go_wp2_with fail
    refine (refFigure_any f _).mono ?_
    rintro e1 wx ⟨rfl, rfl⟩
    rw [HF.out]
    go_wp2_with fail
    refine (refFigure_any f _).mono ?_
    rintro e1 wx ⟨rfl, rfl⟩
    rw [HF.out]
    go_wp2_with fail
    refine (refRuler_any f HFi.out _ (by have := hB3.size; omega)).mono ?_
    rintro e1 wx ⟨rfl, hbx⟩
    rw [HR.out]
    have HM3 := Lib.hid (HM3.out.below hbx HM3.out.lt)
    have hB3 := tr hB3 hbx
    have hqr3 := hqr3.below hbx (Nat.le_refl _)
    replace c0 := cell_tr hbx c0
    replace c1 := cell_tr hbx c1
    clear hbx
    rcases hD with ⟨rfl, hA1, hB1, hOa, hOb, hAp⟩ | ⟨rfl, rfl, hA1, hB1⟩ | ⟨rfl, rfl, hA1⟩
    · go_wp2_with fail
      refine (refHouse_any a _).mono ?_
      rintro e1 wx ⟨rfl, rfl⟩
      rw [hA1.out]
      go_wp2_with fail
      refine (refHouse_any b _).mono ?_
      rintro e1 wx ⟨rfl, rfl⟩
      rw [hB1.out]
      go_wp2_with fail
      refine (refApart_any a b hOa.out hOb.out _ (by have := hB3.size; omega)).mono ?_
      rintro e1 wx ⟨rfl, hbx⟩
      rw [hAp.out]
      have HM3 := Lib.hid (HM3.out.below hbx HM3.out.lt)
      have hB3 := tr hB3 hbx
      have hqr3 := hqr3.below hbx (Nat.le_refl _)
      replace c0 := cell_tr hbx c0
      replace c1 := cell_tr hbx c1
      clear hbx
      cases hp : outB 0 8 p with
      | true =>
        have e1 : ruledV p = [] := by unfold ruledV; rw [hp]; rfl
        have e2 : ruledE p = 3 := by unfold ruledE; rw [hp]; rfl
        rw [e1, e2]
        clear e1 e2 hqr3
        have hK := (known_any _ (by have := hB3.size; omega) (hr.below hB3 (Nat.le_refl _)))
        by_cases h0 : p < 0
        · clear hp
          go_wp2_with fail
          refine hK.mono ?_
          rintro e1 wz ⟨rfl, hbz⟩
          go_wp2
          go_ret
          exact ⟨rfl, tr hB3 hbz⟩
        · have h8 : 8 < p := by simp [outB] at hp; omega
          clear hp
          go_wp2_with fail
          refine hK.mono ?_
          rintro e1 wz ⟨rfl, hbz⟩
          go_wp2
          go_ret
          exact ⟨rfl, tr hB3 hbz⟩
      | false =>
        have HL := Lib.hid (ruledTo_all hp)
        have e2 : ruledE p = 0 := by unfold ruledE; rw [hp]; rfl
        have h0 : ¬ p < 0 := by simp [outB] at hp; omega
        have h8 : ¬ 8 < p := by simp [outB] at hp; omega
        rw [e2]
        clear e2 hp c0 c1 HM3
        rw [HL.out]
        rw [HL.out] at hqr3
        obtain ⟨i0, hi, hz0, hz1, hz2⟩ := info_parts info_figure
        obtain ⟨B0, hB0⟩ : ∃ B0, B0 = wx.heap.size := ⟨_, rfl⟩
        have HB0 := Lib.hid hB0
        clear hB0
        go_wp2
        go_loopw [14, 15] (fun l i wr => ∃ k : Nat, k ≤ 16 ∧ i = .int .i64 k ∧ wr.ownsRow B0 22 1 l (ruledTo p k).length ((ruledTo p k).map (Value.int .i64)) ∧ Below B0 wx wr) (fun _ i _ => 16 - (intOf i).toNat)
        case atStart => exact ⟨0, by omega, rfl, by rw [HB0.out]; exact empty_ownsF _, (Below.refl _ _).alloc (by rw [HB0.out]; exact Nat.le_refl _) _⟩
        case round =>
          obtain ⟨k, hk, rfl, hown, hB⟩ := hrel
          have hwr : 7 ≤ wr.heap.size := by have := hB3.size; have := hB.size; omega
          have hlen := ruledTo_len p k
          by_cases hlt : k < 16
          · have hfk : Fig (k : Int) := ⟨by omega, by omega⟩
            obtain ⟨R, hR⟩ : ∃ R, nth rulL (k : Int).toNat = R := ⟨_, rfl⟩
            have HR := Lib.hid hR
            have hR' : nth rulL k = R := by rw [← hR]; simp
            clear hR
            go_wp2_with fail
            refine (refRuler_any k hfk _ hwr).mono ?_
            rintro e1 w4 ⟨rfl, hb4⟩
            rw [HR.out]
            have hown2 := owns_below hown hb4
            have hB2 := hB.trans (hb4.mono (by have := hB.size; rw [HB0.out]; exact this))
            have hsz2 : B0 ≤ w4.heap.size := by have := hB2.size; rw [HB0.out]; exact this
            clear hb4 hown hB hfk hwr
            by_cases hq : R = p
            · subst hq
              have HQ := Lib.hid (ruledTo_yes hR')
              clear hR' HR
              go_wp2_with (at_builtin; refine wpList_append_own _ rfl _ _ 44 rfl B0 22 i0 (.int .i64 0) 1 8 Tryd.underlying44 hi hz0 hz1 hz2 rfl (by decide) _ (ruledTo R k).length _ rfl (hown2.alloc _) ⟨w4.heap.size, 0, none⟩ 1 1 [.int .i64 k] rfl rfl (news_at _ _ rfl) (one_int _) (by unfold maxLen; omega) (by omega) (by simp; omega) ?_)
              intro v2 w6 hown3 hg _
              have hB4 : Below B0 wx w6 := (hB2.alloc hsz2 _).grown hg (by simp; omega) (owns_base hown2)
              clear hg hown2 hB2
              go_wp2
              go_roundw
              case rel => exact ⟨k + 1, by omega, by go_num, by rw [HQ.out]; simpa using hown3, hB4⟩
              case measure => simp [intOf]; omega
            · have HQ := Lib.hid (ruledTo_no (p := p) (by rw [hR']; exact hq))
              have hqb : (R == p) = false := by simp [hq]
              clear hR' HR
              go_wp2
              go_roundw
              case rel => exact ⟨k + 1, by omega, by go_num, by rw [HQ.out]; exact hown2, hB2⟩
              case measure => simp [intOf]; omega
          · obtain rfl : k = 16 := by omega
            have hBw : Below w.heap.size w wr := hB3.trans (hB.mono (by have := hB3.size; rw [HB0.out]; exact this))
            have hqr4 := hqr3.below hB (by rw [HB0.out]; exact Nat.le_refl _)
            obtain ⟨q2, c2, rfl, hrd2⟩ := Got.of_owns hown
            clear hqr3 hown hlt hk
            generalize ruledTo p 16 = xs at *
            go_wp2
            go_loopw [16] (fun i wz => ∃ k : Nat, k ≤ xs.length ∧ i = .int .i64 k ∧ ∃ r, wz = wr.drewN r) (fun i _ => xs.length - (intOf i).toNat)
            case atStart => exact ⟨0, by omega, rfl, 0, rfl⟩
            case round =>
              obtain ⟨k, hk, rfl, r, rfl⟩ := hrel
              by_cases hlt : k < xs.length
              · obtain ⟨g, o, rfl, hcx⟩ := hqr4 k hlt
                obtain ⟨g', o', rfl, hcy⟩ := hrd2 k hlt
                go_wp2
                go_quiet (fail)
                go_wp2
                go_roundw
                case rel => exact ⟨k + 1, by omega, by go_num, _, rfl⟩
                case measure => simp [intOf]; omega
              · obtain rfl : k = xs.length := by omega
                have hBz := below_drewN hBw r
                go_wp2_with fail
                refine (known_any _ (by have := hBz.size; omega) (hr.below hBz (Nat.le_refl _))).mono ?_
                rintro e1 wz ⟨rfl, hbz⟩
                go_wp2
                go_ret
                exact ⟨rfl, tr hBz hbz⟩
    · go_wp2_with fail
      refine (refHouse_any a _).mono ?_
      rintro e1 wx ⟨rfl, rfl⟩
      rw [hA1.out]
      go_wp2_with fail
      refine (refHouse_any b _).mono ?_
      rintro e1 wx ⟨rfl, rfl⟩
      rw [hB1.out]
      cases hp : outB 0 8 p with
      | true =>
        have e1 : ruledV p = [] := by unfold ruledV; rw [hp]; rfl
        have e2 : ruledE p = 3 := by unfold ruledE; rw [hp]; rfl
        rw [e1, e2]
        clear e1 e2 hqr3
        have hK := (known_any _ (by have := hB3.size; omega) (hr.below hB3 (Nat.le_refl _)))
        by_cases h0 : p < 0
        · clear hp
          go_wp2_with fail
          refine hK.mono ?_
          rintro e1 wz ⟨rfl, hbz⟩
          go_wp2
          go_ret
          exact ⟨rfl, tr hB3 hbz⟩
        · have h8 : 8 < p := by simp [outB] at hp; omega
          clear hp
          go_wp2_with fail
          refine hK.mono ?_
          rintro e1 wz ⟨rfl, hbz⟩
          go_wp2
          go_ret
          exact ⟨rfl, tr hB3 hbz⟩
      | false =>
        have HL := Lib.hid (ruledTo_all hp)
        have e2 : ruledE p = 0 := by unfold ruledE; rw [hp]; rfl
        have h0 : ¬ p < 0 := by simp [outB] at hp; omega
        have h8 : ¬ 8 < p := by simp [outB] at hp; omega
        rw [e2]
        clear e2 hp c0 c1 HM3
        rw [HL.out]
        rw [HL.out] at hqr3
        obtain ⟨i0, hi, hz0, hz1, hz2⟩ := info_parts info_figure
        obtain ⟨B0, hB0⟩ : ∃ B0, B0 = wx.heap.size := ⟨_, rfl⟩
        have HB0 := Lib.hid hB0
        clear hB0
        go_wp2
        go_loopw [14, 15] (fun l i wr => ∃ k : Nat, k ≤ 16 ∧ i = .int .i64 k ∧ wr.ownsRow B0 22 1 l (ruledTo p k).length ((ruledTo p k).map (Value.int .i64)) ∧ Below B0 wx wr) (fun _ i _ => 16 - (intOf i).toNat)
        case atStart => exact ⟨0, by omega, rfl, by rw [HB0.out]; exact empty_ownsF _, (Below.refl _ _).alloc (by rw [HB0.out]; exact Nat.le_refl _) _⟩
        case round =>
          obtain ⟨k, hk, rfl, hown, hB⟩ := hrel
          have hwr : 7 ≤ wr.heap.size := by have := hB3.size; have := hB.size; omega
          have hlen := ruledTo_len p k
          by_cases hlt : k < 16
          · have hfk : Fig (k : Int) := ⟨by omega, by omega⟩
            obtain ⟨R, hR⟩ : ∃ R, nth rulL (k : Int).toNat = R := ⟨_, rfl⟩
            have HR := Lib.hid hR
            have hR' : nth rulL k = R := by rw [← hR]; simp
            clear hR
            go_wp2_with fail
            refine (refRuler_any k hfk _ hwr).mono ?_
            rintro e1 w4 ⟨rfl, hb4⟩
            rw [HR.out]
            have hown2 := owns_below hown hb4
            have hB2 := hB.trans (hb4.mono (by have := hB.size; rw [HB0.out]; exact this))
            have hsz2 : B0 ≤ w4.heap.size := by have := hB2.size; rw [HB0.out]; exact this
            clear hb4 hown hB hfk hwr
            by_cases hq : R = p
            · subst hq
              have HQ := Lib.hid (ruledTo_yes hR')
              clear hR' HR
              go_wp2_with (at_builtin; refine wpList_append_own _ rfl _ _ 44 rfl B0 22 i0 (.int .i64 0) 1 8 Tryd.underlying44 hi hz0 hz1 hz2 rfl (by decide) _ (ruledTo R k).length _ rfl (hown2.alloc _) ⟨w4.heap.size, 0, none⟩ 1 1 [.int .i64 k] rfl rfl (news_at _ _ rfl) (one_int _) (by unfold maxLen; omega) (by omega) (by simp; omega) ?_)
              intro v2 w6 hown3 hg _
              have hB4 : Below B0 wx w6 := (hB2.alloc hsz2 _).grown hg (by simp; omega) (owns_base hown2)
              clear hg hown2 hB2
              go_wp2
              go_roundw
              case rel => exact ⟨k + 1, by omega, by go_num, by rw [HQ.out]; simpa using hown3, hB4⟩
              case measure => simp [intOf]; omega
            · have HQ := Lib.hid (ruledTo_no (p := p) (by rw [hR']; exact hq))
              have hqb : (R == p) = false := by simp [hq]
              clear hR' HR
              go_wp2
              go_roundw
              case rel => exact ⟨k + 1, by omega, by go_num, by rw [HQ.out]; exact hown2, hB2⟩
              case measure => simp [intOf]; omega
          · obtain rfl : k = 16 := by omega
            have hBw : Below w.heap.size w wr := hB3.trans (hB.mono (by have := hB3.size; rw [HB0.out]; exact this))
            have hqr4 := hqr3.below hB (by rw [HB0.out]; exact Nat.le_refl _)
            obtain ⟨q2, c2, rfl, hrd2⟩ := Got.of_owns hown
            clear hqr3 hown hlt hk
            generalize ruledTo p 16 = xs at *
            go_wp2
            go_loopw [16] (fun i wz => ∃ k : Nat, k ≤ xs.length ∧ i = .int .i64 k ∧ ∃ r, wz = wr.drewN r) (fun i _ => xs.length - (intOf i).toNat)
            case atStart => exact ⟨0, by omega, rfl, 0, rfl⟩
            case round =>
              obtain ⟨k, hk, rfl, r, rfl⟩ := hrel
              by_cases hlt : k < xs.length
              · obtain ⟨g, o, rfl, hcx⟩ := hqr4 k hlt
                obtain ⟨g', o', rfl, hcy⟩ := hrd2 k hlt
                go_wp2
                go_quiet (fail)
                go_wp2
                go_roundw
                case rel => exact ⟨k + 1, by omega, by go_num, _, rfl⟩
                case measure => simp [intOf]; omega
              · obtain rfl : k = xs.length := by omega
                have hBz := below_drewN hBw r
                go_wp2_with fail
                refine (known_any _ (by have := hBz.size; omega) (hr.below hBz (Nat.le_refl _))).mono ?_
                rintro e1 wz ⟨rfl, hbz⟩
                go_wp2
                go_ret
                exact ⟨rfl, tr hBz hbz⟩
    · go_wp2_with fail
      refine (refHouse_any a _).mono ?_
      rintro e1 wx ⟨rfl, rfl⟩
      rw [hA1.out]
      cases hp : outB 0 8 p with
      | true =>
        have e1 : ruledV p = [] := by unfold ruledV; rw [hp]; rfl
        have e2 : ruledE p = 3 := by unfold ruledE; rw [hp]; rfl
        rw [e1, e2]
        clear e1 e2 hqr3
        have hK := (known_any _ (by have := hB3.size; omega) (hr.below hB3 (Nat.le_refl _)))
        by_cases h0 : p < 0
        · clear hp
          go_wp2_with fail
          refine hK.mono ?_
          rintro e1 wz ⟨rfl, hbz⟩
          go_wp2
          go_ret
          exact ⟨rfl, tr hB3 hbz⟩
        · have h8 : 8 < p := by simp [outB] at hp; omega
          clear hp
          go_wp2_with fail
          refine hK.mono ?_
          rintro e1 wz ⟨rfl, hbz⟩
          go_wp2
          go_ret
          exact ⟨rfl, tr hB3 hbz⟩
      | false =>
        have HL := Lib.hid (ruledTo_all hp)
        have e2 : ruledE p = 0 := by unfold ruledE; rw [hp]; rfl
        have h0 : ¬ p < 0 := by simp [outB] at hp; omega
        have h8 : ¬ 8 < p := by simp [outB] at hp; omega
        rw [e2]
        clear e2 hp c0 c1 HM3
        rw [HL.out]
        rw [HL.out] at hqr3
        obtain ⟨i0, hi, hz0, hz1, hz2⟩ := info_parts info_figure
        obtain ⟨B0, hB0⟩ : ∃ B0, B0 = wx.heap.size := ⟨_, rfl⟩
        have HB0 := Lib.hid hB0
        clear hB0
        go_wp2
        go_loopw [14, 15] (fun l i wr => ∃ k : Nat, k ≤ 16 ∧ i = .int .i64 k ∧ wr.ownsRow B0 22 1 l (ruledTo p k).length ((ruledTo p k).map (Value.int .i64)) ∧ Below B0 wx wr) (fun _ i _ => 16 - (intOf i).toNat)
        case atStart => exact ⟨0, by omega, rfl, by rw [HB0.out]; exact empty_ownsF _, (Below.refl _ _).alloc (by rw [HB0.out]; exact Nat.le_refl _) _⟩
        case round =>
          obtain ⟨k, hk, rfl, hown, hB⟩ := hrel
          have hwr : 7 ≤ wr.heap.size := by have := hB3.size; have := hB.size; omega
          have hlen := ruledTo_len p k
          by_cases hlt : k < 16
          · have hfk : Fig (k : Int) := ⟨by omega, by omega⟩
            obtain ⟨R, hR⟩ : ∃ R, nth rulL (k : Int).toNat = R := ⟨_, rfl⟩
            have HR := Lib.hid hR
            have hR' : nth rulL k = R := by rw [← hR]; simp
            clear hR
            go_wp2_with fail
            refine (refRuler_any k hfk _ hwr).mono ?_
            rintro e1 w4 ⟨rfl, hb4⟩
            rw [HR.out]
            have hown2 := owns_below hown hb4
            have hB2 := hB.trans (hb4.mono (by have := hB.size; rw [HB0.out]; exact this))
            have hsz2 : B0 ≤ w4.heap.size := by have := hB2.size; rw [HB0.out]; exact this
            clear hb4 hown hB hfk hwr
            by_cases hq : R = p
            · subst hq
              have HQ := Lib.hid (ruledTo_yes hR')
              clear hR' HR
              go_wp2_with (at_builtin; refine wpList_append_own _ rfl _ _ 44 rfl B0 22 i0 (.int .i64 0) 1 8 Tryd.underlying44 hi hz0 hz1 hz2 rfl (by decide) _ (ruledTo R k).length _ rfl (hown2.alloc _) ⟨w4.heap.size, 0, none⟩ 1 1 [.int .i64 k] rfl rfl (news_at _ _ rfl) (one_int _) (by unfold maxLen; omega) (by omega) (by simp; omega) ?_)
              intro v2 w6 hown3 hg _
              have hB4 : Below B0 wx w6 := (hB2.alloc hsz2 _).grown hg (by simp; omega) (owns_base hown2)
              clear hg hown2 hB2
              go_wp2
              go_roundw
              case rel => exact ⟨k + 1, by omega, by go_num, by rw [HQ.out]; simpa using hown3, hB4⟩
              case measure => simp [intOf]; omega
            · have HQ := Lib.hid (ruledTo_no (p := p) (by rw [hR']; exact hq))
              have hqb : (R == p) = false := by simp [hq]
              clear hR' HR
              go_wp2
              go_roundw
              case rel => exact ⟨k + 1, by omega, by go_num, by rw [HQ.out]; exact hown2, hB2⟩
              case measure => simp [intOf]; omega
          · obtain rfl : k = 16 := by omega
            have hBw : Below w.heap.size w wr := hB3.trans (hB.mono (by have := hB3.size; rw [HB0.out]; exact this))
            have hqr4 := hqr3.below hB (by rw [HB0.out]; exact Nat.le_refl _)
            obtain ⟨q2, c2, rfl, hrd2⟩ := Got.of_owns hown
            clear hqr3 hown hlt hk
            generalize ruledTo p 16 = xs at *
            go_wp2
            go_loopw [16] (fun i wz => ∃ k : Nat, k ≤ xs.length ∧ i = .int .i64 k ∧ ∃ r, wz = wr.drewN r) (fun i _ => xs.length - (intOf i).toNat)
            case atStart => exact ⟨0, by omega, rfl, 0, rfl⟩
            case round =>
              obtain ⟨k, hk, rfl, r, rfl⟩ := hrel
              by_cases hlt : k < xs.length
              · obtain ⟨g, o, rfl, hcx⟩ := hqr4 k hlt
                obtain ⟨g', o', rfl, hcy⟩ := hrd2 k hlt
                go_wp2
                go_quiet (fail)
                go_wp2
                go_roundw
                case rel => exact ⟨k + 1, by omega, by go_num, _, rfl⟩
                case measure => simp [intOf]; omega
              · obtain rfl : k = xs.length := by omega
                have hBz := below_drewN hBw r
                go_wp2_with fail
                refine (known_any _ (by have := hBz.size; omega) (hr.below hBz (Nat.le_refl _))).mono ?_
                rintro e1 wz ⟨rfl, hbz⟩
                go_wp2
                go_ret
                exact ⟨rfl, tr hBz hbz⟩
  · go_wp2_with fail
    refine (refFigure_any f _).mono ?_
    rintro e1 wx ⟨rfl, rfl⟩
    rw [HF.out]
    go_wp2_with fail
    refine (refFigure_any f _).mono ?_
    rintro e1 wx ⟨rfl, rfl⟩
    rw [HF.out]
    rcases hD with ⟨rfl, hA1, hB1, hOa, hOb, hAp⟩ | ⟨rfl, rfl, hA1, hB1⟩ | ⟨rfl, rfl, hA1⟩
    · go_wp2_with fail
      refine (refHouse_any a _).mono ?_
      rintro e1 wx ⟨rfl, rfl⟩
      rw [hA1.out]
      go_wp2_with fail
      refine (refHouse_any b _).mono ?_
      rintro e1 wx ⟨rfl, rfl⟩
      rw [hB1.out]
      go_wp2_with fail
      refine (refApart_any a b hOa.out hOb.out _ (by have := hB3.size; omega)).mono ?_
      rintro e1 wx ⟨rfl, hbx⟩
      rw [hAp.out]
      have HM3 := Lib.hid (HM3.out.below hbx HM3.out.lt)
      have hB3 := tr hB3 hbx
      have hqr3 := hqr3.below hbx (Nat.le_refl _)
      replace c0 := cell_tr hbx c0
      replace c1 := cell_tr hbx c1
      clear hbx
      cases hp : outB 0 8 p with
      | true =>
        have e1 : ruledV p = [] := by unfold ruledV; rw [hp]; rfl
        have e2 : ruledE p = 3 := by unfold ruledE; rw [hp]; rfl
        rw [e1, e2]
        clear e1 e2 hqr3
        have hK := (known_any _ (by have := hB3.size; omega) (hr.below hB3 (Nat.le_refl _)))
        by_cases h0 : p < 0
        · clear hp
          go_wp2_with fail
          refine hK.mono ?_
          rintro e1 wz ⟨rfl, hbz⟩
          go_wp2
          go_ret
          exact ⟨rfl, tr hB3 hbz⟩
        · have h8 : 8 < p := by simp [outB] at hp; omega
          clear hp
          go_wp2_with fail
          refine hK.mono ?_
          rintro e1 wz ⟨rfl, hbz⟩
          go_wp2
          go_ret
          exact ⟨rfl, tr hB3 hbz⟩
      | false =>
        have HL := Lib.hid (ruledTo_all hp)
        have e2 : ruledE p = 0 := by unfold ruledE; rw [hp]; rfl
        have h0 : ¬ p < 0 := by simp [outB] at hp; omega
        have h8 : ¬ 8 < p := by simp [outB] at hp; omega
        rw [e2]
        clear e2 hp c0 c1 HM3
        rw [HL.out]
        rw [HL.out] at hqr3
        obtain ⟨i0, hi, hz0, hz1, hz2⟩ := info_parts info_figure
        obtain ⟨B0, hB0⟩ : ∃ B0, B0 = wx.heap.size := ⟨_, rfl⟩
        have HB0 := Lib.hid hB0
        clear hB0
        go_wp2
        go_loopw [14, 15] (fun l i wr => ∃ k : Nat, k ≤ 16 ∧ i = .int .i64 k ∧ wr.ownsRow B0 22 1 l (ruledTo p k).length ((ruledTo p k).map (Value.int .i64)) ∧ Below B0 wx wr) (fun _ i _ => 16 - (intOf i).toNat)
        case atStart => exact ⟨0, by omega, rfl, by rw [HB0.out]; exact empty_ownsF _, (Below.refl _ _).alloc (by rw [HB0.out]; exact Nat.le_refl _) _⟩
        case round =>
          obtain ⟨k, hk, rfl, hown, hB⟩ := hrel
          have hwr : 7 ≤ wr.heap.size := by have := hB3.size; have := hB.size; omega
          have hlen := ruledTo_len p k
          by_cases hlt : k < 16
          · have hfk : Fig (k : Int) := ⟨by omega, by omega⟩
            obtain ⟨R, hR⟩ : ∃ R, nth rulL (k : Int).toNat = R := ⟨_, rfl⟩
            have HR := Lib.hid hR
            have hR' : nth rulL k = R := by rw [← hR]; simp
            clear hR
            go_wp2_with fail
            refine (refRuler_any k hfk _ hwr).mono ?_
            rintro e1 w4 ⟨rfl, hb4⟩
            rw [HR.out]
            have hown2 := owns_below hown hb4
            have hB2 := hB.trans (hb4.mono (by have := hB.size; rw [HB0.out]; exact this))
            have hsz2 : B0 ≤ w4.heap.size := by have := hB2.size; rw [HB0.out]; exact this
            clear hb4 hown hB hfk hwr
            by_cases hq : R = p
            · subst hq
              have HQ := Lib.hid (ruledTo_yes hR')
              clear hR' HR
              go_wp2_with (at_builtin; refine wpList_append_own _ rfl _ _ 44 rfl B0 22 i0 (.int .i64 0) 1 8 Tryd.underlying44 hi hz0 hz1 hz2 rfl (by decide) _ (ruledTo R k).length _ rfl (hown2.alloc _) ⟨w4.heap.size, 0, none⟩ 1 1 [.int .i64 k] rfl rfl (news_at _ _ rfl) (one_int _) (by unfold maxLen; omega) (by omega) (by simp; omega) ?_)
              intro v2 w6 hown3 hg _
              have hB4 : Below B0 wx w6 := (hB2.alloc hsz2 _).grown hg (by simp; omega) (owns_base hown2)
              clear hg hown2 hB2
              go_wp2
              go_roundw
              case rel => exact ⟨k + 1, by omega, by go_num, by rw [HQ.out]; simpa using hown3, hB4⟩
              case measure => simp [intOf]; omega
            · have HQ := Lib.hid (ruledTo_no (p := p) (by rw [hR']; exact hq))
              have hqb : (R == p) = false := by simp [hq]
              clear hR' HR
              go_wp2
              go_roundw
              case rel => exact ⟨k + 1, by omega, by go_num, by rw [HQ.out]; exact hown2, hB2⟩
              case measure => simp [intOf]; omega
          · obtain rfl : k = 16 := by omega
            have hBw : Below w.heap.size w wr := hB3.trans (hB.mono (by have := hB3.size; rw [HB0.out]; exact this))
            have hqr4 := hqr3.below hB (by rw [HB0.out]; exact Nat.le_refl _)
            obtain ⟨q2, c2, rfl, hrd2⟩ := Got.of_owns hown
            clear hqr3 hown hlt hk
            generalize ruledTo p 16 = xs at *
            go_wp2
            go_loopw [16] (fun i wz => ∃ k : Nat, k ≤ xs.length ∧ i = .int .i64 k ∧ ∃ r, wz = wr.drewN r) (fun i _ => xs.length - (intOf i).toNat)
            case atStart => exact ⟨0, by omega, rfl, 0, rfl⟩
            case round =>
              obtain ⟨k, hk, rfl, r, rfl⟩ := hrel
              by_cases hlt : k < xs.length
              · obtain ⟨g, o, rfl, hcx⟩ := hqr4 k hlt
                obtain ⟨g', o', rfl, hcy⟩ := hrd2 k hlt
                go_wp2
                go_quiet (fail)
                go_wp2
                go_roundw
                case rel => exact ⟨k + 1, by omega, by go_num, _, rfl⟩
                case measure => simp [intOf]; omega
              · obtain rfl : k = xs.length := by omega
                have hBz := below_drewN hBw r
                go_wp2_with fail
                refine (known_any _ (by have := hBz.size; omega) (hr.below hBz (Nat.le_refl _))).mono ?_
                rintro e1 wz ⟨rfl, hbz⟩
                go_wp2
                go_ret
                exact ⟨rfl, tr hBz hbz⟩
    · go_wp2_with fail
      refine (refHouse_any a _).mono ?_
      rintro e1 wx ⟨rfl, rfl⟩
      rw [hA1.out]
      go_wp2_with fail
      refine (refHouse_any b _).mono ?_
      rintro e1 wx ⟨rfl, rfl⟩
      rw [hB1.out]
      cases hp : outB 0 8 p with
      | true =>
        have e1 : ruledV p = [] := by unfold ruledV; rw [hp]; rfl
        have e2 : ruledE p = 3 := by unfold ruledE; rw [hp]; rfl
        rw [e1, e2]
        clear e1 e2 hqr3
        have hK := (known_any _ (by have := hB3.size; omega) (hr.below hB3 (Nat.le_refl _)))
        by_cases h0 : p < 0
        · clear hp
          go_wp2_with fail
          refine hK.mono ?_
          rintro e1 wz ⟨rfl, hbz⟩
          go_wp2
          go_ret
          exact ⟨rfl, tr hB3 hbz⟩
        · have h8 : 8 < p := by simp [outB] at hp; omega
          clear hp
          go_wp2_with fail
          refine hK.mono ?_
          rintro e1 wz ⟨rfl, hbz⟩
          go_wp2
          go_ret
          exact ⟨rfl, tr hB3 hbz⟩
      | false =>
        have HL := Lib.hid (ruledTo_all hp)
        have e2 : ruledE p = 0 := by unfold ruledE; rw [hp]; rfl
        have h0 : ¬ p < 0 := by simp [outB] at hp; omega
        have h8 : ¬ 8 < p := by simp [outB] at hp; omega
        rw [e2]
        clear e2 hp c0 c1 HM3
        rw [HL.out]
        rw [HL.out] at hqr3
        obtain ⟨i0, hi, hz0, hz1, hz2⟩ := info_parts info_figure
        obtain ⟨B0, hB0⟩ : ∃ B0, B0 = w3.heap.size := ⟨_, rfl⟩
        have HB0 := Lib.hid hB0
        clear hB0
        go_wp2
        go_loopw [14, 15] (fun l i wr => ∃ k : Nat, k ≤ 16 ∧ i = .int .i64 k ∧ wr.ownsRow B0 22 1 l (ruledTo p k).length ((ruledTo p k).map (Value.int .i64)) ∧ Below B0 w3 wr) (fun _ i _ => 16 - (intOf i).toNat)
        case atStart => exact ⟨0, by omega, rfl, by rw [HB0.out]; exact empty_ownsF _, (Below.refl _ _).alloc (by rw [HB0.out]; exact Nat.le_refl _) _⟩
        case round =>
          obtain ⟨k, hk, rfl, hown, hB⟩ := hrel
          have hwr : 7 ≤ wr.heap.size := by have := hB3.size; have := hB.size; omega
          have hlen := ruledTo_len p k
          by_cases hlt : k < 16
          · have hfk : Fig (k : Int) := ⟨by omega, by omega⟩
            obtain ⟨R, hR⟩ : ∃ R, nth rulL (k : Int).toNat = R := ⟨_, rfl⟩
            have HR := Lib.hid hR
            have hR' : nth rulL k = R := by rw [← hR]; simp
            clear hR
            go_wp2_with fail
            refine (refRuler_any k hfk _ hwr).mono ?_
            rintro e1 w4 ⟨rfl, hb4⟩
            rw [HR.out]
            have hown2 := owns_below hown hb4
            have hB2 := hB.trans (hb4.mono (by have := hB.size; rw [HB0.out]; exact this))
            have hsz2 : B0 ≤ w4.heap.size := by have := hB2.size; rw [HB0.out]; exact this
            clear hb4 hown hB hfk hwr
            by_cases hq : R = p
            · subst hq
              have HQ := Lib.hid (ruledTo_yes hR')
              clear hR' HR
              go_wp2_with (at_builtin; refine wpList_append_own _ rfl _ _ 44 rfl B0 22 i0 (.int .i64 0) 1 8 Tryd.underlying44 hi hz0 hz1 hz2 rfl (by decide) _ (ruledTo R k).length _ rfl (hown2.alloc _) ⟨w4.heap.size, 0, none⟩ 1 1 [.int .i64 k] rfl rfl (news_at _ _ rfl) (one_int _) (by unfold maxLen; omega) (by omega) (by simp; omega) ?_)
              intro v2 w6 hown3 hg _
              have hB4 : Below B0 w3 w6 := (hB2.alloc hsz2 _).grown hg (by simp; omega) (owns_base hown2)
              clear hg hown2 hB2
              go_wp2
              go_roundw
              case rel => exact ⟨k + 1, by omega, by go_num, by rw [HQ.out]; simpa using hown3, hB4⟩
              case measure => simp [intOf]; omega
            · have HQ := Lib.hid (ruledTo_no (p := p) (by rw [hR']; exact hq))
              have hqb : (R == p) = false := by simp [hq]
              clear hR' HR
              go_wp2
              go_roundw
              case rel => exact ⟨k + 1, by omega, by go_num, by rw [HQ.out]; exact hown2, hB2⟩
              case measure => simp [intOf]; omega
          · obtain rfl : k = 16 := by omega
            have hBw : Below w.heap.size w wr := hB3.trans (hB.mono (by have := hB3.size; rw [HB0.out]; exact this))
            have hqr4 := hqr3.below hB (by rw [HB0.out]; exact Nat.le_refl _)
            obtain ⟨q2, c2, rfl, hrd2⟩ := Got.of_owns hown
            clear hqr3 hown hlt hk
            generalize ruledTo p 16 = xs at *
            go_wp2
            go_loopw [16] (fun i wz => ∃ k : Nat, k ≤ xs.length ∧ i = .int .i64 k ∧ ∃ r, wz = wr.drewN r) (fun i _ => xs.length - (intOf i).toNat)
            case atStart => exact ⟨0, by omega, rfl, 0, rfl⟩
            case round =>
              obtain ⟨k, hk, rfl, r, rfl⟩ := hrel
              by_cases hlt : k < xs.length
              · obtain ⟨g, o, rfl, hcx⟩ := hqr4 k hlt
                obtain ⟨g', o', rfl, hcy⟩ := hrd2 k hlt
                go_wp2
                go_quiet (fail)
                go_wp2
                go_roundw
                case rel => exact ⟨k + 1, by omega, by go_num, _, rfl⟩
                case measure => simp [intOf]; omega
              · obtain rfl : k = xs.length := by omega
                have hBz := below_drewN hBw r
                go_wp2_with fail
                refine (known_any _ (by have := hBz.size; omega) (hr.below hBz (Nat.le_refl _))).mono ?_
                rintro e1 wz ⟨rfl, hbz⟩
                go_wp2
                go_ret
                exact ⟨rfl, tr hBz hbz⟩
    · go_wp2_with fail
      refine (refHouse_any a _).mono ?_
      rintro e1 wx ⟨rfl, rfl⟩
      rw [hA1.out]
      cases hp : outB 0 8 p with
      | true =>
        have e1 : ruledV p = [] := by unfold ruledV; rw [hp]; rfl
        have e2 : ruledE p = 3 := by unfold ruledE; rw [hp]; rfl
        rw [e1, e2]
        clear e1 e2 hqr3
        have hK := (known_any _ (by have := hB3.size; omega) (hr.below hB3 (Nat.le_refl _)))
        by_cases h0 : p < 0
        · clear hp
          go_wp2_with fail
          refine hK.mono ?_
          rintro e1 wz ⟨rfl, hbz⟩
          go_wp2
          go_ret
          exact ⟨rfl, tr hB3 hbz⟩
        · have h8 : 8 < p := by simp [outB] at hp; omega
          clear hp
          go_wp2_with fail
          refine hK.mono ?_
          rintro e1 wz ⟨rfl, hbz⟩
          go_wp2
          go_ret
          exact ⟨rfl, tr hB3 hbz⟩
      | false =>
        have HL := Lib.hid (ruledTo_all hp)
        have e2 : ruledE p = 0 := by unfold ruledE; rw [hp]; rfl
        have h0 : ¬ p < 0 := by simp [outB] at hp; omega
        have h8 : ¬ 8 < p := by simp [outB] at hp; omega
        rw [e2]
        clear e2 hp c0 c1 HM3
        rw [HL.out]
        rw [HL.out] at hqr3
        obtain ⟨i0, hi, hz0, hz1, hz2⟩ := info_parts info_figure
        obtain ⟨B0, hB0⟩ : ∃ B0, B0 = w3.heap.size := ⟨_, rfl⟩
        have HB0 := Lib.hid hB0
        clear hB0
        go_wp2
        go_loopw [14, 15] (fun l i wr => ∃ k : Nat, k ≤ 16 ∧ i = .int .i64 k ∧ wr.ownsRow B0 22 1 l (ruledTo p k).length ((ruledTo p k).map (Value.int .i64)) ∧ Below B0 w3 wr) (fun _ i _ => 16 - (intOf i).toNat)
        case atStart => exact ⟨0, by omega, rfl, by rw [HB0.out]; exact empty_ownsF _, (Below.refl _ _).alloc (by rw [HB0.out]; exact Nat.le_refl _) _⟩
        case round =>
          obtain ⟨k, hk, rfl, hown, hB⟩ := hrel
          have hwr : 7 ≤ wr.heap.size := by have := hB3.size; have := hB.size; omega
          have hlen := ruledTo_len p k
          by_cases hlt : k < 16
          · have hfk : Fig (k : Int) := ⟨by omega, by omega⟩
            obtain ⟨R, hR⟩ : ∃ R, nth rulL (k : Int).toNat = R := ⟨_, rfl⟩
            have HR := Lib.hid hR
            have hR' : nth rulL k = R := by rw [← hR]; simp
            clear hR
            go_wp2_with fail
            refine (refRuler_any k hfk _ hwr).mono ?_
            rintro e1 w4 ⟨rfl, hb4⟩
            rw [HR.out]
            have hown2 := owns_below hown hb4
            have hB2 := hB.trans (hb4.mono (by have := hB.size; rw [HB0.out]; exact this))
            have hsz2 : B0 ≤ w4.heap.size := by have := hB2.size; rw [HB0.out]; exact this
            clear hb4 hown hB hfk hwr
            by_cases hq : R = p
            · subst hq
              have HQ := Lib.hid (ruledTo_yes hR')
              clear hR' HR
              go_wp2_with (at_builtin; refine wpList_append_own _ rfl _ _ 44 rfl B0 22 i0 (.int .i64 0) 1 8 Tryd.underlying44 hi hz0 hz1 hz2 rfl (by decide) _ (ruledTo R k).length _ rfl (hown2.alloc _) ⟨w4.heap.size, 0, none⟩ 1 1 [.int .i64 k] rfl rfl (news_at _ _ rfl) (one_int _) (by unfold maxLen; omega) (by omega) (by simp; omega) ?_)
              intro v2 w6 hown3 hg _
              have hB4 : Below B0 w3 w6 := (hB2.alloc hsz2 _).grown hg (by simp; omega) (owns_base hown2)
              clear hg hown2 hB2
              go_wp2
              go_roundw
              case rel => exact ⟨k + 1, by omega, by go_num, by rw [HQ.out]; simpa using hown3, hB4⟩
              case measure => simp [intOf]; omega
            · have HQ := Lib.hid (ruledTo_no (p := p) (by rw [hR']; exact hq))
              have hqb : (R == p) = false := by simp [hq]
              clear hR' HR
              go_wp2
              go_roundw
              case rel => exact ⟨k + 1, by omega, by go_num, by rw [HQ.out]; exact hown2, hB2⟩
              case measure => simp [intOf]; omega
          · obtain rfl : k = 16 := by omega
            have hBw : Below w.heap.size w wr := hB3.trans (hB.mono (by have := hB3.size; rw [HB0.out]; exact this))
            have hqr4 := hqr3.below hB (by rw [HB0.out]; exact Nat.le_refl _)
            obtain ⟨q2, c2, rfl, hrd2⟩ := Got.of_owns hown
            clear hqr3 hown hlt hk
            generalize ruledTo p 16 = xs at *
            go_wp2
            go_loopw [16] (fun i wz => ∃ k : Nat, k ≤ xs.length ∧ i = .int .i64 k ∧ ∃ r, wz = wr.drewN r) (fun i _ => xs.length - (intOf i).toNat)
            case atStart => exact ⟨0, by omega, rfl, 0, rfl⟩
            case round =>
              obtain ⟨k, hk, rfl, r, rfl⟩ := hrel
              by_cases hlt : k < xs.length
              · obtain ⟨g, o, rfl, hcx⟩ := hqr4 k hlt
                obtain ⟨g', o', rfl, hcy⟩ := hrd2 k hlt
                go_wp2
                go_quiet (fail)
                go_wp2
                go_roundw
                case rel => exact ⟨k + 1, by omega, by go_num, _, rfl⟩
                case measure => simp [intOf]; omega
              · obtain rfl : k = xs.length := by omega
                have hBz := below_drewN hBw r
                go_wp2_with fail
                refine (known_any _ (by have := hBz.size; omega) (hr.below hBz (Nat.le_refl _))).mono ?_
                rintro e1 wz ⟨rfl, hbz⟩
                go_wp2
                go_ret
                exact ⟨rfl, tr hBz hbz⟩
end Go.Proofs.YtojlopfjhhiilaaDoor
