/-
  What Both, Not and Either of the reference return, for every two chances.
-/
import Derived.Test.YtnpnnfbmnlgioaaCg
namespace Go.Proofs.Ytnpnnfbmnlgioaa
open Go.RowKit
set_option linter.unusedVariables false

def eG (ad bd : Int) : Int := Int.gcd ad bd
def eNum (an ad bn bd : Int) : Int := an * (bd / eG ad bd) + bn * (ad / eG ad bd)
def eBy (an ad bn bd : Int) : Int := Int.gcd (eNum an ad bn bd % eG ad bd) (eG ad bd)
/-- What Either returns. -/
def sEither (an ad bn bd : Int) : Int × Int × Int :=
  if badC an ad = true ∨ badC bn bd = true then (0, 0, 2)
  else if ad * (bd / eG ad bd) < eNum an ad bn bd then (0, 0, 3)
  else if 1000000000000000 < ad / eG ad bd * (bd / eBy an ad bn bd) then (0, 0, 10)
  else (eNum an ad bn bd / eBy an ad bn bd, ad / eG ad bd * (bd / eBy an ad bn bd), 0)

/-- The facts that an addition of two valid chances stands on. -/
structure EFacts (an ad bn bd g p q num h G : Int) : Prop where
  g1 : 1 ≤ g
  gle : g ≤ bd
  ap : ad = g * p
  bq : bd = g * q
  p1 : 1 ≤ p
  q1 : 1 ≤ q
  nm : num = an * q + bn * p
  h1 : 1 ≤ h
  hG : g = h * G
  G1 : 1 ≤ G
  hd : h ∣ num
  bh : bd / h = q * G
  hle : h ≤ g

theorem eFacts {an ad bn bd : Int} (ha : badC an ad = false) (hb : badC bn bd = false) :
    EFacts an ad bn bd (eG ad bd) (ad / eG ad bd) (bd / eG ad bd) (eNum an ad bn bd) (eBy an ad bn bd) (eG ad bd / eBy an ad bn bd) := by
  obtain ⟨a1, a2, a3, a4, _⟩ := badC_ok ha
  obtain ⟨b1, b2, b3, b4, _⟩ := badC_ok hb
  have g1 : 1 ≤ eG ad bd := gcd_pos b1
  have d1 : eG ad bd ∣ ad := Int.gcd_dvd_left ..
  have d2 : eG ad bd ∣ bd := Int.gcd_dvd_right ..
  have h1 : 1 ≤ eBy an ad bn bd := gcd_pos g1
  have k1 : eBy an ad bn bd ∣ eG ad bd := Int.gcd_dvd_right ..
  have k2 : eBy an ad bn bd ∣ eNum an ad bn bd % eG ad bd := Int.gcd_dvd_left ..
  have k3 : eBy an ad bn bd ∣ eNum an ad bn bd := by
    have := Int.mul_ediv_add_emod (eNum an ad bn bd) (eG ad bd)
    rw [← this]
    exact Int.dvd_add (Int.dvd_trans k1 (Int.dvd_mul_right _ _)) k2
  have e1 : ad = eG ad bd * (ad / eG ad bd) := (Int.mul_ediv_cancel' d1).symm
  have e2 : bd = eG ad bd * (bd / eG ad bd) := (Int.mul_ediv_cancel' d2).symm
  have e3 : eG ad bd = eBy an ad bn bd * (eG ad bd / eBy an ad bn bd) := (Int.mul_ediv_cancel' k1).symm
  refine ⟨g1, Int.le_of_dvd (by omega) d2, e1, e2, ?_, ?_, rfl, h1, e3, ?_, k3, ?_, Int.le_of_dvd (by omega) k1⟩
  · exact (Int.le_ediv_iff_mul_le (by omega)).2 (by have := Int.le_of_dvd (by omega) d1; omega)
  · exact (Int.le_ediv_iff_mul_le (by omega)).2 (by have := Int.le_of_dvd (by omega) d2; omega)
  · exact (Int.le_ediv_iff_mul_le (by omega)).2 (by have := Int.le_of_dvd (by omega) k1; omega)
  · generalize bd / eG ad bd = q at *
    generalize eG ad bd / eBy an ad bn bd = G at *
    generalize eBy an ad bn bd = h at *
    rw [e2, e3, Int.mul_assoc, Int.mul_ediv_cancel_left _ (by omega), Int.mul_comm]

theorem refNot_any (n d : Int) (w : World) :
    Calls Try.prog 13 #[.agg #[.int .i64 n, .int .i64 d]] w fun e w' => e = .returned (.tuple #[.agg #[.int .i64 (if badC n d = true then 0 else d - n), .int .i64 (if badC n d = true then 0 else d)], .int .i64 (if badC n d = true then 2 else 0)]) ∧ Below w.heap.size w w' := by
  by_cases h : badC n d = true
  · simp only [h, if_true]; exact refNot_bad n d w h
  · have h' : badC n d = false := by simpa using h
    simp only [h', Bool.false_eq_true, if_false]; exact refNot_ok n d w h'

theorem refBoth_any (an ad bn bd : Int) (w : World) :
    Calls Try.prog 12 #[.agg #[.int .i64 an, .int .i64 ad], .agg #[.int .i64 bn, .int .i64 bd]] w fun e w' => e = .returned (.tuple #[.agg #[.int .i64 (sBoth an ad bn bd).1, .int .i64 (sBoth an ad bn bd).2.1], .int .i64 (sBoth an ad bn bd).2.2]) ∧ Below w.heap.size w w' := by
  by_cases h : badC an ad = true ∨ badC bn bd = true
  · unfold sBoth; rw [if_pos h]; exact refBoth_bad an ad bn bd w h
  · have ha : badC an ad = false := by simpa using fun e => h (.inl e)
    have hb : badC bn bd = false := by simpa using fun e => h (.inr e)
    refine refBoth_main an ad bn bd w ha hb _ _ _ _ _ _ _ _ _ rfl rfl rfl rfl rfl rfl ?_ ?_
    · intro hv
      rw [Int.mul_comm] at hv
      unfold sBoth; rw [if_neg h, if_pos hv]; exact ⟨rfl, rfl, rfl⟩
    · intro hv
      rw [Int.mul_comm] at hv
      unfold sBoth; rw [if_neg h, if_neg (by omega)]; exact ⟨rfl, Int.mul_comm _ _, rfl⟩
set_option maxRecDepth 100000 in
set_option maxHeartbeats 4000000 in
theorem refEither_bad (an ad bn bd : Int) (w : World) (h : badC an ad = true ∨ badC bn bd = true) :
    Calls Try.prog 14 #[.agg #[.int .i64 an, .int .i64 ad], .agg #[.int .i64 bn, .int .i64 bd]] w fun e w' => e = .returned (.tuple #[.agg #[.int .i64 0, .int .i64 0], .int .i64 2]) ∧ Below w.heap.size w w' := by
  have hA := fun w => refChance_ok an ad w
  have hB := fun w => refChance_ok bn bd w
  have y0 : Fr (((w.alloc (.cells #[.int .i64 an, .int .i64 ad] 23)).alloc (.cells #[.int .i64 bn, .int .i64 bd] 23)).alloc (.cells #[.int .i64 0, .int .i64 0] 23)) (w.heap.size + 1 + 1) 0 0 := by have := Fr.new ((w.alloc (.cells #[.int .i64 an, .int .i64 ad] 23)).alloc (.cells #[.int .i64 bn, .int .i64 bd] 23)) 0 0 23; simpa using this
  have z0 : Fr (((w.alloc (.cells #[.int .i64 an, .int .i64 ad] 23)).alloc (.cells #[.int .i64 bn, .int .i64 bd] 23)).alloc (.cells #[.int .i64 0, .int .i64 0] 23)) (w.heap.size + 1) bn bd := by have := (Fr.new (w.alloc (.cells #[.int .i64 an, .int .i64 ad] 23)) bn bd 23).tr (below1 _ (.cells #[.int .i64 0, .int .i64 0] 23)); simpa using this
  by_cases h1 : badC an ad = true
  · rw [h1] at hA
    clear h h1 hB
    go_enter Try.func14, Try.ntmps14
    go_wp2_with fail
    go_call (hA _) as e w1 ⟨rfl, hb1⟩
    have hB1 : Below w.heap.size w w1 := (((below1 _ _).alloc (by simp) _).alloc (by simp; omega) _).trans (hb1.mono (by simp; omega))
    obtain ⟨g0, g1, f0, f1⟩ := y0.tr hb1
    clear y0 z0
    go_wp2
    have r0 := put0 (.int .i64 0) g0
    have r1 := put1 (.int .i64 0) (.int .i64 0) g1
    refine bodyPost_ret (v := .tuple #[.agg #[.int .i64 0, .int .i64 0], .int .i64 2]) (by simp [results, Try.results14, go_sem, r0, r1]) rfl ⟨rfl, ?_⟩
    exact (hB1.setCell (p := ⟨w.heap.size + 1 + 1, 0, none⟩) (by simp; omega) _).setCell (p := ⟨w.heap.size + 1 + 1, 1, none⟩) (by simp; omega) _
  · have h1' : badC an ad = false := by simpa using h1
    have h2 : badC bn bd = true := h.resolve_left h1
    rw [h1'] at hA
    rw [h2] at hB
    clear h h1 h1' h2
    go_enter Try.func14, Try.ntmps14
    go_wp2_with fail
    go_call (hA _) as e w1 ⟨rfl, hb1⟩
    have hB1 : Below w.heap.size w w1 := (((below1 _ _).alloc (by simp) _).alloc (by simp; omega) _).trans (hb1.mono (by simp; omega))
    have y1 := y0.tr hb1
    obtain ⟨c0, c1, _, _⟩ := z0.tr hb1
    clear y0 z0
    go_wp2_with fail
    go_call (hB _) as e w2 ⟨rfl, hb2⟩
    have hB2 := tr hB1 hb2
    obtain ⟨g0, g1, f0, f1⟩ := y1.tr hb2
    clear y1
    go_wp2
    have r0 := put0 (.int .i64 0) g0
    have r1 := put1 (.int .i64 0) (.int .i64 0) g1
    refine bodyPost_ret (v := .tuple #[.agg #[.int .i64 0, .int .i64 0], .int .i64 2]) (by simp [results, Try.results14, go_sem, r0, r1]) rfl ⟨rfl, ?_⟩
    exact (hB2.setCell (p := ⟨w.heap.size + 1 + 1, 0, none⟩) (by simp; omega) _).setCell (p := ⟨w.heap.size + 1 + 1, 1, none⟩) (by simp; omega) _

theorem refEither_any (an ad bn bd : Int) (w : World) :
    Calls Try.prog 14 #[.agg #[.int .i64 an, .int .i64 ad], .agg #[.int .i64 bn, .int .i64 bd]] w fun e w' => e = .returned (.tuple #[.agg #[.int .i64 (sEither an ad bn bd).1, .int .i64 (sEither an ad bn bd).2.1], .int .i64 (sEither an ad bn bd).2.2]) ∧ Below w.heap.size w w' := by
  by_cases hbad : badC an ad = true ∨ badC bn bd = true
  · unfold sEither; rw [if_pos hbad]; exact refEither_bad an ad bn bd w hbad
  · have ha : badC an ad = false := by simpa using fun e => hbad (.inl e)
    have hb : badC bn bd = false := by simpa using fun e => hbad (.inr e)
    have F := eFacts ha hb
    obtain ⟨a1, a2, a3, a4, _⟩ := badC_ok ha
    obtain ⟨b1, b2, b3, b4, _⟩ := badC_ok hb
    have hA := fun w => refChance_ok an ad w
    have hB := fun w => refChance_ok bn bd w
    rw [ha] at hA
    rw [hb] at hB
    have hN := fun w => refNot_ok bn bd w hb
    have hs : sEither an ad bn bd = if ad * (bd / eG ad bd) < eNum an ad bn bd then (0, 0, 3)
      else if 1000000000000000 < ad / eG ad bd * (bd / eBy an ad bn bd) then (0, 0, 10)
      else (eNum an ad bn bd / eBy an ad bn bd, ad / eG ad bd * (bd / eBy an ad bn bd), 0) := by unfold sEither; rw [if_neg hbad]
    rw [hs]
    clear hs hbad
    have hC := fun w => refCompare_ok an ad (bd - bn) bd w a3 (by omega) (by omega) (by omega) a1 a2 b1 b2
    have hg : (Int.gcd ad bd : Int) = eG ad bd := rfl
    have hby : (Int.gcd (eNum an ad bn bd % eG ad bd) (eG ad bd) : Int) = eBy an ad bn bd := rfl
    have hG := fun w => refDivisor_any ad bd w (by omega) (by omega) (by omega) (by omega)
    rw [hg] at hG
    obtain ⟨g, eg⟩ : ∃ g, eG ad bd = g := ⟨_, rfl⟩
    obtain ⟨p, ep⟩ : ∃ p, ad / eG ad bd = p := ⟨_, rfl⟩
    obtain ⟨q, eq⟩ : ∃ q, bd / eG ad bd = q := ⟨_, rfl⟩
    obtain ⟨num, en⟩ : ∃ x, eNum an ad bn bd = x := ⟨_, rfl⟩
    obtain ⟨h, eh⟩ : ∃ x, eBy an ad bn bd = x := ⟨_, rfl⟩
    obtain ⟨G, eGG⟩ : ∃ x, eG ad bd / eBy an ad bn bd = x := ⟨_, rfl⟩
    rw [ep, eq, en, eGG, eh, eg] at F
    rw [en, eg, eh] at hby
    rw [ep, eq, en, eh]
    rw [eg] at hG ep eq eGG
    rw [eh] at eGG
    clear en eh eg hg
    obtain ⟨g1, gle, ap, bq, p1, q1, nm, h1, hGe, G1, hd, bh, hle⟩ := F
    have E1 : Hid (IntKind.i64.wrap (ad.tdiv g) = p ∧ IntKind.i64.wrap (bd.tdiv g) = q) := ⟨by rw [← ep]; exact wdiv (by omega) (by omega) g1, by rw [← eq]; exact wdiv (by omega) (by omega) g1⟩
    have pl : p ≤ ad := by rw [← ep]; exact Int.ediv_le_self _ (by omega)
    have ql : q ≤ bd := by rw [← eq]; exact Int.ediv_le_self _ (by omega)
    have hR1 := fun w => refRest_ok an q g w a3 (by omega) g1 (by omega) (by omega) (by omega)
    have hR2 := fun w => refRest_ok bn p g w b3 (by omega) g1 (by omega) (by omega) (by omega)
    have r0 : 0 ≤ an * q % g := Int.emod_nonneg _ (by omega)
    have r1 : an * q % g < g := Int.emod_lt_of_pos _ (by omega)
    have s0 : 0 ≤ bn * p % g := Int.emod_nonneg _ (by omega)
    have s1 : bn * p % g < g := Int.emod_lt_of_pos _ (by omega)
    have E2 : Hid (IntKind.i64.wrap (an * q % g + bn * p % g) = an * q % g + bn * p % g ∧ (an * q % g + bn * p % g).tmod g = num % g) := ⟨IntWalk.i64_in _ (by omega), by rw [Int.tmod_eq_emod_of_nonneg (by omega), ← Int.add_emod, nm]⟩
    have hH := fun w => refDivisor_any (num % g) g w (Int.emod_nonneg _ (by omega)) (by omega) (by have := Int.emod_lt_of_pos num (show 0 < g by omega); omega) (by omega)
    rw [hby] at hH
    have hO1 := fun w => refOver_any p q w (by omega) (by omega)
    have kc : 0 < cmp3 (an * bd) ((bd - bn) * ad) ↔ ad * q < num := by
      have x1 : an * bd = g * (an * q) := by rw [bq]; ac_rfl
      have y1 : bd * ad = g * (ad * q) := by rw [bq]; ac_rfl
      have y2 : bn * ad = g * (bn * p) := by rw [ap]; ac_rfl
      have x2 : (bd - bn) * ad = g * (ad * q) - g * (bn * p) := by rw [Int.sub_mul, y1, y2]
      have x3 : g * num = g * (an * q) + g * (bn * p) := by rw [nm, Int.mul_add]
      have x4 : (bd - bn) * ad < an * bd ↔ g * (ad * q) < g * num := by rw [x1, x2, x3]; omega
      have x5 : g * (ad * q) < g * num ↔ ad * q < num := ⟨fun h => Int.lt_of_mul_lt_mul_left h (by omega), fun h => Int.mul_lt_mul_of_pos_left h (by omega)⟩
      rw [← x5, ← x4]
      unfold cmp3
      split
      · constructor <;> intro h <;> omega
      · split <;> constructor <;> intro h <;> omega
    by_cases hc : ad * q < num
    · rw [if_pos hc]
      exact refEither_e3 an ad bn bd (bd - bn) bd _ w hA hB hN hC (kc.2 hc)
    · rw [if_neg hc]
      have hc' := fun h => hc (kc.1 h)
      have eD : p * (bd / h) = p * q * G := by rw [bh, Int.mul_assoc]
      rw [eD]
      have pq1 : 1 ≤ p * q := Int.mul_pos (show 0 < p by omega) (show 0 < q by omega)
      by_cases o1 : 1000000000000000 < p * q
      · have o3 : 1000000000000000 < p * q * G := Int.lt_of_lt_of_le o1 (by have := Int.mul_le_mul_of_nonneg_left G1 (show 0 ≤ p * q by omega); rwa [Int.mul_one] at this)
        rw [if_pos o3]
        have hd1 : decide (1000000000000000 < p * q) = true := by simpa using o1
        rw [hd1] at hO1
        exact refEither_e10a an ad bn bd (bd - bn) bd _ g p q _ _ _ _ h w hA hB hN hC hc' hG g1 E1 hR1 hR2 E2 hH h1 hO1
      · have hd1 : decide (1000000000000000 < p * q) = false := by simpa using o1
        rw [hd1] at hO1
        have Gle : G ≤ g := by rw [← eGG]; exact Int.ediv_le_self _ (by omega)
        have E3 : Hid (IntKind.i64.wrap (p * q) = p * q ∧ IntKind.i64.wrap (g.tdiv h) = G) := ⟨IntWalk.i64_in _ (by omega), by rw [← eGG]; exact wdiv (by omega) (by omega) h1⟩
        have hO2 := fun w => refOver_any (p * q) G w (by omega) (by omega)
        by_cases o2 : 1000000000000000 < p * q * G
        · rw [if_pos o2]
          have hd2 : decide (1000000000000000 < p * q * G) = true := by simpa using o2
          rw [hd2] at hO2
          exact refEither_e10b an ad bn bd (bd - bn) bd _ g p q _ _ _ _ h (p * q) G w hA hB hN hC hc' hG g1 E1 hR1 hR2 E2 hH h1 hO1 E3 hO2
        · rw [if_neg o2]
          have hd2 : decide (1000000000000000 < p * q * G) = false := by simpa using o2
          rw [hd2] at hO2
          have D0 : 0 ≤ p * q * G := Int.mul_nonneg (by omega) (by omega)
          obtain ⟨D, hD⟩ : ∃ k : Nat, p * q * G = k := ⟨(p * q * G).toNat, by omega⟩
          have hX := fun w => refDivided_any an ad D w a3 a1 (by omega) (by omega) a2 (by
            show _ ≤ _
            calc an * (D : Int) ≤ ad * (D : Int) := Int.mul_le_mul_of_nonneg_right a4 (by omega)
              _ ≤ ad * 1000000000000000 := Int.mul_le_mul_of_nonneg_left (by omega) (by omega)
              _ = _ := Int.mul_comm _ _)
          have hY := fun w => refDivided_any bn bd D w b3 b1 (by omega) (by omega) b2 (by
            show _ ≤ _
            calc bn * (D : Int) ≤ bd * (D : Int) := Int.mul_le_mul_of_nonneg_right b4 (by omega)
              _ ≤ bd * 1000000000000000 := Int.mul_le_mul_of_nonneg_left (by omega) (by omega)
              _ = _ := Int.mul_comm _ _)
          have pG : 1 ≤ p * G := Int.mul_pos (show 0 < p by omega) (show 0 < G by omega)
          have qG : 1 ≤ q * G := Int.mul_pos (show 0 < q by omega) (show 0 < G by omega)
          have c1 : an * (D : Int) = an * q * (p * G) := by rw [← hD]; ac_rfl
          have c2 : bn * (D : Int) = bn * p * (q * G) := by rw [← hD]; ac_rfl
          have c3 : ad = h * (p * G) := by rw [ap, hGe]; ac_rfl
          have c4 : bd = h * (q * G) := by rw [bq, hGe]; ac_rfl
          obtain ⟨x1, x2⟩ := cut_quo (x := an * q) (d := h) pG
          obtain ⟨y1, y2⟩ := cut_quo (x := bn * p) (d := h) qG
          rw [← c1, ← c3] at x1 x2
          rw [← c2, ← c4] at y1 y2
          rw [x1, x2] at hX
          rw [y1, y2] at hY
          have hs := sum_quo (x := an * q) (y := bn * p) h1 (by rw [← nm]; exact hd)
          rw [← nm] at hs
          have z1 : (0 < an * q % h * (p * G)) ↔ 0 < an * q % h := ⟨fun k => by
            by_cases k2 : 0 < an * q % h
            · exact k2
            · have := Int.emod_nonneg (an * q) (show h ≠ 0 by omega)
              rw [show an * q % h = 0 by omega, Int.zero_mul] at k; omega, fun k => Int.mul_pos k (by omega)⟩
          have z2 : (0 < bn * p % h * (q * G)) ↔ 0 < bn * p % h := ⟨fun k => by
            by_cases k2 : 0 < bn * p % h
            · exact k2
            · have := Int.emod_nonneg (bn * p) (show h ≠ 0 by omega)
              rw [show bn * p % h = 0 by omega, Int.zero_mul] at k; omega, fun k => Int.mul_pos k (by omega)⟩
          have hZ := fun w => refRestOf_ok an ad bn bd (D : Int) _ _ _ _ (if 0 < an * q % h ∨ 0 < bn * p % h then 1 else 0) w (by simp only [z1, z2]) hX hY
          have hle2 : num / h ≤ (D : Int) := by
            refine Int.le_of_mul_le_mul_right ?_ (show 0 < h by omega)
            rw [Int.ediv_mul_cancel hd, ← hD]
            have : p * q * G * h = ad * q := by rw [ap, hGe]; ac_rfl
            rw [this]; omega
          have n0 : 0 ≤ an * q / h := Int.ediv_nonneg (Int.mul_nonneg a3 (by omega)) (by omega)
          have m0 : 0 ≤ bn * p / h := Int.ediv_nonneg (Int.mul_nonneg b3 (by omega)) (by omega)
          have E4 : Hid (IntKind.i64.wrap (p * q * G) = (D : Int)) := by show _ = _; rw [hD]; exact IntWalk.i64_in _ (by omega)
          rw [hD]
          refine refEither_e0 an ad bn bd (bd - bn) bd _ g p q _ _ _ _ h (p * q) G (D : Int) _ _ _ _ _ (an * q / h + bn * p / h) (num / h) w hA hB hN hC hc' hG g1 E1 hR1 hR2 E2 hH h1 hO1 E3 hO2 E4 hX hY hZ ?_
          constructor
          · refine IntWalk.i64_in _ ?_
            split at hs <;> omega
          · rw [← hs]
            refine IntWalk.i64_in _ ?_
            omega
end Go.Proofs.Ytnpnnfbmnlgioaa
