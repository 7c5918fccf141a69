/-
  Sums of fractions: how far two lists of fractions are apart. Plain facts on Rat.
  The value of a chance, as a fraction: compared, added, in lowest terms.
  What Either returns without an error is a valid chance, and its value is the sum; so with Of and Apart.
  How far two lists of weights are apart: the same both ways round, 0 just if the chances are the same; its value.
  The values of what Apart, Of and Map return.
-/
import Derived.Test.YtnpnnfbmnlgioaaCa
import Derived.Test.YtnpnnfbmnlgioaaCh
import Derived.Test.YtnpnnfbmnlgioaaVv
import Derived.Test.YtnpnnfbmnlgioaaVo
import Derived.Test.YtnpnnfbmnlgioaaVc
import Derived.Test.YtnpnnfbmnlgioaaVm
namespace Go.Proofs.Ytnpnnfbmnlgioaa
set_option linter.unusedVariables false

/-- The sum of the first n. -/
def rsum (f : Nat → Rat) : Nat → Rat
  | 0 => 0
  | n + 1 => rsum f n + f n
/-- How much the one has more than the other one. -/
def rfar (A B : Nat → Rat) (n : Nat) : Rat := rsum (fun i => max 0 (A i - B i)) n
theorem rfar_nonneg (A B : Nat → Rat) (n : Nat) : 0 ≤ rfar A B n := by
  induction n with
  | zero => simp only [rfar, rsum]; grind
  | succ n ih => simp only [rfar, rsum] at *; grind
theorem rfar_set (A B : Nat → Rat) (S : Nat → Bool) (n : Nat) : rsum (fun i => if S i then A i else 0) n ≤ rsum (fun i => if S i then B i else 0) n + rfar A B n := by
  induction n with
  | zero => simp only [rfar, rsum]; grind
  | succ n ih => simp only [rfar, rsum] at *; split <;> grind
theorem rfar_tri (A B C : Nat → Rat) (n : Nat) : rfar A C n ≤ rfar A B n + rfar B C n := by
  induction n with
  | zero => simp only [rfar, rsum]; grind
  | succ n ih => simp only [rfar, rsum] at *; grind
theorem rfar_congr {A B C D : Nat → Rat} {n : Nat} (h : ∀ i, i < n → A i = C i) (k : ∀ i, i < n → B i = D i) : rfar A B n = rfar C D n := by
  induction n with
  | zero => rfl
  | succ n ih =>
    have := ih (fun i hi => h i (by omega)) (fun i hi => k i (by omega))
    simp only [rfar, rsum] at *
    rw [this, h n (by omega), k n (by omega)]
/-- One value more on both sides. -/
theorem rfar_bump (A B : Nat → Rat) (j : Nat) (a b : Rat) (m : Nat) : rfar (fun i => A i + if i = j then a else 0) (fun i => B i + if i = j then b else 0) m ≤ rfar A B m + if j < m then max 0 (a - b) else 0 := by
  induction m with
  | zero => simp only [rfar, rsum]; grind
  | succ m ih =>
    simp only [rfar, rsum] at *
    by_cases h1 : m = j
    · subst h1
      rw [if_neg (by omega)] at ih
      rw [if_pos rfl, if_pos rfl, if_pos (show m < m + 1 by omega)]
      grind
    · rw [if_neg h1, if_neg h1]
      by_cases h2 : j < m
      · rw [if_pos h2] at ih
        rw [if_pos (by omega)]
        grind
      · rw [if_neg h2] at ih
        rw [if_neg (by omega)]
        grind
/-- What is mapped. -/
def rmap (A : Nat → Rat) (f : Nat → Nat) (n j : Nat) : Rat := rsum (fun i => if f i = j then A i else 0) n
theorem rfar_map (A B : Nat → Rat) (f : Nat → Nat) (n m : Nat) : rfar (rmap A f n) (rmap B f n) m ≤ rfar A B n := by
  induction n with
  | zero =>
    have : ∀ m, rfar (rmap A f 0) (rmap B f 0) m = 0 := fun m => by
      induction m with
      | zero => rfl
      | succ m ih => simp only [rfar, rsum, rmap] at *; rw [ih]; grind
    rw [this]; simp only [rfar, rsum]; grind
  | succ n ih =>
    have h := rfar_bump (rmap A f n) (rmap B f n) (f n) (A n) (B n) m
    have e : ∀ (X : Nat → Rat), (fun i => rmap X f n i + if i = f n then X n else 0) = rmap X f (n + 1) := fun X => by
      funext j
      simp only [rmap, rsum]
      by_cases hj : f n = j
      · rw [if_pos hj, if_pos hj.symm]
      · rw [if_neg hj, if_neg (fun e => hj e.symm)]
    rw [e, e] at h
    have : rfar A B (n + 1) = rfar A B n + max 0 (A n - B n) := rfl
    rw [this]
    split at h <;> grind
end Go.Proofs.Ytnpnnfbmnlgioaa

namespace Go.Proofs.Ytnpnnfbmnlgioaa
open Go.RowKit
set_option linter.unusedVariables false

/-- The value of a chance. -/
def val (n d : Int) : Rat := (n : Rat) / (d : Rat)
theorem rpos {d : Int} (h : 1 ≤ d) : (0 : Rat) < (d : Rat) := by
  have : ((0 : Int) : Rat) < (d : Rat) := Rat.intCast_lt_intCast.2 (by omega)
  simpa using this
theorem val_mul {n d g : Int} (hg : 1 ≤ g) (hd : 1 ≤ d) : val (g * n) (g * d) = val n d := by
  have h1 := rpos hg
  have h2 := rpos hd
  unfold val
  rw [Rat.intCast_mul, Rat.intCast_mul]
  grind
theorem val_frac {n d : Int} (hd : 1 ≤ d) : val (n / Int.gcd n d) (d / Int.gcd n d) = val n d := by
  have g1 : 1 ≤ (Int.gcd n d : Int) := gcd_pos hd
  have e1 : (Int.gcd n d : Int) * (n / Int.gcd n d) = n := Int.mul_ediv_cancel' (Int.gcd_dvd_left ..)
  have e2 : (Int.gcd n d : Int) * (d / Int.gcd n d) = d := Int.mul_ediv_cancel' (Int.gcd_dvd_right ..)
  have d1 : 1 ≤ d / (Int.gcd n d : Int) := (Int.le_ediv_iff_mul_le (by omega)).2 (by have := Int.le_of_dvd (by omega) (Int.gcd_dvd_right n d); omega)
  have := val_mul (n := n / Int.gcd n d) g1 d1
  rw [e1, e2] at this
  exact this.symm
theorem val_le {an ad bn bd : Int} (ha : 1 ≤ ad) (hb : 1 ≤ bd) : val an ad ≤ val bn bd ↔ an * bd ≤ bn * ad := by
  have h1 := rpos ha
  have h2 := rpos hb
  rw [← Rat.intCast_le_intCast, Rat.intCast_mul, Rat.intCast_mul]
  unfold val
  constructor
  · intro h
    have h3 := Rat.mul_le_mul_of_nonneg_right h (Rat.le_of_lt (Rat.mul_pos h1 h2))
    have e1 : (an : Rat) / (ad : Rat) * ((ad : Rat) * (bd : Rat)) = (an : Rat) * (bd : Rat) := by grind
    have e2 : (bn : Rat) / (bd : Rat) * ((ad : Rat) * (bd : Rat)) = (bn : Rat) * (ad : Rat) := by grind
    rwa [e1, e2] at h3
  · intro h
    have h3 := Rat.mul_le_mul_of_nonneg_right h (Rat.le_of_lt (Rat.mul_pos (Rat.inv_pos.2 h1) (Rat.inv_pos.2 h2)))
    have e1 : (an : Rat) * (bd : Rat) * ((ad : Rat)⁻¹ * (bd : Rat)⁻¹) = (an : Rat) / (ad : Rat) := by grind
    have e2 : (bn : Rat) * (ad : Rat) * ((ad : Rat)⁻¹ * (bd : Rat)⁻¹) = (bn : Rat) / (bd : Rat) := by grind
    rwa [e1, e2] at h3
theorem val_add {an ad bn bd : Int} (ha : 1 ≤ ad) (hb : 1 ≤ bd) : val an ad + val bn bd = val (an * bd + bn * ad) (ad * bd) := by
  have h1 := rpos ha
  have h2 := rpos hb
  unfold val
  rw [Rat.intCast_add, Rat.intCast_mul, Rat.intCast_mul, Rat.intCast_mul]
  grind
theorem cmp3_le {an ad bn bd : Int} (ha : 1 ≤ ad) (hb : 1 ≤ bd) : cmp3 (an * bd) (bn * ad) ≤ 0 ↔ val an ad ≤ val bn bd := by
  rw [val_le ha hb]
  unfold cmp3
  split
  · constructor <;> intro _ <;> omega
  · split <;> constructor <;> intro _ <;> omega

theorem gcd_one {n d : Int} (h : badC n d = false) : Nat.gcd n.natAbs d.natAbs = 1 := by
  obtain ⟨a1, a2, a3, a4, a5⟩ := badC_ok h
  have := gcd_pos (a := n) a1
  have : Int.gcd n d = 1 := by omega
  exact this
theorem ok_of {n d : Int} (h1 : 1 ≤ d) (h2 : d ≤ 1000000000000000) (h3 : 0 ≤ n) (h4 : n ≤ d) (h5 : Nat.gcd n.natAbs d.natAbs = 1) : badC n d = false := by
  obtain ⟨a, rfl⟩ := Int.eq_ofNat_of_zero_le h3
  obtain ⟨b, rfl⟩ := Int.eq_ofNat_of_zero_le (show 0 ≤ d by omega)
  exact badC_nat (by omega) (by omega) (by omega) h5
/-- A fraction in lowest terms is a valid chance. -/
theorem ok_frac {n d : Int} (h1 : 1 ≤ d) (h2 : d ≤ 1000000000000000) (h3 : 0 ≤ n) (h4 : n ≤ d) : badC (n / Int.gcd n d) (d / Int.gcd n d) = false := by
  have g1 : 1 ≤ (Int.gcd n d : Int) := gcd_pos h1
  have e1 : (Int.gcd n d : Int) * (n / Int.gcd n d) = n := Int.mul_ediv_cancel' (Int.gcd_dvd_left ..)
  have e2 : (Int.gcd n d : Int) * (d / Int.gcd n d) = d := Int.mul_ediv_cancel' (Int.gcd_dvd_right ..)
  have d1 : 1 ≤ d / (Int.gcd n d : Int) := (Int.le_ediv_iff_mul_le (by omega)).2 (by have := Int.le_of_dvd (by omega) (Int.gcd_dvd_right n d); omega)
  have d2 : d / (Int.gcd n d : Int) ≤ d := Int.ediv_le_self _ (by omega)
  refine ok_of d1 (by omega) (Int.ediv_nonneg h3 (by omega)) (Int.ediv_le_ediv (by omega) h4) ?_
  obtain ⟨a, rfl⟩ := Int.eq_ofNat_of_zero_le h3
  obtain ⟨b, rfl⟩ := Int.eq_ofNat_of_zero_le (show 0 ≤ d by omega)
  obtain ⟨x, y⟩ := low_nat a b
  rw [x, y]
  exact Nat.coprime_div_gcd_div_gcd (Nat.gcd_pos_of_pos_right _ (by omega))
/-- Valid chances of the same value are the same. -/
theorem val_inj {an ad bn bd : Int} (ha : badC an ad = false) (hb : badC bn bd = false) (h : val an ad = val bn bd) : an = bn ∧ ad = bd := by
  have g1 := gcd_one ha
  have g2 := gcd_one hb
  obtain ⟨a1, a2, a3, a4, _⟩ := badC_ok ha
  obtain ⟨b1, b2, b3, b4, _⟩ := badC_ok hb
  have h1 := (val_le a1 b1).1 (by rw [h]; exact Rat.le_refl)
  have h2 := (val_le b1 a1).1 (by rw [h]; exact Rat.le_refl)
  obtain ⟨x, rfl⟩ := Int.eq_ofNat_of_zero_le a3
  obtain ⟨y, rfl⟩ := Int.eq_ofNat_of_zero_le (show 0 ≤ ad by omega)
  obtain ⟨z, rfl⟩ := Int.eq_ofNat_of_zero_le b3
  obtain ⟨t, rfl⟩ := Int.eq_ofNat_of_zero_le (show 0 ≤ bd by omega)
  have e : x * t = z * y := by
    have := Int.le_antisymm h1 h2
    exact_mod_cast this
  obtain ⟨k1, k2⟩ := nfrac (N := x) (D := y) (a := z) (b := t) (by omega) (by omega) g1 e
  have g2 : Nat.gcd z t = 1 := g2
  rw [g2] at k1 k2
  simp at k1 k2
  omega
end Go.Proofs.Ytnpnnfbmnlgioaa

namespace Go.Proofs.Ytnpnnfbmnlgioaa
open Go.RowKit
set_option linter.unusedVariables false

theorem sum_coprime {a b g p q N h G : Nat} (h1 : Nat.Coprime a (g * p)) (h2 : Nat.Coprime b (g * q)) (hpq : Nat.Coprime p q) (hN : a * q + b * p = h * N) (hG : g = h * G) (hh : Nat.gcd (h * N) g = h) (h0 : 0 < h) :
    Nat.Coprime N (p * q * G) := by
  have c1 : Nat.Coprime N G := by
    rw [hG, Nat.gcd_mul_left] at hh
    exact Nat.eq_of_mul_eq_mul_left h0 (by rw [hh, Nat.mul_one])
  have a1 : Nat.Coprime a p := Nat.Coprime.coprime_mul_left_right h1
  have b1 : Nat.Coprime b q := Nat.Coprime.coprime_mul_left_right h2
  have c2 : Nat.Coprime (h * N) p := by
    rw [← hN, Nat.Coprime, Nat.gcd_comm, Nat.gcd_add_mul_right_right]
    exact (Nat.Coprime.mul_left a1 hpq.symm).symm
  have c3 : Nat.Coprime (h * N) q := by
    rw [← hN, Nat.Coprime, Nat.gcd_comm, Nat.add_comm, Nat.gcd_add_mul_right_right]
    exact (Nat.Coprime.mul_left b1 hpq).symm
  exact Nat.Coprime.mul_right (Nat.Coprime.mul_right (Nat.Coprime.coprime_mul_left c2) (Nat.Coprime.coprime_mul_left c3)) c1

theorem sEither_ok {an ad bn bd : Int} (ha : badC an ad = false) (hb : badC bn bd = false) (h0 : (sEither an ad bn bd).2.2 = 0) :
    badC (sEither an ad bn bd).1 (sEither an ad bn bd).2.1 = false ∧ val (sEither an ad bn bd).1 (sEither an ad bn bd).2.1 = val an ad + val bn bd := by
  have F := eFacts ha hb
  have ga := gcd_one ha
  have gb := gcd_one hb
  obtain ⟨a1, a2, a3, a4, _⟩ := badC_ok ha
  obtain ⟨b1, b2, b3, b4, _⟩ := badC_ok hb
  have hbad : ¬ (badC an ad = true ∨ badC bn bd = true) := by rw [ha, hb]; simp
  unfold sEither at h0 ⊢
  rw [if_neg hbad] at h0 ⊢
  by_cases hc : ad * (bd / eG ad bd) < eNum an ad bn bd
  · rw [if_pos hc] at h0; simp at h0
  rw [if_neg hc] at h0 ⊢
  by_cases ho : 1000000000000000 < ad / eG ad bd * (bd / eBy an ad bn bd)
  · rw [if_pos ho] at h0; simp at h0
  rw [if_neg ho]
  clear h0 hbad
  have hby : (Int.gcd (eNum an ad bn bd) (eG ad bd) : Int) = eBy an ad bn bd := by
    show _ = ((Int.gcd (eNum an ad bn bd % eG ad bd) (eG ad bd) : Nat) : Int)
    have k0 : 0 ≤ eNum an ad bn bd := by
      rw [F.nm]
      exact Int.add_nonneg (Int.mul_nonneg a3 (by have := F.q1; omega)) (Int.mul_nonneg b3 (by have := F.p1; omega))
    rw [Int.gcd_comm (eNum an ad bn bd % eG ad bd), gcd_step _ _ k0 (by have := F.g1; omega)]
  have hgg : (Int.gcd ad bd : Int) = eG ad bd := rfl
  obtain ⟨g1, gle, ap, bq, p1, q1, nm, h1, hGe, G1, hd, bh, hle⟩ := F
  rw [bh] at ho ⊢
  show badC (eNum an ad bn bd / eBy an ad bn bd) (ad / eG ad bd * (bd / eG ad bd * (eG ad bd / eBy an ad bn bd))) = false ∧ val (eNum an ad bn bd / eBy an ad bn bd) (ad / eG ad bd * (bd / eG ad bd * (eG ad bd / eBy an ad bn bd))) = _
  obtain ⟨N, hN⟩ := hd
  generalize ad / eG ad bd = p at *
  generalize bd / eG ad bd = q at *
  generalize eG ad bd / eBy an ad bn bd = G at *
  generalize eNum an ad bn bd = num at *
  generalize eBy an ad bn bd = h at *
  generalize eG ad bd = g at *
  have e1 : num / h = N := by rw [hN]; exact Int.mul_ediv_cancel_left _ (by omega)
  rw [e1]
  have num0 : 0 ≤ num := by rw [nm]; exact Int.add_nonneg (Int.mul_nonneg a3 (by omega)) (Int.mul_nonneg b3 (by omega))
  have N0 : 0 ≤ N := by
    by_cases k : 0 ≤ N
    · exact k
    · have : h * N ≤ h * (-1) := Int.mul_le_mul_of_nonneg_left (by omega) (by omega)
      omega
  have D1 : 1 ≤ p * (q * G) := Int.mul_pos (show 0 < p by omega) (Int.mul_pos (show 0 < q by omega) (show 0 < G by omega))
  have eD : h * (p * (q * G)) = ad * q := by rw [ap, hGe]; ac_rfl
  have eD2 : g * (ad * q) = ad * bd := by rw [bq]; ac_rfl
  have eN : g * num = an * bd + bn * ad := by rw [nm, bq, ap, Int.mul_add]; congr 1 <;> ac_rfl
  refine ⟨ok_of D1 (by omega) N0 ?_ ?_, ?_⟩
  · refine Int.le_of_mul_le_mul_left ?_ (show 0 < h by omega)
    rw [← hN, eD]; omega
  · obtain ⟨a', rfl⟩ := Int.eq_ofNat_of_zero_le a3
    obtain ⟨b', rfl⟩ := Int.eq_ofNat_of_zero_le b3
    obtain ⟨p', rfl⟩ := Int.eq_ofNat_of_zero_le (show 0 ≤ p by omega)
    obtain ⟨q', rfl⟩ := Int.eq_ofNat_of_zero_le (show 0 ≤ q by omega)
    obtain ⟨G', rfl⟩ := Int.eq_ofNat_of_zero_le (show 0 ≤ G by omega)
    obtain ⟨h', rfl⟩ := Int.eq_ofNat_of_zero_le (show 0 ≤ h by omega)
    obtain ⟨N', rfl⟩ := Int.eq_ofNat_of_zero_le N0
    obtain ⟨g', rfl⟩ := Int.eq_ofNat_of_zero_le (show 0 ≤ g by omega)
    have hG' : g' = h' * G' := by exact_mod_cast hGe
    have hN' : a' * q' + b' * p' = h' * N' := by
      have := nm.symm.trans hN
      exact_mod_cast this
    have hap : ad = ((g' * p' : Nat) : Int) := by rw [ap]; simp
    have hbq : bd = ((g' * q' : Nat) : Int) := by rw [bq]; simp
    have hpq : Nat.Coprime p' q' := by
      rw [hap, hbq, Int.gcd_natCast_natCast, Nat.gcd_mul_left] at hgg
      have : g' * Nat.gcd p' q' = g' * 1 := by rw [Nat.mul_one]; exact_mod_cast hgg
      exact Nat.eq_of_mul_eq_mul_left (by omega) this
    have hh : Nat.gcd (h' * N') g' = h' := by
      rw [hN] at hby
      have : ((h' : Int) * (N' : Int)) = ((h' * N' : Nat) : Int) := by simp
      rw [this, Int.gcd_natCast_natCast] at hby
      exact_mod_cast hby
    rw [hap] at ga
    rw [hbq] at gb
    have := sum_coprime (a := a') (b := b') ga gb hpq hN' hG' hh (by omega)
    have e : (p' : Int) * ((q' : Int) * (G' : Int)) = ((p' * q' * G' : Nat) : Int) := by simp [Int.mul_assoc]
    rw [e]
    exact this
  · rw [val_add a1 b1, ← eN, ← eD2, val_mul g1 (by rw [← eD]; exact Int.mul_pos (show 0 < h by omega) D1), ← eD, hN, val_mul h1 D1]
end Go.Proofs.Ytnpnnfbmnlgioaa

namespace Go.Proofs.Ytnpnnfbmnlgioaa
open Go.RowKit
set_option linter.unusedVariables false

theorem dvd_gcdTo {xs : List Int} {d : Int} (h : ∀ i, i < xs.length → d ∣ nth xs i) {k : Nat} (hk : k ≤ xs.length) : d ∣ gcdTo xs k := by
  induction k with
  | zero => rw [gcdTo_zero]; exact Int.dvd_zero d
  | succ k ih => rw [gcdTo_succ (by omega)]; exact Int.dvd_coe_gcd (ih (by omega)) (h k (by omega))
theorem dvd_gcdl {xs : List Int} {d : Int} (h : ∀ i, i < xs.length → d ∣ nth xs i) : d ∣ gcdl xs := by rw [← gcdTo_all]; exact dvd_gcdTo h (Nat.le_refl _)
theorem nth_low {xs : List Int} {i : Nat} (hi : i < xs.length) : gcdl xs * nth (low xs) i = nth xs i := by
  unfold low; rw [nth_map hi]; exact Int.mul_ediv_cancel' (gcdl_dvd hi)
theorem gcdl_low {xs : List Int} (hg : 1 ≤ gcdl xs) : gcdl (low xs) = 1 := by
  have h1 : gcdl xs * gcdl (low xs) ∣ gcdl xs := dvd_gcdl fun i hi => by
    rw [← nth_low hi]
    exact Int.mul_dvd_mul_left _ (gcdl_dvd (by rw [low_length]; exact hi))
  have h2 : gcdl (low xs) ∣ 1 := by
    have : gcdl xs * gcdl (low xs) ∣ gcdl xs * 1 := by rwa [Int.mul_one]
    exact Int.dvd_of_mul_dvd_mul_left (by omega) this
  have h3 := gcdl_nonneg (low xs)
  have h4 := Int.le_of_dvd (by omega) h2
  have h5 : gcdl (low xs) ≠ 0 := fun e => by rw [e] at h2; have := Int.zero_dvd.1 h2; omega
  omega
theorem nths_ext {a b : List Int} (hl : a.length = b.length) (h : ∀ i, i < a.length → nth a i = nth b i) : a = b := by
  refine List.ext_getElem hl fun i h1 h2 => ?_
  have := h i h1
  rwa [nth_eq h1, nth_eq h2] at this
theorem coprime_scale {x : List Int} {s t : Int} (hs : 1 ≤ s) (ht : 1 ≤ t) (y : Nat → Int) (h : ∀ i, i < x.length → nth x i * t = y i * s) (hg : gcdl x = 1) : s ∣ t := by
  have g1 : 1 ≤ (Int.gcd s t : Int) := gcd_pos ht
  obtain ⟨s', hs'⟩ : (Int.gcd s t : Int) ∣ s := Int.gcd_dvd_left ..
  obtain ⟨t', ht'⟩ : (Int.gcd s t : Int) ∣ t := Int.gcd_dvd_right ..
  have hc : Int.gcd s' t' = 1 := by
    have : Int.gcd s t = Int.gcd ((Int.gcd s t : Int) * s') ((Int.gcd s t : Int) * t') := by rw [← hs', ← ht']
    rw [Int.gcd_mul_left] at this
    simp only [Int.natAbs_natCast] at this
    have h2 : Int.gcd s t * Int.gcd s' t' = Int.gcd s t * 1 := by omega
    exact Nat.eq_of_mul_eq_mul_left (by omega) h2
  have h1 : s' ∣ gcdl x := dvd_gcdl fun i hi => by
    have e := h i hi
    have e2 : (Int.gcd s t : Int) * (nth x i * t') = (Int.gcd s t : Int) * (y i * s') := by
      calc _ = nth x i * ((Int.gcd s t : Int) * t') := by ac_rfl
        _ = nth x i * t := by rw [← ht']
        _ = y i * s := e
        _ = y i * ((Int.gcd s t : Int) * s') := by rw [← hs']
        _ = _ := by ac_rfl
    have e3 := Int.eq_of_mul_eq_mul_left (by omega) e2
    have e4 : s'.natAbs ∣ (nth x i).natAbs * t'.natAbs := by rw [← Int.natAbs_mul, Int.natAbs_dvd_natAbs, e3]; exact Int.dvd_mul_left _ _
    exact Int.natAbs_dvd_natAbs.1 (Nat.Coprime.dvd_of_dvd_mul_right (show Nat.Coprime s'.natAbs t'.natAbs from hc) e4)
  rw [hg] at h1
  have h2 : (Int.gcd s t : Int) * s' ∣ (Int.gcd s t : Int) * t' := Int.mul_dvd_mul_left _ (Int.dvd_trans h1 (Int.one_dvd _))
  rwa [← hs', ← ht'] at h2

/-- What the one has more, less what the other one has more. -/
theorem more_sub (x y : List Int) (s t : Int) {k : Nat} (hx : k ≤ x.length) (hy : k ≤ y.length) : moreTo x y s t k - moreTo y x t s k = psum x k * t - psum y k * s := by
  induction k with
  | zero => simp [moreTo, psum]
  | succ k ih =>
    have := ih (by omega) (by omega)
    rw [psum_succ (by omega), psum_succ (by omega), Int.add_mul, Int.add_mul]
    simp only [moreTo]
    generalize nth x k * t = a at *
    generalize nth y k * s = b at *
    omega
theorem more_zero {x y : List Int} {s t : Int} {k : Nat} (h : moreTo x y s t k = 0) : ∀ i, i < k → nth x i * t ≤ nth y i * s := by
  have nn : ∀ k, 0 ≤ moreTo x y s t k := fun k => by
    induction k with
    | zero => simp [moreTo]
    | succ k ih => simp only [moreTo]; omega
  induction k with
  | zero => intro i hi; omega
  | succ k ih =>
    intro i hi
    simp only [moreTo] at h
    have := nn k
    by_cases e : i = k
    · subst e; omega
    · exact ih (by omega) i (by omega)
theorem more_self (x : List Int) (s : Int) (k : Nat) : moreTo x x s s k = 0 := by
  induction k with
  | zero => rfl
  | succ k ih => simp only [moreTo]; rw [ih]; omega

/-- What is asked of two lists that Apart compares, and what follows. -/
structure Two2 (a b : List Int) : Prop where
  ca : chk1 a = 0
  cb : chk1 b = 0
  len : a.length = b.length
  ok : lsum (low a) * lsum (low b) ≤ 1000000000000000
theorem apart_two {a b : List Int} (h : (sApart a b).2.2 = 0) : Two2 a b := by
  unfold sApart at h
  by_cases h1 : chkL [a, b] ≠ 0
  · rw [if_pos h1] at h; exact absurd h h1
  rw [if_neg h1] at h
  have h1 : chkL [a, b] = 0 := by simpa using h1
  have ca : chk1 a = 0 := by
    by_cases k : chk1 a = 0
    · exact k
    · rw [chkL2_first k] at h1; exact h1
  have cb : chk1 b = 0 := by
    by_cases k : chk1 b = 0
    · exact k
    · rw [chkL2_second ca k] at h1; exact h1
  by_cases h2 : a.length ≠ b.length
  · rw [if_pos h2] at h; simp at h
  rw [if_neg h2] at h
  have t1 := (low_facts (chk1_ok cb).2.1 (chk1_ok cb).2.2.1).2.2.1
  by_cases h3 : 1000000000000000 / lsum (low b) < lsum (low a)
  · rw [if_pos h3] at h; simp at h
  exact ⟨ca, cb, by simpa using h2, (le_div t1).1 (by omega)⟩
theorem two_apart {a b : List Int} (h : Two2 a b) : sApart a b = (moreTo (low a) (low b) (lsum (low a)) (lsum (low b)) a.length / Int.gcd (moreTo (low a) (low b) (lsum (low a)) (lsum (low b)) a.length) (lsum (low a) * lsum (low b)),
        lsum (low a) * lsum (low b) / Int.gcd (moreTo (low a) (low b) (lsum (low a)) (lsum (low b)) a.length) (lsum (low a) * lsum (low b)), 0) := by
  have t1 := (low_facts (chk1_ok h.cb).2.1 (chk1_ok h.cb).2.2.1).2.2.1
  have := (le_div t1).2 h.ok
  unfold sApart
  rw [if_neg (by rw [chkL2_ok h.ca h.cb]; simp), if_neg (by rw [h.len]; simp), if_neg (by omega)]
theorem two_sym {a b : List Int} (h : Two2 a b) : Two2 b a := ⟨h.cb, h.ca, h.len.symm, by rw [Int.mul_comm]; exact h.ok⟩
theorem two_more {a b : List Int} (h : Two2 a b) : moreTo (low a) (low b) (lsum (low a)) (lsum (low b)) a.length = moreTo (low b) (low a) (lsum (low b)) (lsum (low a)) a.length := by
  have := more_sub (low a) (low b) (lsum (low a)) (lsum (low b)) (k := a.length) (by rw [low_length]; omega) (by rw [low_length, h.len]; omega)
  have e1 : psum (low a) a.length = lsum (low a) := by have := psum_all (low a); rwa [low_length] at this
  have e2 : psum (low b) a.length = lsum (low b) := by have := psum_all (low b); rwa [low_length, ← h.len] at this
  rw [e1, e2, Int.mul_comm (lsum (low b))] at this
  omega
theorem apart_sym {a b : List Int} (h : Two2 a b) : sApart a b = sApart b a := by
  rw [two_apart h, two_apart (two_sym h), ← h.len, two_more h, Int.mul_comm (lsum (low a))]
/-- The lists that Apart takes give the same chances just if the distance is 0. -/
theorem apart_zero {a b : List Int} (h : Two2 a b) : (sApart a b).1 = 0 ↔ sameB a b = true := by
  have fa := low_facts (chk1_ok h.ca).2.1 (chk1_ok h.ca).2.2.1
  have fb := low_facts (chk1_ok h.cb).2.1 (chk1_ok h.cb).2.2.1
  have hs : sameB a b = eqL (low a) (low b) := by unfold sameB sSame; rw [if_pos (chkL2_ok h.ca h.cb)]; simp
  rw [hs, two_apart h]
  show moreTo (low a) (low b) (lsum (low a)) (lsum (low b)) a.length / _ = 0 ↔ _
  have hm := two_more h
  have d1 : 1 ≤ lsum (low a) * lsum (low b) := Int.mul_pos (show 0 < _ from fa.2.2.1) (show 0 < _ from fb.2.2.1)
  have g1 := gcd_pos (a := moreTo (low a) (low b) (lsum (low a)) (lsum (low b)) a.length) d1
  have eg : (Int.gcd (moreTo (low a) (low b) (lsum (low a)) (lsum (low b)) a.length) (lsum (low a) * lsum (low b)) : Int) * (moreTo (low a) (low b) (lsum (low a)) (lsum (low b)) a.length / Int.gcd (moreTo (low a) (low b) (lsum (low a)) (lsum (low b)) a.length) (lsum (low a) * lsum (low b))) = moreTo (low a) (low b) (lsum (low a)) (lsum (low b)) a.length := Int.mul_ediv_cancel' (Int.gcd_dvd_left ..)
  constructor
  · intro h0
    rw [h0, Int.mul_zero] at eg
    have m1 := more_zero eg.symm
    have m2 := more_zero (hm.symm.trans eg.symm)
    have e : ∀ i, i < a.length → nth (low a) i * lsum (low b) = nth (low b) i * lsum (low a) := fun i hi => by have := m1 i hi; have := m2 i hi; omega
    have k1 := coprime_scale fa.2.2.1 fb.2.2.1 (x := low a) (fun i => nth (low b) i) (fun i hi => e i (by rwa [low_length] at hi)) (gcdl_low fa.1)
    have k2 := coprime_scale fb.2.2.1 fa.2.2.1 (x := low b) (fun i => nth (low a) i) (fun i hi => (e i (by rw [low_length] at hi; rw [h.len]; exact hi)).symm) (gcdl_low fb.1)
    have a1 := fa.2.2.1
    have b1 := fb.2.2.1
    have k3 : lsum (low a) = lsum (low b) := Int.le_antisymm (Int.le_of_dvd (by omega) k1) (Int.le_of_dvd (by omega) k2)
    have : low a = low b := nths_ext (by rw [low_length, low_length, h.len]) fun i hi => by
      have := e i (by rwa [low_length] at hi)
      rw [k3] at this
      exact Int.eq_of_mul_eq_mul_right (by omega) this
    rw [this]; simp [eqL]
  · intro h0
    have : low a = low b := by unfold eqL at h0; simpa using h0
    rw [this, more_self]; simp
end Go.Proofs.Ytnpnnfbmnlgioaa

namespace Go.Proofs.Ytnpnnfbmnlgioaa
open Go.RowKit
set_option linter.unusedVariables false

/-- The chance of one outcome, as a fraction. -/
def fr (xs : List Int) (i : Nat) : Rat := val (nth xs i) (lsum xs)
theorem val_plus {a b d : Int} : val (a + b) d = val a d + val b d := by
  unfold val
  rw [Rat.intCast_add]
  grind
theorem val_zero {d : Int} : val 0 d = 0 := by
  unfold val
  rw [Rat.div_def]
  simp
theorem val_max {x y s t : Int} (hs : 1 ≤ s) (ht : 1 ≤ t) : val (max 0 (x * t - y * s)) (s * t) = max 0 (val x s - val y t) := by
  have h1 := rpos hs
  have h2 := rpos ht
  have e : val (x * t - y * s) (s * t) = val x s - val y t := by
    unfold val
    rw [Rat.intCast_sub, Rat.intCast_mul, Rat.intCast_mul, Rat.intCast_mul]
    grind
  have hst : 1 ≤ s * t := Int.mul_pos (show 0 < s by omega) (show 0 < t by omega)
  by_cases h : y * s ≤ x * t
  · have k : val y t ≤ val x s := (val_le ht hs).2 (by omega)
    rw [show max 0 (x * t - y * s) = x * t - y * s by omega, e]
    grind
  · have k : val x s ≤ val y t := (val_le hs ht).2 (by omega)
    rw [show max 0 (x * t - y * s) = 0 by omega, val_zero]
    grind
theorem val_low {xs : List Int} (h : chk1 xs = 0) {i : Nat} (hi : i < xs.length) : val (nth (low xs) i) (lsum (low xs)) = fr xs i := by
  have f := low_facts (chk1_ok h).2.1 (chk1_ok h).2.2.1
  unfold fr
  rw [← nth_low hi, lsum_low xs, val_mul f.1 f.2.2.1]
theorem val_more {x y : List Int} {s t : Int} (hs : 1 ≤ s) (ht : 1 ≤ t) (k : Nat) : val (moreTo x y s t k) (s * t) = rfar (fun i => val (nth x i) s) (fun i => val (nth y i) t) k := by
  induction k with
  | zero => simp only [moreTo, rfar, rsum]; exact val_zero
  | succ k ih =>
    simp only [rfar, rsum] at *
    simp only [moreTo]
    rw [val_plus, ih, val_max hs ht]
theorem pos_of_chk {xs : List Int} (h : chk1 xs = 0) : Pos (low xs) := fun i => by
  have f := low_facts (chk1_ok h).2.1 (chk1_ok h).2.2.1
  by_cases hi : i < (low xs).length
  · exact (f.2.1 i hi).1
  · rw [nth_out hi]; omega
/-- What Apart returns is a valid chance, of this value. -/
theorem apart_val {a b : List Int} (h : Two2 a b) : badC (sApart a b).1 (sApart a b).2.1 = false ∧ val (sApart a b).1 (sApart a b).2.1 = rfar (fr a) (fr b) a.length := by
  have fa := low_facts (chk1_ok h.ca).2.1 (chk1_ok h.ca).2.2.1
  have fb := low_facts (chk1_ok h.cb).2.1 (chk1_ok h.cb).2.2.1
  have d1 : 1 ≤ lsum (low a) * lsum (low b) := Int.mul_pos (show 0 < _ from fa.2.2.1) (show 0 < _ from fb.2.2.1)
  have e1 : psum (low a) a.length = lsum (low a) := by have := psum_all (low a); rwa [low_length] at this
  obtain ⟨m0, m1⟩ := more_bd (x := low a) (y := low b) (s := lsum (low a)) (t := lsum (low b)) (pos_of_chk h.ca) (pos_of_chk h.cb) (by have := fa.2.2.1; omega) (by have := fb.2.2.1; omega) (k := a.length) (by rw [low_length]; omega)
  rw [e1] at m1
  rw [two_apart h]
  refine ⟨ok_frac d1 h.ok m0 m1, ?_⟩
  rw [val_frac d1, val_more fa.2.2.1 fb.2.2.1]
  exact rfar_congr (fun i hi => val_low h.ca hi) (fun i hi => val_low h.cb (by rw [← h.len]; exact hi))

/-- The outcomes of a set. -/
def setTo (S : Nat → Bool) : Nat → List Int
  | 0 => []
  | k + 1 => if S k then setTo S k ++ [(k : Int)] else setTo S k
theorem setTo_length (S : Nat → Bool) (k : Nat) : (setTo S k).length ≤ k := by
  induction k with
  | zero => simp [setTo]
  | succ k ih =>
    simp only [setTo]
    split
    · rw [List.length_append]; show _ + 1 ≤ _; omega
    · omega
theorem nth_app_lt {a b : List Int} {i : Nat} (h : i < a.length) : nth (a ++ b) i = nth a i := by
  rw [nth_eq h, nth_eq (by rw [List.length_append]; omega)]
  exact List.getElem_append_left h
theorem nth_app_at {a : List Int} {x : Int} : nth (a ++ [x]) a.length = x := by
  rw [nth_eq (by simp)]; simp
theorem setTo_lt (S : Nat → Bool) {k i : Nat} (h : i < (setTo S k).length) : 0 ≤ nth (setTo S k) i ∧ nth (setTo S k) i < k := by
  induction k with
  | zero => simp [setTo] at h
  | succ k ih =>
    simp only [setTo] at h ⊢
    by_cases hs : S k = true
    · simp only [hs, if_true] at h ⊢
      by_cases hi : i < (setTo S k).length
      · rw [nth_app_lt hi]; have := ih hi; omega
      · have : i = (setTo S k).length := by simp at h; omega
        subst this
        rw [nth_app_at]; omega
    · simp only [hs, Bool.false_eq_true, if_false] at h ⊢
      have := ih h; omega
theorem setTo_asc (S : Nat → Bool) {k i : Nat} (h : i + 1 < (setTo S k).length) : nth (setTo S k) i < nth (setTo S k) (i + 1) := by
  induction k with
  | zero => simp [setTo] at h
  | succ k ih =>
    simp only [setTo] at h ⊢
    by_cases hs : S k = true
    · simp only [hs, if_true] at h ⊢
      by_cases hi : i + 1 < (setTo S k).length
      · rw [nth_app_lt hi, nth_app_lt (by omega)]; exact ih hi
      · have e : i + 1 = (setTo S k).length := by simp at h; omega
        rw [e, nth_app_at, nth_app_lt (by omega)]
        exact (setTo_lt S (by omega)).2
    · simp only [hs, Bool.false_eq_true, if_false] at h ⊢
      exact ih h
theorem setTo_ok (S : Nat → Bool) {k n : Nat} (h : k ≤ n) : asc n (setTo S k) = true := asc_true fun i hi => by
  have h1 := setTo_lt S hi
  unfold badO prevO
  rcases i with _ | i
  · simp; omega
  · have := setTo_asc S hi
    simp
    omega
/-- The weights of a set together. -/
def ssum (xs : List Int) (S : Nat → Bool) : Nat → Int
  | 0 => 0
  | k + 1 => ssum xs S k + if S k then nth xs k else 0
theorem val_ssum (xs : List Int) (S : Nat → Bool) (d : Int) (k : Nat) : val (ssum xs S k) d = rsum (fun i => if S i then val (nth xs i) d else 0) k := by
  induction k with
  | zero => exact val_zero
  | succ k ih =>
    simp only [ssum, rsum]
    rw [val_plus, ih]
    split
    · rfl
    · rw [val_zero]
def osum (xs os : List Int) : Nat → Int
  | 0 => 0
  | k + 1 => osum xs os k + nth xs (nth os k).toNat
theorem osum_congr {xs a b : List Int} {k : Nat} (h : ∀ i, i < k → nth a i = nth b i) : osum xs a k = osum xs b k := by
  induction k with
  | zero => rfl
  | succ k ih => simp only [osum]; rw [ih fun i hi => h i (by omega), h k (by omega)]
theorem osum_set (xs : List Int) (S : Nat → Bool) (k : Nat) : osum xs (setTo S k) (setTo S k).length = ssum xs S k := by
  induction k with
  | zero => rfl
  | succ k ih =>
    simp only [setTo, ssum]
    by_cases hs : S k = true
    · simp only [hs, if_true]
      rw [List.length_append, ← ih]
      show osum xs (setTo S k ++ [(k : Int)]) (setTo S k).length + nth xs (nth (setTo S k ++ [(k : Int)]) (setTo S k).length).toNat = _
      rw [nth_app_at, osum_congr fun i hi => nth_app_lt hi]
      simp
    · simp only [hs, Bool.false_eq_true, if_false]
      rw [ih]; simp
theorem lsum_osum {xs os : List Int} (ha : asc xs.length os = true) {k : Nat} (hk : k ≤ os.length) : lsum (onlyTo xs os k) = osum xs os k := by
  induction k with
  | zero => exact lsum_only0 xs os
  | succ k ih => rw [lsum_onlyTo ha (by omega), ih (by omega)]; rfl
theorem only_set {xs : List Int} (S : Nat → Bool) {k : Nat} (hk : k ≤ xs.length) : lsum (onlyL xs (setTo S k)) = ssum xs S k := by
  unfold onlyL
  rw [lsum_osum (setTo_ok S hk) (Nat.le_refl _), osum_set]
/-- What Of returns for a set is a valid chance, of this value. -/
theorem of_val {xs : List Int} (h : chk1 xs = 0) (S : Nat → Bool) {k : Nat} (hk : k ≤ xs.length) :
    (sOf xs (setTo S k)).2.2 = 0 ∧ badC (sOf xs (setTo S k)).1 (sOf xs (setTo S k)).2.1 = false ∧ val (sOf xs (setTo S k)).1 (sOf xs (setTo S k)).2.1 = rsum (fun i => if S i then fr xs i else 0) k := by
  obtain ⟨a1, a2, a3, a4⟩ := chk1_ok h
  obtain ⟨b1, b2, b3, b4⟩ := onlyL_facts a2 (setTo_ok S hk)
  rw [sOf_at h (setTo_ok S hk) rfl]
  refine ⟨rfl, ok_frac a3 (by omega) b3 b4, ?_⟩
  rw [val_frac a3, only_set S hk, val_ssum]
  rfl

/-- The fractions of what is mapped. -/
theorem nth_mapTo {xs ts : List Int} {m k j : Nat} (ht : ∀ i, i < k → 0 ≤ nth ts i ∧ nth ts i < m) (hj : j < m) (d : Int) : val (nth (mapTo xs ts m k) j) d = rmap (fun i => val (nth xs i) d) (fun i => (nth ts i).toNat) k j := by
  induction k with
  | zero =>
    simp only [mapTo, rmap, rsum]
    have : nth (List.replicate m 0) j = 0 := by rw [nth_eq (by simpa using hj)]; simp
    rw [this]; exact val_zero
  | succ k ih =>
    have h1 := ih fun i hi => ht i (by omega)
    have h2 := ht k (by omega)
    simp only [mapTo, rmap, rsum] at *
    rw [nth_set (by rw [mapTo_length]; omega)]
    by_cases e : (nth ts k).toNat = j
    · rw [if_pos e, if_pos e, val_plus, e, h1]
    · rw [if_neg e, if_neg e, h1]; grind
theorem map_ok {xs ts : List Int} {m : Nat} (h0 : (sMap xs ts m).2 = 0) : chk1 xs = 0 ∧ ts.length = xs.length ∧ (∀ i, i < xs.length → 0 ≤ nth ts i ∧ nth ts i < m) ∧ (sMap xs ts m).1 = mapTo xs ts m xs.length ∧ (1 : Int) ≤ m ∧ (m : Int) ≤ 4096 := by
  unfold sMap at h0 ⊢
  by_cases h1 : chk1 xs ≠ 0
  · rw [if_pos h1] at h0; exact absurd h0 h1
  rw [if_neg h1] at h0 ⊢
  by_cases h2 : (m : Int) < 1 ∨ 4096 < (m : Int)
  · rw [if_pos h2] at h0; simp at h0
  rw [if_neg h2] at h0 ⊢
  by_cases h3 : ts.length ≠ xs.length ∨ anyB (outB 0 ((m : Int) - 1)) ts = true
  · rw [if_pos h3] at h0; simp at h0
  rw [if_neg h3]
  have h4 : ts.length = xs.length := by
    by_cases k : ts.length = xs.length
    · exact k
    · exact absurd (.inl k) h3
  refine ⟨by simpa using h1, h4, fun i hi => ?_, by simp, by omega, by omega⟩
  by_cases k : outB 0 ((m : Int) - 1) (nth ts i) = true
  · exact absurd (.inr (anyB_true (by omega) k)) h3
  · simp [outB] at k; omega
theorem ok_map {xs ts : List Int} {m : Nat} (hc : chk1 xs = 0) (hl : ts.length = xs.length) (h : ∀ i, i < xs.length → 0 ≤ nth ts i ∧ nth ts i < m) (m1 : (1 : Int) ≤ m) (m2 : (m : Int) ≤ 4096) : (sMap xs ts m).2 = 0 ∧ (sMap xs ts m).1 = mapTo xs ts m xs.length := by
  have h3 : ¬ (ts.length ≠ xs.length ∨ anyB (outB 0 ((m : Int) - 1)) ts = true) := by
    rintro (k | k)
    · exact k hl
    · rw [anyB_false fun i hi => by have := h i (by omega); simp [outB]; omega] at k; simp at k
  unfold sMap
  rw [if_neg (by rw [hc]; simp), if_neg (by omega), if_neg h3]
  simp
/-- What is mapped is no farther apart. -/
theorem map_far {xs ys ts : List Int} {m : Nat} (hx : (sMap xs ts m).2 = 0) (hc : chk1 ys = 0) (hl : xs.length = ys.length) :
    (sMap ys ts m).2 = 0 ∧ (Two2 (sMap xs ts m).1 (sMap ys ts m).1 → rfar (fr (sMap xs ts m).1) (fr (sMap ys ts m).1) (sMap xs ts m).1.length ≤ rfar (fr xs) (fr ys) xs.length) := by
  obtain ⟨x1, x2, x3, x4, m1, m2⟩ := map_ok hx
  obtain ⟨y1, y2⟩ := ok_map (ts := ts) hc (by omega) (by rw [← hl]; exact x3) m1 m2
  refine ⟨y1, fun _ => ?_⟩
  rw [x4, y2, mapTo_length]
  have px : Pos xs := fun i => by
    by_cases hi : i < xs.length
    · exact ((chk1_ok x1).2.1 i hi).1
    · rw [nth_out hi]; omega
  have py : Pos ys := fun i => by
    by_cases hi : i < ys.length
    · exact ((chk1_ok hc).2.1 i hi).1
    · rw [nth_out hi]; omega
  have sx := (mapTo_facts (n := m) px (Nat.le_refl xs.length) x3).2
  have sy := (mapTo_facts (n := m) py (Nat.le_refl ys.length) (show ∀ i, i < ys.length → 0 ≤ nth ts i ∧ nth ts i < m by rw [← hl]; exact x3)).2
  rw [psum_all] at sx sy
  have e1 : rfar (fr (mapTo xs ts m xs.length)) (fr (mapTo ys ts m ys.length)) m = rfar (rmap (fr xs) (fun i => (nth ts i).toNat) xs.length) (rmap (fr ys) (fun i => (nth ts i).toNat) xs.length) m := by
    refine rfar_congr (fun j hj => ?_) (fun j hj => ?_)
    · unfold fr; rw [sx]; exact nth_mapTo x3 hj _
    · unfold fr; rw [sy, hl]; exact nth_mapTo (by rw [← hl]; exact x3) hj _
  rw [e1]
  exact rfar_map _ _ _ _ _
end Go.Proofs.Ytnpnnfbmnlgioaa

