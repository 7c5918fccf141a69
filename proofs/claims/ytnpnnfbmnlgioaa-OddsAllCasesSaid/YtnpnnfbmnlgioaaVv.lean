/-
  Arithmetic for OddsCounts: how often each outcome is picked, and chances in lowest terms. No code.
  What OddsCounts compares: the chances of an outcome, of all others, of a set, and of an outcome given the set. No code.
  Chances in lowest terms that make 1 together, and a chance given a set.
-/
import Derived.Test.YtnpnnfbmnlgioaaVa
import Derived.Test.YtnpnnfbmnlgioaaVi
import Derived.Test.YtnpnnfbmnlgioaaY
namespace Go.Proofs.Ytnpnnfbmnlgioaa

/-! ### Picked -/
/-- How many of the values below v stand for k. -/
def cntP (xs : List Int) (v : Int) (k : Nat) : Int := max 0 (min (psum xs (k + 1)) v - psum xs k)
theorem psum_step {xs : List Int} (h : Pos xs) (k : Nat) : psum xs k ≤ psum xs (k + 1) := by
  by_cases hk : k < xs.length
  · rw [psum_succ hk]; have := h k; omega
  · unfold psum
    rw [List.take_of_length_le (by omega), List.take_of_length_le (by omega)]
    exact Int.le_refl _
theorem psum_mono {xs : List Int} (h : Pos xs) {i j : Nat} (hij : i ≤ j) : psum xs i ≤ psum xs j := by
  obtain ⟨m, rfl⟩ : ∃ m, j = i + m := ⟨j - i, by omega⟩
  clear hij
  induction m with
  | zero => exact Int.le_refl _
  | succ m ih => exact Int.le_trans ih (psum_step h (i + m))
theorem cntP_zero {xs : List Int} (h : Pos xs) (k : Nat) : cntP xs 0 k = 0 := by
  have := psum_nonneg h k
  unfold cntP
  omega
theorem cntP_all {xs : List Int} (h : Pos xs) {k : Nat} (hk : k < xs.length) : cntP xs (lsum xs) k = nth xs k := by
  have h1 := psum_le h (show k + 1 ≤ xs.length by omega)
  have h2 := psum_succ hk
  have h3 := h k
  unfold cntP
  omega
theorem cntP_same {xs : List Int} {v : Int} {k : Nat} (h1 : psum xs k ≤ v) (h2 : v < psum xs (k + 1)) : cntP xs (v + 1) k = cntP xs v k + 1 := by
  unfold cntP
  omega
theorem cntP_other {xs : List Int} (h : Pos xs) {v : Int} {j k : Nat} (hne : j ≠ k) (h1 : psum xs k ≤ v) (h2 : v < psum xs (k + 1)) : cntP xs (v + 1) j = cntP xs v j := by
  unfold cntP
  rcases Nat.lt_or_gt_of_ne hne with hlt | hgt
  · have := psum_mono h (show j + 1 ≤ k by omega)
    omega
  · have := psum_mono h (show k + 1 ≤ j by omega)
    omega
/-- The outcome that a value stands for. -/
theorem pick_some {xs : List Int} (h0 : chk1 xs = 0) {v : Int} (hv : 0 ≤ v) (hlt : v < lsum xs) : ∃ k, k < xs.length ∧ sPick xs v = ((k : Int), 0) ∧ psum xs k ≤ v ∧ v < psum xs (k + 1) := by
  have H : ∀ m, m ≤ xs.length → (∃ k, k < m ∧ psum xs k ≤ v ∧ v < psum xs (k + 1)) ∨ psum xs m ≤ v := fun m => by
    induction m with
    | zero => intro _; right; rw [psum_zero]; exact hv
    | succ m ih =>
      intro hm
      rcases ih (by omega) with ⟨k, k1, k2, k3⟩ | h
      · exact .inl ⟨k, by omega, k2, k3⟩
      · by_cases hx : v < psum xs (m + 1)
        · exact .inl ⟨m, by omega, h, hx⟩
        · right; omega
  rcases H xs.length (Nat.le_refl _) with ⟨k, k1, k2, k3⟩ | h
  · have hs := (chk1_ok h0).2.1.pos
    refine ⟨k, k1, sPick_at h0 hv k1 k3 (fun i hi => ?_), k2, k3⟩
    have := psum_mono hs (show i + 1 ≤ k by omega)
    omega
  · rw [psum_all] at h; omega

/-! ### Lowest terms -/
theorem nfrac {N D a b : Nat} (hD : 0 < D) (hb : 0 < b) (hc : Nat.gcd N D = 1) (h : N * b = a * D) : N = a / Nat.gcd a b ∧ D = b / Nat.gcd a b := by
  have hg : 0 < Nat.gcd a b := Nat.gcd_pos_of_pos_right _ hb
  obtain ⟨g, hgg⟩ : ∃ g, Nat.gcd a b = g := ⟨_, rfl⟩
  obtain ⟨a', ha'⟩ : g ∣ a := by rw [← hgg]; exact Nat.gcd_dvd_left _ _
  obtain ⟨b', hb'⟩ : g ∣ b := by rw [← hgg]; exact Nat.gcd_dvd_right _ _
  rw [hgg] at hg ⊢
  have hco : Nat.gcd a' b' = 1 := by
    rw [ha', hb', Nat.gcd_mul_left] at hgg
    have : g * Nat.gcd a' b' = g * 1 := by omega
    exact Nat.eq_of_mul_eq_mul_left hg this
  have e : N * b' = a' * D := by
    have : g * (N * b') = g * (a' * D) := by
      rw [ha', hb'] at h
      rw [← Nat.mul_assoc, Nat.mul_comm g N, Nat.mul_assoc, ← Nat.mul_assoc]
      rw [Nat.mul_assoc]
      rw [h, Nat.mul_assoc]
    exact Nat.eq_of_mul_eq_mul_left hg this
  have d1 : b' ∣ D := by
    have : b' ∣ a' * D := ⟨N, by rw [← e, Nat.mul_comm]⟩
    exact Nat.Coprime.dvd_of_dvd_mul_left (by rw [Nat.Coprime, Nat.gcd_comm]; exact hco) this
  have d2 : D ∣ b' := by
    have : D ∣ N * b' := ⟨a', by rw [e, Nat.mul_comm]⟩
    exact Nat.Coprime.dvd_of_dvd_mul_left (by rw [Nat.Coprime, Nat.gcd_comm]; exact hc) this
  have eD : D = b' := Nat.dvd_antisymm d2 d1
  have eN : N = a' := by
    rw [eD] at e hD
    exact Nat.eq_of_mul_eq_mul_right hD e
  rw [ha', hb', Nat.mul_div_cancel_left _ hg, Nat.mul_div_cancel_left _ hg]
  exact ⟨eN, eD⟩
/-- The product of two chances in lowest terms is in lowest terms, if it is shortened ahead. -/
theorem both_low {pn pd qn qd : Nat} (hpd : 0 < pd) (hqd : 0 < qd) (hp : Nat.gcd pn pd = 1) (hq : Nat.gcd qn qd = 1) :
    Nat.gcd (pn / Nat.gcd pn qd * (qn / Nat.gcd qn pd)) (qd / Nat.gcd pn qd * (pd / Nat.gcd qn pd)) = 1 := by
  have h1 : 0 < Nat.gcd pn qd := Nat.gcd_pos_of_pos_right _ hqd
  have h2 : 0 < Nat.gcd qn pd := Nat.gcd_pos_of_pos_right _ hpd
  have c1 : Nat.Coprime (pn / Nat.gcd pn qd) (qd / Nat.gcd pn qd) := Nat.coprime_div_gcd_div_gcd h1
  have c2 : Nat.Coprime (qn / Nat.gcd qn pd) (pd / Nat.gcd qn pd) := Nat.coprime_div_gcd_div_gcd h2
  have dp : pn / Nat.gcd pn qd ∣ pn := Nat.div_dvd_of_dvd (Nat.gcd_dvd_left _ _)
  have dq : qn / Nat.gcd qn pd ∣ qn := Nat.div_dvd_of_dvd (Nat.gcd_dvd_left _ _)
  have ep : pd / Nat.gcd qn pd ∣ pd := Nat.div_dvd_of_dvd (Nat.gcd_dvd_right _ _)
  have eq : qd / Nat.gcd pn qd ∣ qd := Nat.div_dvd_of_dvd (Nat.gcd_dvd_right _ _)
  have c3 : Nat.Coprime (pn / Nat.gcd pn qd) (pd / Nat.gcd qn pd) := Nat.Coprime.coprime_dvd_left dp (Nat.Coprime.coprime_dvd_right ep hp)
  have c4 : Nat.Coprime (qn / Nat.gcd qn pd) (qd / Nat.gcd pn qd) := Nat.Coprime.coprime_dvd_left dq (Nat.Coprime.coprime_dvd_right eq hq)
  exact Nat.Coprime.mul_left (Nat.Coprime.mul_right c1 c3) (Nat.Coprime.mul_right c4 c2)
/-- Given S of n, a of S is a of n. -/
theorem both_given {a S n : Nat} (hS : 0 < S) (hn : 0 < n) :
    let pn := S / Nat.gcd S n
    let pd := n / Nat.gcd S n
    let qn := a / Nat.gcd a S
    let qd := S / Nat.gcd a S
    pn / Nat.gcd pn qd * (qn / Nat.gcd qn pd) = a / Nat.gcd a n ∧ qd / Nat.gcd pn qd * (pd / Nat.gcd qn pd) = n / Nat.gcd a n := by
  intro pn pd qn qd
  have g1 : 0 < Nat.gcd S n := Nat.gcd_pos_of_pos_left _ hS
  have g2 : 0 < Nat.gcd a S := Nat.gcd_pos_of_pos_right _ hS
  have e1 : Nat.gcd S n * pn = S := Nat.mul_div_cancel' (Nat.gcd_dvd_left _ _)
  have e2 : Nat.gcd S n * pd = n := Nat.mul_div_cancel' (Nat.gcd_dvd_right _ _)
  have e3 : Nat.gcd a S * qn = a := Nat.mul_div_cancel' (Nat.gcd_dvd_left _ _)
  have e4 : Nat.gcd a S * qd = S := Nat.mul_div_cancel' (Nat.gcd_dvd_right _ _)
  have hpd : 0 < pd := Nat.pos_of_ne_zero fun h => by rw [h] at e2; omega
  have hqd : 0 < qd := Nat.pos_of_ne_zero fun h => by rw [h] at e4; omega
  have cp : Nat.gcd pn pd = 1 := Nat.coprime_div_gcd_div_gcd g1
  have cq : Nat.gcd qn qd = 1 := Nat.coprime_div_gcd_div_gcd g2
  have hlow := both_low hpd hqd cp cq
  have h1 : 0 < Nat.gcd pn qd := Nat.gcd_pos_of_pos_right _ hqd
  have h2 : 0 < Nat.gcd qn pd := Nat.gcd_pos_of_pos_right _ hpd
  have f1 : Nat.gcd pn qd * (pn / Nat.gcd pn qd) = pn := Nat.mul_div_cancel' (Nat.gcd_dvd_left _ _)
  have f2 : Nat.gcd pn qd * (qd / Nat.gcd pn qd) = qd := Nat.mul_div_cancel' (Nat.gcd_dvd_right _ _)
  have f3 : Nat.gcd qn pd * (qn / Nat.gcd qn pd) = qn := Nat.mul_div_cancel' (Nat.gcd_dvd_left _ _)
  have f4 : Nat.gcd qn pd * (pd / Nat.gcd qn pd) = pd := Nat.mul_div_cancel' (Nat.gcd_dvd_right _ _)
  generalize pn / Nat.gcd pn qd = A at *
  generalize qd / Nat.gcd pn qd = C at *
  generalize qn / Nat.gcd qn pd = B at *
  generalize pd / Nat.gcd qn pd = D at *
  generalize Nat.gcd pn qd = h at *
  generalize Nat.gcd qn pd = k at *
  have hC : 0 < C := Nat.pos_of_ne_zero fun z => by rw [z] at f2; omega
  have hD : 0 < D := Nat.pos_of_ne_zero fun z => by rw [z] at f4; omega
  refine nfrac (Nat.mul_pos hC hD) hn hlow ?_
  -- A * B * n = a * (C * D)
  have m1 : pn * qn * n = a * (qd * pd) := by
    have x1 : (Nat.gcd S n * Nat.gcd a S) * (pn * qn * n) = (Nat.gcd S n * Nat.gcd a S) * (a * (qd * pd)) := by
      calc (Nat.gcd S n * Nat.gcd a S) * (pn * qn * n) = (Nat.gcd S n * pn) * (Nat.gcd a S * qn) * n := by ac_rfl
        _ = S * a * n := by rw [e1, e3]
        _ = a * ((Nat.gcd a S * qd) * (Nat.gcd S n * pd)) := by rw [e4, e2]; ac_rfl
        _ = (Nat.gcd S n * Nat.gcd a S) * (a * (qd * pd)) := by ac_rfl
    exact Nat.eq_of_mul_eq_mul_left (Nat.mul_pos g1 g2) x1
  have x2 : (h * k) * (A * B * n) = (h * k) * (a * (C * D)) := by
    calc (h * k) * (A * B * n) = (h * A) * (k * B) * n := by ac_rfl
      _ = pn * qn * n := by rw [f1, f3]
      _ = a * (qd * pd) := m1
      _ = a * ((h * C) * (k * D)) := by rw [f2, f4]
      _ = (h * k) * (a * (C * D)) := by ac_rfl
  exact Nat.eq_of_mul_eq_mul_left (Nat.mul_pos h1 h2) x2
end Go.Proofs.Ytnpnnfbmnlgioaa

namespace Go.Proofs.Ytnpnnfbmnlgioaa

theorem nth_only {xs os : List Int} (ha : asc xs.length os = true) {k i : Nat} (hk : k ≤ os.length) (hi : i < k) : nth (onlyTo xs os k) (nth os i).toNat = nth xs (nth os i).toNat := by
  induction k with
  | zero => omega
  | succ k ih =>
    have h1 := asc_at ha (show k < os.length by omega)
    have h2 := asc_nonneg ha (show k < os.length by omega)
    simp only [onlyTo]
    rw [nth_set (by rw [onlyTo_length]; omega)]
    by_cases e : (nth os k).toNat = (nth os i).toNat
    · rw [if_pos e, e]
    · rw [if_neg e]
      have : i ≠ k := fun h => e (by rw [h])
      exact ih (by omega) (by omega)
theorem lsum_only0 (xs os : List Int) : lsum (onlyTo xs os 0) = 0 := by simp only [onlyTo]; exact lsum_replicate _

/-- The chance of some outcomes whose weights add up to S. -/
theorem sOf_at {xs os : List Int} {S : Int} (h0 : chk1 xs = 0) (ha : asc xs.length os = true) (hS : lsum (onlyL xs os) = S) : sOf xs os = (S / Int.gcd S (lsum xs), lsum xs / Int.gcd S (lsum xs), 0) := by
  have hc : chkS xs os = 0 := by unfold chkS; rw [if_neg (by simpa using h0), if_pos ha]
  unfold sOf
  rw [if_neg (by simpa using hc), hS]
theorem asc_one {n a : Nat} (h : a < n) : asc n [(a : Int)] = true := by
  refine asc_true fun k hk => ?_
  obtain rfl : k = 0 := by simpa using hk
  simp [badO, prevO, nth]
  omega
theorem sum_one {xs : List Int} {a : Nat} (h : a < xs.length) : lsum (onlyL xs [(a : Int)]) = nth xs a := by
  have := lsum_onlyTo (asc_one h) (k := 0) (by simp)
  rw [lsum_only0] at this
  unfold onlyL
  simpa [nth] using this
theorem asc_two {n a b : Nat} (hab : a < b) (h : b < n) : asc n [(a : Int), (b : Int)] = true := by
  refine asc_true fun k hk => ?_
  rcases k with _ | _ | k
  · simp [badO, prevO, nth]; omega
  · simp [badO, prevO, nth]; omega
  · simp at hk; omega
theorem sum_two {xs : List Int} {a b : Nat} (hab : a < b) (h : b < xs.length) : lsum (onlyL xs [(a : Int), (b : Int)]) = nth xs a + nth xs b := by
  have h1 := lsum_onlyTo (asc_two hab h) (k := 0) (by simp)
  have h2 := lsum_onlyTo (asc_two hab h) (k := 1) (by simp)
  rw [lsum_only0] at h1
  rw [show 0 + 1 = 1 from rfl] at h1
  rw [h1] at h2
  unfold onlyL
  simpa [nth] using h2

/-- All outcomes but one. -/
def ix (a j : Nat) : Nat := if j < a then j else j + 1
def oth (a m : Nat) : List Int := upto (fun j => ((ix a j : Nat) : Int)) m
theorem oth_length (a m : Nat) : (oth a m).length = m := upto_length _ _
theorem nth_oth {a m j : Nat} (h : j < m) : nth (oth a m) j = (ix a j : Int) := by
  unfold oth upto nth
  simp [h]
theorem asc_oth {n a : Nat} (h : a < n) : asc n (oth a (n - 1)) = true := by
  refine asc_true fun k hk => ?_
  rw [oth_length] at hk
  have e1 := nth_oth (a := a) hk
  have hlt : ix a k < n := by unfold ix; split <;> omega
  unfold badO
  rw [e1]
  rcases k with _ | k
  · simp [prevO]; omega
  · rw [prevO_succ, nth_oth (by omega)]
    have : ix a k < ix a (k + 1) := by unfold ix; split <;> split <;> omega
    simp; omega
theorem sum_oth {xs : List Int} {a : Nat} (h : a < xs.length) : lsum (onlyL xs (oth a (xs.length - 1))) = lsum xs - nth xs a := by
  have ha := asc_oth h
  have H : ∀ k, k ≤ xs.length - 1 → lsum (onlyTo xs (oth a (xs.length - 1)) k) = if k ≤ a then psum xs k else psum xs (k + 1) - nth xs a := fun k => by
    induction k with
    | zero => intro _; rw [lsum_only0, if_pos (by omega), psum_zero]
    | succ k ih =>
      intro hk
      rw [lsum_onlyTo ha (by rw [oth_length]; omega), ih (by omega), nth_oth (by omega), Int.toNat_natCast]
      by_cases h1 : k + 1 ≤ a
      · rw [if_pos (by omega), if_pos h1, psum_succ (by omega)]
        rw [show ix a k = k by unfold ix; rw [if_pos (by omega)]]
      · rw [if_neg h1, show ix a k = k + 1 by unfold ix; rw [if_neg (by omega)]]
        have e2 := psum_succ (xs := xs) (k := k + 1) (by omega)
        by_cases h2 : k ≤ a
        · have hka : a = k := by omega
          have e1 := psum_succ (xs := xs) (k := k) (by omega)
          rw [if_pos h2, e2, e1, hka]
          omega
        · rw [if_neg h2, e2]
          omega
  unfold onlyL
  rw [oth_length, H _ (Nat.le_refl _)]
  by_cases h1 : xs.length - 1 ≤ a
  · obtain rfl : a = xs.length - 1 := by omega
    rw [if_pos (Nat.le_refl _)]
    have := psum_succ (xs := xs) (k := xs.length - 1) (by omega)
    rw [show xs.length - 1 + 1 = xs.length by omega, psum_all] at this
    omega
  · rw [if_neg h1, show xs.length - 1 + 1 = xs.length by omega, psum_all]

/-- The weights of a set alone, if they are not all 0. -/
theorem only_valid {xs os : List Int} (h0 : chk1 xs = 0) (ha : asc xs.length os = true) (hS : 1 ≤ lsum (onlyL xs os)) : chk1 (onlyL xs os) = 0 ∧ (onlyL xs os).length = xs.length := by
  obtain ⟨a1, a2, a3, a4⟩ := chk1_ok h0
  obtain ⟨f1, f2, f3, f4⟩ := onlyL_facts a2 ha
  refine ⟨?_, f1⟩
  unfold chk1
  rw [if_neg (by omega), if_neg]
  rintro (h | h)
  · exact not_small_of_anyB h f2
  · simp [outB] at h; omega

/-- What is compared at last. -/
theorem counts_facts {xs : List Int} {os : List Int} {a b : Nat} (h0 : chk1 xs = 0) (ha : a < xs.length) (hb : b < xs.length) (hos : os = if a = b then [(a : Int)] else [((min a b : Nat) : Int), ((max a b : Nat) : Int)]) :
    ∃ S : Int, asc xs.length os = true ∧ lsum (onlyL xs os) = S ∧ 0 ≤ S ∧ S ≤ lsum xs ∧ (S = 0 → nth xs a = 0 ∧ nth xs b = 0) ∧ nth (onlyL xs os) a = nth xs a := by
  obtain ⟨a1, a2, a3, a4⟩ := chk1_ok h0
  have p1 := a2.pos a
  have p2 := a2.pos b
  by_cases hab : a = b
  · rw [if_pos hab] at hos
    subst hab hos
    have hasc := asc_one ha
    obtain ⟨_, _, f3, f4⟩ := onlyL_facts a2 hasc
    refine ⟨_, hasc, rfl, f3, f4, fun h => ?_, ?_⟩
    · rw [sum_one ha] at h; exact ⟨h, h⟩
    · have := nth_only hasc (k := 1) (i := 0) (by simp) (by omega)
      simpa [nth, onlyL] using this
  · rw [if_neg hab] at hos
    subst hos
    have hlt : min a b < max a b := by omega
    have hmx : max a b < xs.length := by omega
    have hasc := asc_two hlt hmx
    obtain ⟨_, _, f3, f4⟩ := onlyL_facts a2 hasc
    refine ⟨_, hasc, rfl, f3, f4, fun h => ?_, ?_⟩
    · rw [sum_two hlt hmx] at h
      rcases Nat.lt_or_gt_of_ne hab with h1 | h1
      · rw [Nat.min_eq_left (by omega), Nat.max_eq_right (by omega)] at h
        omega
      · rw [Nat.min_eq_right (by omega), Nat.max_eq_left (by omega)] at h
        omega
    · unfold onlyL
      rcases Nat.lt_or_gt_of_ne hab with h1 | h1
      · have := nth_only hasc (k := 2) (i := 0) (by simp) (by omega)
        rw [Nat.min_eq_left (by omega), Nat.max_eq_right (by omega)] at this ⊢
        simpa [nth] using this
      · have := nth_only hasc (k := 2) (i := 1) (by simp) (by omega)
        rw [Nat.min_eq_right (by omega), Nat.max_eq_left (by omega)] at this ⊢
        simpa [nth] using this
end Go.Proofs.Ytnpnnfbmnlgioaa

namespace Go.Proofs.Ytnpnnfbmnlgioaa
open Go.RowKit

theorem gcd_nat (a b : Nat) : (Int.gcd (a : Int) (b : Int)) = Nat.gcd a b := Int.gcd_natCast_natCast a b
theorem low_nat (a b : Nat) : (a : Int) / (Int.gcd (a : Int) (b : Int) : Int) = ((a / Nat.gcd a b : Nat) : Int) ∧ (b : Int) / (Int.gcd (a : Int) (b : Int) : Int) = ((b / Nat.gcd a b : Nat) : Int) := by
  rw [gcd_nat, Int.natCast_ediv, Int.natCast_ediv]
  exact ⟨rfl, rfl⟩
theorem badC_nat {a b : Nat} (hb : 0 < b) (hb2 : b ≤ 1000000000000000) (hab : a ≤ b) (hc : Nat.gcd a b = 1) : badC (a : Int) (b : Int) = false := by
  unfold badC
  have h1 : outB 1 1000000000000000 (b : Int) = false := by simp [outB]; omega
  have h2 : outB 0 (b : Int) (a : Int) = false := by simp [outB]; omega
  have h3 : decide (1 < (Int.gcd (a : Int) (b : Int) : Int)) = false := by rw [gcd_nat, hc]; simp
  rw [h1, h2, h3]
  rfl
/-- A chance and 1 less it are 1 together. -/
theorem either_one {a b : Nat} (hb : 0 < b) (hb2 : b ≤ 1000000) (hab : a ≤ b) (hc : Nat.gcd a b = 1) (w : World) :
    Calls Try.prog 9 #[.agg #[.int .i64 (a : Int), .int .i64 (b : Int)], .agg #[.int .i64 ((b - a : Nat) : Int), .int .i64 (b : Int)]] w fun e w' => e = .returned (.tuple #[.agg #[.int .i64 1, .int .i64 1], .int .i64 0]) ∧ Below w.heap.size w w' := by
  have hc2 : Nat.gcd (b - a) b = 1 := by
    have e : b = (b - a) + a := by omega
    have h1 : Nat.gcd (b - a) ((b - a) + a) = Nat.gcd (b - a) a := by rw [Nat.gcd_comm, Nat.gcd_self_add_left, Nat.gcd_comm]
    have h2 : Nat.gcd a ((b - a) + a) = Nat.gcd a (b - a) := by rw [Nat.gcd_add_self_right]
    rw [← e] at h1 h2
    rw [h1, Nat.gcd_comm, ← h2]; exact hc
  have hg : (Int.gcd (b : Int) (b : Int) : Int) = (b : Int) := by rw [gcd_nat, Nat.gcd_self]
  have hdd : (b : Int) / (b : Int) = 1 := Int.ediv_self (by omega)
  have h := either_small (a : Int) (b : Int) ((b - a : Nat) : Int) (b : Int) w (badC_nat hb (by omega) hab hc) (badC_nat hb (by omega) (by omega) hc2) (b : Int) 1 1 (b : Int) hg.symm hdd.symm hdd.symm (by omega) (show _ ≤ _ by omega) (by omega) (b : Int)
    (by rw [Int.emod_self, Int.gcd_zero_right]; simp) (by rw [hdd]; decide) (by rw [hdd]; decide)
  rw [hdd] at h
  exact h
/-- How an outcome, all others, a set, and the outcome given the set are likely. -/
theorem chances_of {xs : List Int} {a : Nat} (h0 : chk1 xs = 0) (ha : a < xs.length) (hn : lsum xs ≤ 1000000) :
    ∃ A N : Nat, 0 < N ∧ N ≤ 1000000 ∧ A ≤ N ∧ Nat.gcd A N = 1 ∧ sOf xs [(a : Int)] = ((A : Int), (N : Int), 0) ∧ sOf xs (oth a (xs.length - 1)) = (((N - A : Nat) : Int), (N : Int), 0) ∧
      ∀ os, asc xs.length os = true → 1 ≤ lsum (onlyL xs os) → nth (onlyL xs os) a = nth xs a → ∃ pn pd qn qd : Nat, 0 < pd ∧ 0 < qd ∧ pn ≤ pd ∧ qn ≤ qd ∧ pd ≤ 1000000 ∧ qd ≤ 1000000 ∧ Nat.gcd pn pd = 1 ∧ Nat.gcd qn qd = 1 ∧ sOf xs os = ((pn : Int), (pd : Int), 0) ∧ sOf (onlyL xs os) [(a : Int)] = ((qn : Int), (qd : Int), 0) ∧
        pn / Nat.gcd pn qd * (qn / Nat.gcd qn pd) = A ∧ qd / Nat.gcd pn qd * (pd / Nat.gcd qn pd) = N := by
  obtain ⟨a1, a2, a3, a4⟩ := chk1_ok h0
  have hp := a2.pos a
  have hle := nth_le_lsum a2.pos a
  obtain ⟨x, hx⟩ := Int.eq_ofNat_of_zero_le hp
  obtain ⟨n, hnn⟩ := Int.eq_ofNat_of_zero_le (show 0 ≤ lsum xs by omega)
  have hxn : x ≤ n := by omega
  have hn0 : 0 < n := by omega
  have g1 : 0 < Nat.gcd x n := Nat.gcd_pos_of_pos_right _ hn0
  have e1 : Nat.gcd x n * (x / Nat.gcd x n) = x := Nat.mul_div_cancel' (Nat.gcd_dvd_left _ _)
  have e2 : Nat.gcd x n * (n / Nat.gcd x n) = n := Nat.mul_div_cancel' (Nat.gcd_dvd_right _ _)
  have hN0 : 0 < n / Nat.gcd x n := Nat.pos_of_ne_zero fun h => by rw [h] at e2; omega
  have hN1 : n / Nat.gcd x n ≤ n := Nat.div_le_self _ _
  refine ⟨x / Nat.gcd x n, n / Nat.gcd x n, hN0, by omega, Nat.div_le_div_right hxn, Nat.coprime_div_gcd_div_gcd g1, ?_, ?_, ?_⟩
  · rw [sOf_at h0 (asc_one ha) (sum_one ha), hx, hnn]
    obtain ⟨l1, l2⟩ := low_nat x n
    exact Prod.ext l1 (Prod.ext l2 rfl)
  · rw [sOf_at h0 (asc_oth ha) (sum_oth ha), hx, hnn, show (n : Int) - (x : Int) = ((n - x : Nat) : Int) by omega]
    have hg : Nat.gcd (n - x) n = Nat.gcd x n := by
      have e : n = (n - x) + x := by omega
      have h1 : Nat.gcd (n - x) ((n - x) + x) = Nat.gcd (n - x) x := by rw [Nat.gcd_comm, Nat.gcd_self_add_left, Nat.gcd_comm]
      have h2 : Nat.gcd x ((n - x) + x) = Nat.gcd x (n - x) := by rw [Nat.gcd_add_self_right]
      rw [← e] at h1 h2
      rw [h1, Nat.gcd_comm, ← h2]
    obtain ⟨l1, l2⟩ := low_nat (n - x) n
    rw [hg] at l1 l2
    have hsub : (n - x) / Nat.gcd x n = n / Nat.gcd x n - x / Nat.gcd x n := by
      refine Nat.eq_of_mul_eq_mul_left g1 ?_
      have h3 : Nat.gcd x n ∣ n - x := Nat.dvd_sub (Nat.gcd_dvd_right _ _) (Nat.gcd_dvd_left _ _)
      rw [Nat.mul_div_cancel' h3, Nat.mul_sub, e1, e2]
    rw [hsub] at l1
    exact Prod.ext l1 (Prod.ext l2 rfl)
  · intro os hasc hS hna
    obtain ⟨v1, v2⟩ := only_valid h0 hasc hS
    obtain ⟨_, f2, f3, f4⟩ := onlyL_facts a2 hasc
    have hle2 := nth_le_lsum f2.pos a
    rw [hna] at hle2
    obtain ⟨S, hSS⟩ := Int.eq_ofNat_of_zero_le f3
    have hS0 : 0 < S := by omega
    have hSn : S ≤ n := by omega
    have hxS : x ≤ S := by omega
    have g2 : 0 < Nat.gcd S n := Nat.gcd_pos_of_pos_left _ hS0
    have g3 : 0 < Nat.gcd x S := Nat.gcd_pos_of_pos_right _ hS0
    have e4 : Nat.gcd S n * (n / Nat.gcd S n) = n := Nat.mul_div_cancel' (Nat.gcd_dvd_right _ _)
    have e5 : Nat.gcd x S * (S / Nat.gcd x S) = S := Nat.mul_div_cancel' (Nat.gcd_dvd_right _ _)
    have d1 : n / Nat.gcd S n ≤ n := Nat.div_le_self _ _
    have d2 : S / Nat.gcd x S ≤ S := Nat.div_le_self _ _
    obtain ⟨b1, b2⟩ := both_given (a := x) hS0 hn0
    refine ⟨S / Nat.gcd S n, n / Nat.gcd S n, x / Nat.gcd x S, S / Nat.gcd x S, Nat.pos_of_ne_zero fun h => ?_, Nat.pos_of_ne_zero fun h => ?_, Nat.div_le_div_right hSn, Nat.div_le_div_right hxS, by omega, by omega,
      Nat.coprime_div_gcd_div_gcd g2, Nat.coprime_div_gcd_div_gcd g3, ?_, ?_, b1, b2⟩
    · rw [h] at e4; omega
    · rw [h] at e5; omega
    · rw [sOf_at h0 hasc rfl, hSS, hnn]
      obtain ⟨l1, l2⟩ := low_nat S n
      exact Prod.ext l1 (Prod.ext l2 rfl)
    · rw [sOf_at v1 (by rw [v2]; exact asc_one ha) (by rw [sum_one (by rw [v2]; exact ha), hna]), hSS, hx]
      obtain ⟨l1, l2⟩ := low_nat x S
      exact Prod.ext l1 (Prod.ext l2 rfl)
end Go.Proofs.Ytnpnnfbmnlgioaa

