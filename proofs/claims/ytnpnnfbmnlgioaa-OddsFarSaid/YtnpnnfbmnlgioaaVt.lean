/-
  Arithmetic for OddsCounts: how often each outcome is picked, and chances in lowest terms. No code.
-/
import Derived.Test.YtnpnnfbmnlgioaaVa
namespace Go.Proofs.Ytnpnnfbmnlgioaa

/-! ### Picked -/
/-- How many of the values below v stand for k. -/
def cntP (xs : List Int) (v : Int) (k : Nat) : Int := max 0 (min (psum xs (k + 1)) v - psum xs k)
theorem psum_step {xs : List Int} (h : Pos xs) (k : Nat) : psum xs k ≤ psum xs (k + 1) := by
  by_cases hk : k < xs.length
  · rw [psum_succ hk]; have := h k; omega
  · unfold psum
    rw [List.take_of_length_le (by omega), List.take_of_length_le (by omega)]
    exact Int.le_refl _
theorem psum_mono {xs : List Int} (h : Pos xs) {i j : Nat} (hij : i ≤ j) : psum xs i ≤ psum xs j := by
  obtain ⟨m, rfl⟩ : ∃ m, j = i + m := ⟨j - i, by omega⟩
  clear hij
  induction m with
  | zero => exact Int.le_refl _
  | succ m ih => exact Int.le_trans ih (psum_step h (i + m))
theorem cntP_zero {xs : List Int} (h : Pos xs) (k : Nat) : cntP xs 0 k = 0 := by
  have := psum_nonneg h k
  unfold cntP
  omega
theorem cntP_all {xs : List Int} (h : Pos xs) {k : Nat} (hk : k < xs.length) : cntP xs (lsum xs) k = nth xs k := by
  have h1 := psum_le h (show k + 1 ≤ xs.length by omega)
  have h2 := psum_succ hk
  have h3 := h k
  unfold cntP
  omega
theorem cntP_same {xs : List Int} {v : Int} {k : Nat} (h1 : psum xs k ≤ v) (h2 : v < psum xs (k + 1)) : cntP xs (v + 1) k = cntP xs v k + 1 := by
  unfold cntP
  omega
theorem cntP_other {xs : List Int} (h : Pos xs) {v : Int} {j k : Nat} (hne : j ≠ k) (h1 : psum xs k ≤ v) (h2 : v < psum xs (k + 1)) : cntP xs (v + 1) j = cntP xs v j := by
  unfold cntP
  rcases Nat.lt_or_gt_of_ne hne with hlt | hgt
  · have := psum_mono h (show j + 1 ≤ k by omega)
    omega
  · have := psum_mono h (show k + 1 ≤ j by omega)
    omega
/-- The outcome that a value stands for. -/
theorem pick_some {xs : List Int} (h0 : chk1 xs = 0) {v : Int} (hv : 0 ≤ v) (hlt : v < lsum xs) : ∃ k, k < xs.length ∧ sPick xs v = ((k : Int), 0) ∧ psum xs k ≤ v ∧ v < psum xs (k + 1) := by
  have H : ∀ m, m ≤ xs.length → (∃ k, k < m ∧ psum xs k ≤ v ∧ v < psum xs (k + 1)) ∨ psum xs m ≤ v := fun m => by
    induction m with
    | zero => intro _; right; rw [psum_zero]; exact hv
    | succ m ih =>
      intro hm
      rcases ih (by omega) with ⟨k, k1, k2, k3⟩ | h
      · exact .inl ⟨k, by omega, k2, k3⟩
      · by_cases hx : v < psum xs (m + 1)
        · exact .inl ⟨m, by omega, h, hx⟩
        · right; omega
  rcases H xs.length (Nat.le_refl _) with ⟨k, k1, k2, k3⟩ | h
  · have hs := (chk1_ok h0).2.1.pos
    refine ⟨k, k1, sPick_at h0 hv k1 k3 (fun i hi => ?_), k2, k3⟩
    have := psum_mono hs (show i + 1 ≤ k by omega)
    omega
  · rw [psum_all] at h; omega

/-! ### Lowest terms -/
theorem nfrac {N D a b : Nat} (hD : 0 < D) (hb : 0 < b) (hc : Nat.gcd N D = 1) (h : N * b = a * D) : N = a / Nat.gcd a b ∧ D = b / Nat.gcd a b := by
  have hg : 0 < Nat.gcd a b := Nat.gcd_pos_of_pos_right _ hb
  obtain ⟨g, hgg⟩ : ∃ g, Nat.gcd a b = g := ⟨_, rfl⟩
  obtain ⟨a', ha'⟩ : g ∣ a := by rw [← hgg]; exact Nat.gcd_dvd_left _ _
  obtain ⟨b', hb'⟩ : g ∣ b := by rw [← hgg]; exact Nat.gcd_dvd_right _ _
  rw [hgg] at hg ⊢
  have hco : Nat.gcd a' b' = 1 := by
    rw [ha', hb', Nat.gcd_mul_left] at hgg
    have : g * Nat.gcd a' b' = g * 1 := by omega
    exact Nat.eq_of_mul_eq_mul_left hg this
  have e : N * b' = a' * D := by
    have : g * (N * b') = g * (a' * D) := by
      rw [ha', hb'] at h
      rw [← Nat.mul_assoc, Nat.mul_comm g N, Nat.mul_assoc, ← Nat.mul_assoc]
      rw [Nat.mul_assoc]
      rw [h, Nat.mul_assoc]
    exact Nat.eq_of_mul_eq_mul_left hg this
  have d1 : b' ∣ D := by
    have : b' ∣ a' * D := ⟨N, by rw [← e, Nat.mul_comm]⟩
    exact Nat.Coprime.dvd_of_dvd_mul_left (by rw [Nat.Coprime, Nat.gcd_comm]; exact hco) this
  have d2 : D ∣ b' := by
    have : D ∣ N * b' := ⟨a', by rw [e, Nat.mul_comm]⟩
    exact Nat.Coprime.dvd_of_dvd_mul_left (by rw [Nat.Coprime, Nat.gcd_comm]; exact hc) this
  have eD : D = b' := Nat.dvd_antisymm d2 d1
  have eN : N = a' := by
    rw [eD] at e hD
    exact Nat.eq_of_mul_eq_mul_right hD e
  rw [ha', hb', Nat.mul_div_cancel_left _ hg, Nat.mul_div_cancel_left _ hg]
  exact ⟨eN, eD⟩
/-- The product of two chances in lowest terms is in lowest terms, if it is shortened ahead. -/
theorem both_low {pn pd qn qd : Nat} (hpd : 0 < pd) (hqd : 0 < qd) (hp : Nat.gcd pn pd = 1) (hq : Nat.gcd qn qd = 1) :
    Nat.gcd (pn / Nat.gcd pn qd * (qn / Nat.gcd qn pd)) (qd / Nat.gcd pn qd * (pd / Nat.gcd qn pd)) = 1 := by
  have h1 : 0 < Nat.gcd pn qd := Nat.gcd_pos_of_pos_right _ hqd
  have h2 : 0 < Nat.gcd qn pd := Nat.gcd_pos_of_pos_right _ hpd
  have c1 : Nat.Coprime (pn / Nat.gcd pn qd) (qd / Nat.gcd pn qd) := Nat.coprime_div_gcd_div_gcd h1
  have c2 : Nat.Coprime (qn / Nat.gcd qn pd) (pd / Nat.gcd qn pd) := Nat.coprime_div_gcd_div_gcd h2
  have dp : pn / Nat.gcd pn qd ∣ pn := Nat.div_dvd_of_dvd (Nat.gcd_dvd_left _ _)
  have dq : qn / Nat.gcd qn pd ∣ qn := Nat.div_dvd_of_dvd (Nat.gcd_dvd_left _ _)
  have ep : pd / Nat.gcd qn pd ∣ pd := Nat.div_dvd_of_dvd (Nat.gcd_dvd_right _ _)
  have eq : qd / Nat.gcd pn qd ∣ qd := Nat.div_dvd_of_dvd (Nat.gcd_dvd_right _ _)
  have c3 : Nat.Coprime (pn / Nat.gcd pn qd) (pd / Nat.gcd qn pd) := Nat.Coprime.coprime_dvd_left dp (Nat.Coprime.coprime_dvd_right ep hp)
  have c4 : Nat.Coprime (qn / Nat.gcd qn pd) (qd / Nat.gcd pn qd) := Nat.Coprime.coprime_dvd_left dq (Nat.Coprime.coprime_dvd_right eq hq)
  exact Nat.Coprime.mul_left (Nat.Coprime.mul_right c1 c3) (Nat.Coprime.mul_right c4 c2)
/-- Given S of n, a of S is a of n. -/
theorem both_given {a S n : Nat} (hS : 0 < S) (hn : 0 < n) :
    let pn := S / Nat.gcd S n
    let pd := n / Nat.gcd S n
    let qn := a / Nat.gcd a S
    let qd := S / Nat.gcd a S
    pn / Nat.gcd pn qd * (qn / Nat.gcd qn pd) = a / Nat.gcd a n ∧ qd / Nat.gcd pn qd * (pd / Nat.gcd qn pd) = n / Nat.gcd a n := by
  intro pn pd qn qd
  have g1 : 0 < Nat.gcd S n := Nat.gcd_pos_of_pos_left _ hS
  have g2 : 0 < Nat.gcd a S := Nat.gcd_pos_of_pos_right _ hS
  have e1 : Nat.gcd S n * pn = S := Nat.mul_div_cancel' (Nat.gcd_dvd_left _ _)
  have e2 : Nat.gcd S n * pd = n := Nat.mul_div_cancel' (Nat.gcd_dvd_right _ _)
  have e3 : Nat.gcd a S * qn = a := Nat.mul_div_cancel' (Nat.gcd_dvd_left _ _)
  have e4 : Nat.gcd a S * qd = S := Nat.mul_div_cancel' (Nat.gcd_dvd_right _ _)
  have hpd : 0 < pd := Nat.pos_of_ne_zero fun h => by rw [h] at e2; omega
  have hqd : 0 < qd := Nat.pos_of_ne_zero fun h => by rw [h] at e4; omega
  have cp : Nat.gcd pn pd = 1 := Nat.coprime_div_gcd_div_gcd g1
  have cq : Nat.gcd qn qd = 1 := Nat.coprime_div_gcd_div_gcd g2
  have hlow := both_low hpd hqd cp cq
  have h1 : 0 < Nat.gcd pn qd := Nat.gcd_pos_of_pos_right _ hqd
  have h2 : 0 < Nat.gcd qn pd := Nat.gcd_pos_of_pos_right _ hpd
  have f1 : Nat.gcd pn qd * (pn / Nat.gcd pn qd) = pn := Nat.mul_div_cancel' (Nat.gcd_dvd_left _ _)
  have f2 : Nat.gcd pn qd * (qd / Nat.gcd pn qd) = qd := Nat.mul_div_cancel' (Nat.gcd_dvd_right _ _)
  have f3 : Nat.gcd qn pd * (qn / Nat.gcd qn pd) = qn := Nat.mul_div_cancel' (Nat.gcd_dvd_left _ _)
  have f4 : Nat.gcd qn pd * (pd / Nat.gcd qn pd) = pd := Nat.mul_div_cancel' (Nat.gcd_dvd_right _ _)
  generalize pn / Nat.gcd pn qd = A at *
  generalize qd / Nat.gcd pn qd = C at *
  generalize qn / Nat.gcd qn pd = B at *
  generalize pd / Nat.gcd qn pd = D at *
  generalize Nat.gcd pn qd = h at *
  generalize Nat.gcd qn pd = k at *
  have hC : 0 < C := Nat.pos_of_ne_zero fun z => by rw [z] at f2; omega
  have hD : 0 < D := Nat.pos_of_ne_zero fun z => by rw [z] at f4; omega
  refine nfrac (Nat.mul_pos hC hD) hn hlow ?_
  -- A * B * n = a * (C * D)
  have m1 : pn * qn * n = a * (qd * pd) := by
    have x1 : (Nat.gcd S n * Nat.gcd a S) * (pn * qn * n) = (Nat.gcd S n * Nat.gcd a S) * (a * (qd * pd)) := by
      calc (Nat.gcd S n * Nat.gcd a S) * (pn * qn * n) = (Nat.gcd S n * pn) * (Nat.gcd a S * qn) * n := by ac_rfl
        _ = S * a * n := by rw [e1, e3]
        _ = a * ((Nat.gcd a S * qd) * (Nat.gcd S n * pd)) := by rw [e4, e2]; ac_rfl
        _ = (Nat.gcd S n * Nat.gcd a S) * (a * (qd * pd)) := by ac_rfl
    exact Nat.eq_of_mul_eq_mul_left (Nat.mul_pos g1 g2) x1
  have x2 : (h * k) * (A * B * n) = (h * k) * (a * (C * D)) := by
    calc (h * k) * (A * B * n) = (h * A) * (k * B) * n := by ac_rfl
      _ = pn * qn * n := by rw [f1, f3]
      _ = a * (qd * pd) := m1
      _ = a * ((h * C) * (k * D)) := by rw [f2, f4]
      _ = (h * k) * (a * (C * D)) := by ac_rfl
  exact Nat.eq_of_mul_eq_mul_left (Nat.mul_pos h1 h2) x2
end Go.Proofs.Ytnpnnfbmnlgioaa
