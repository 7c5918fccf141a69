/-
  Chances in lowest terms that make 1 together, and a chance given a set. 
-/
import Derived.Test.YtnpnnfbmnlgioaaVu
import Derived.Test.YtnpnnfbmnlgioaaY
namespace Go.Proofs.Ytnpnnfbmnlgioaa
open Go.RowKit

theorem gcd_nat (a b : Nat) : (Int.gcd (a : Int) (b : Int)) = Nat.gcd a b := Int.gcd_natCast_natCast a b
theorem low_nat (a b : Nat) : (a : Int) / (Int.gcd (a : Int) (b : Int) : Int) = ((a / Nat.gcd a b : Nat) : Int) ∧ (b : Int) / (Int.gcd (a : Int) (b : Int) : Int) = ((b / Nat.gcd a b : Nat) : Int) := by
  rw [gcd_nat, Int.natCast_ediv, Int.natCast_ediv]
  exact ⟨rfl, rfl⟩
theorem badC_nat {a b : Nat} (hb : 0 < b) (hb2 : b ≤ 1000000000000000) (hab : a ≤ b) (hc : Nat.gcd a b = 1) : badC (a : Int) (b : Int) = false := by
  unfold badC
  have h1 : outB 1 1000000000000000 (b : Int) = false := by simp [outB]; omega
  have h2 : outB 0 (b : Int) (a : Int) = false := by simp [outB]; omega
  have h3 : decide (1 < (Int.gcd (a : Int) (b : Int) : Int)) = false := by rw [gcd_nat, hc]; simp
  rw [h1, h2, h3]
  rfl
/-- A chance and 1 less it are 1 together. -/
theorem either_one {a b : Nat} (hb : 0 < b) (hb2 : b ≤ 1000000) (hab : a ≤ b) (hc : Nat.gcd a b = 1) (w : World) :
    Calls Try.prog 9 #[.agg #[.int .i64 (a : Int), .int .i64 (b : Int)], .agg #[.int .i64 ((b - a : Nat) : Int), .int .i64 (b : Int)]] w fun e w' => e = .returned (.tuple #[.agg #[.int .i64 1, .int .i64 1], .int .i64 0]) ∧ Below w.heap.size w w' := by
  have hc2 : Nat.gcd (b - a) b = 1 := by
    have e : b = (b - a) + a := by omega
    have h1 : Nat.gcd (b - a) ((b - a) + a) = Nat.gcd (b - a) a := by rw [Nat.gcd_comm, Nat.gcd_self_add_left, Nat.gcd_comm]
    have h2 : Nat.gcd a ((b - a) + a) = Nat.gcd a (b - a) := by rw [Nat.gcd_add_self_right]
    rw [← e] at h1 h2
    rw [h1, Nat.gcd_comm, ← h2]; exact hc
  have hg : (Int.gcd (b : Int) (b : Int) : Int) = (b : Int) := by rw [gcd_nat, Nat.gcd_self]
  have hdd : (b : Int) / (b : Int) = 1 := Int.ediv_self (by omega)
  have h := either_small (a : Int) (b : Int) ((b - a : Nat) : Int) (b : Int) w (badC_nat hb (by omega) hab hc) (badC_nat hb (by omega) (by omega) hc2) (b : Int) 1 1 (b : Int) hg.symm hdd.symm hdd.symm (by omega) (show _ ≤ _ by omega) (by omega) (b : Int)
    (by rw [Int.emod_self, Int.gcd_zero_right]; simp) (by rw [hdd]; decide) (by rw [hdd]; decide)
  rw [hdd] at h
  exact h
/-- How an outcome, all others, a set, and the outcome given the set are likely. -/
theorem chances_of {xs : List Int} {a : Nat} (h0 : chk1 xs = 0) (ha : a < xs.length) (hn : lsum xs ≤ 1000000) :
    ∃ A N : Nat, 0 < N ∧ N ≤ 1000000 ∧ A ≤ N ∧ Nat.gcd A N = 1 ∧ sOf xs [(a : Int)] = ((A : Int), (N : Int), 0) ∧ sOf xs (oth a (xs.length - 1)) = (((N - A : Nat) : Int), (N : Int), 0) ∧
      ∀ os, asc xs.length os = true → 1 ≤ lsum (onlyL xs os) → nth (onlyL xs os) a = nth xs a → ∃ pn pd qn qd : Nat, 0 < pd ∧ 0 < qd ∧ pn ≤ pd ∧ qn ≤ qd ∧ pd ≤ 1000000 ∧ qd ≤ 1000000 ∧ Nat.gcd pn pd = 1 ∧ Nat.gcd qn qd = 1 ∧ sOf xs os = ((pn : Int), (pd : Int), 0) ∧ sOf (onlyL xs os) [(a : Int)] = ((qn : Int), (qd : Int), 0) ∧
        pn / Nat.gcd pn qd * (qn / Nat.gcd qn pd) = A ∧ qd / Nat.gcd pn qd * (pd / Nat.gcd qn pd) = N := by
  obtain ⟨a1, a2, a3, a4⟩ := chk1_ok h0
  have hp := a2.pos a
  have hle := nth_le_lsum a2.pos a
  obtain ⟨x, hx⟩ := Int.eq_ofNat_of_zero_le hp
  obtain ⟨n, hnn⟩ := Int.eq_ofNat_of_zero_le (show 0 ≤ lsum xs by omega)
  have hxn : x ≤ n := by omega
  have hn0 : 0 < n := by omega
  have g1 : 0 < Nat.gcd x n := Nat.gcd_pos_of_pos_right _ hn0
  have e1 : Nat.gcd x n * (x / Nat.gcd x n) = x := Nat.mul_div_cancel' (Nat.gcd_dvd_left _ _)
  have e2 : Nat.gcd x n * (n / Nat.gcd x n) = n := Nat.mul_div_cancel' (Nat.gcd_dvd_right _ _)
  have hN0 : 0 < n / Nat.gcd x n := Nat.pos_of_ne_zero fun h => by rw [h] at e2; omega
  have hN1 : n / Nat.gcd x n ≤ n := Nat.div_le_self _ _
  refine ⟨x / Nat.gcd x n, n / Nat.gcd x n, hN0, by omega, Nat.div_le_div_right hxn, Nat.coprime_div_gcd_div_gcd g1, ?_, ?_, ?_⟩
  · rw [sOf_at h0 (asc_one ha) (sum_one ha), hx, hnn]
    obtain ⟨l1, l2⟩ := low_nat x n
    exact Prod.ext l1 (Prod.ext l2 rfl)
  · rw [sOf_at h0 (asc_oth ha) (sum_oth ha), hx, hnn, show (n : Int) - (x : Int) = ((n - x : Nat) : Int) by omega]
    have hg : Nat.gcd (n - x) n = Nat.gcd x n := by
      have e : n = (n - x) + x := by omega
      have h1 : Nat.gcd (n - x) ((n - x) + x) = Nat.gcd (n - x) x := by rw [Nat.gcd_comm, Nat.gcd_self_add_left, Nat.gcd_comm]
      have h2 : Nat.gcd x ((n - x) + x) = Nat.gcd x (n - x) := by rw [Nat.gcd_add_self_right]
      rw [← e] at h1 h2
      rw [h1, Nat.gcd_comm, ← h2]
    obtain ⟨l1, l2⟩ := low_nat (n - x) n
    rw [hg] at l1 l2
    have hsub : (n - x) / Nat.gcd x n = n / Nat.gcd x n - x / Nat.gcd x n := by
      refine Nat.eq_of_mul_eq_mul_left g1 ?_
      have h3 : Nat.gcd x n ∣ n - x := Nat.dvd_sub (Nat.gcd_dvd_right _ _) (Nat.gcd_dvd_left _ _)
      rw [Nat.mul_div_cancel' h3, Nat.mul_sub, e1, e2]
    rw [hsub] at l1
    exact Prod.ext l1 (Prod.ext l2 rfl)
  · intro os hasc hS hna
    obtain ⟨v1, v2⟩ := only_valid h0 hasc hS
    obtain ⟨_, f2, f3, f4⟩ := onlyL_facts a2 hasc
    have hle2 := nth_le_lsum f2.pos a
    rw [hna] at hle2
    obtain ⟨S, hSS⟩ := Int.eq_ofNat_of_zero_le f3
    have hS0 : 0 < S := by omega
    have hSn : S ≤ n := by omega
    have hxS : x ≤ S := by omega
    have g2 : 0 < Nat.gcd S n := Nat.gcd_pos_of_pos_left _ hS0
    have g3 : 0 < Nat.gcd x S := Nat.gcd_pos_of_pos_right _ hS0
    have e4 : Nat.gcd S n * (n / Nat.gcd S n) = n := Nat.mul_div_cancel' (Nat.gcd_dvd_right _ _)
    have e5 : Nat.gcd x S * (S / Nat.gcd x S) = S := Nat.mul_div_cancel' (Nat.gcd_dvd_right _ _)
    have d1 : n / Nat.gcd S n ≤ n := Nat.div_le_self _ _
    have d2 : S / Nat.gcd x S ≤ S := Nat.div_le_self _ _
    obtain ⟨b1, b2⟩ := both_given (a := x) hS0 hn0
    refine ⟨S / Nat.gcd S n, n / Nat.gcd S n, x / Nat.gcd x S, S / Nat.gcd x S, Nat.pos_of_ne_zero fun h => ?_, Nat.pos_of_ne_zero fun h => ?_, Nat.div_le_div_right hSn, Nat.div_le_div_right hxS, by omega, by omega,
      Nat.coprime_div_gcd_div_gcd g2, Nat.coprime_div_gcd_div_gcd g3, ?_, ?_, b1, b2⟩
    · rw [h] at e4; omega
    · rw [h] at e5; omega
    · rw [sOf_at h0 hasc rfl, hSS, hnn]
      obtain ⟨l1, l2⟩ := low_nat S n
      exact Prod.ext l1 (Prod.ext l2 rfl)
    · rw [sOf_at v1 (by rw [v2]; exact asc_one ha) (by rw [sum_one (by rw [v2]; exact ha), hna]), hSS, hx]
      obtain ⟨l1, l2⟩ := low_nat x S
      exact Prod.ext l1 (Prod.ext l2 rfl)
end Go.Proofs.Ytnpnnfbmnlgioaa
