/-
  What Chance, Compare, Not, Both, rest and restOf of the reference return.
-/
import Derived.Test.YtnpnnfbmnlgioaaCb
import Derived.Test.YtnpnnfbmnlgioaaVe
namespace Go.Proofs.Ytnpnnfbmnlgioaa
open Go.RowKit
set_option linter.unusedVariables false

set_option maxRecDepth 100000 in
set_option maxHeartbeats 4000000 in
theorem refChance_ok (n d : Int) (w : World) :
    Calls Try.prog 10 #[.agg #[.int .i64 n, .int .i64 d]] w fun e w' => e = .returned (.bool (!badC n d)) ∧ Below w.heap.size w w' := by
  by_cases h1 : 1 ≤ d
  · by_cases h2 : d ≤ 1000000000000000
    · by_cases h3 : 0 ≤ n
      · by_cases h4 : n ≤ d
        · obtain ⟨G, hG⟩ : ∃ G : Int, (Int.gcd n d : Int) = G := ⟨_, rfl⟩
          have hR := fun w => refDivisor_any n d w h3 (by omega) (by omega) (by omega)
          have G1 : 1 ≤ G := by rw [← hG]; exact gcd_pos h1
          have hb : badC n d = decide (1 < G) := by unfold badC; rw [hG, show outB 1 1000000000000000 d = false by simp [outB]; omega, show outB 0 d n = false by simp [outB]; omega]; rfl
          rw [hb]
          rw [hG] at hR
          clear hb hG
          by_cases h5 : G = 1
          · subst h5
            go_enter Try.func10, Try.ntmps10
            go_wp2_with fail
            go_call (hR _) as e w1 ⟨rfl, hb1⟩
            go_wp2
            go_ret
            exact ⟨rfl, tr (below1 _ _) hb1⟩
          · have h6 : (G == 1) = false := by simpa using h5
            have h7 : decide (1 < G) = true := by simp; omega
            rw [h7]
            clear h7 h5
            go_enter Try.func10, Try.ntmps10
            go_wp2_with fail
            go_call (hR _) as e w1 ⟨rfl, hb1⟩
            go_wp2
            go_ret
            exact ⟨rfl, tr (below1 _ _) hb1⟩
        · have hb : badC n d = true := by simp [badC, outB]; omega
          rw [hb]; clear hb
          go_enter Try.func10, Try.ntmps10
          go_wp2
          go_ret
          exact ⟨rfl, below1 _ _⟩
      · have hb : badC n d = true := by simp [badC, outB]; omega
        rw [hb]; clear hb
        go_enter Try.func10, Try.ntmps10
        go_wp2
        go_ret
        exact ⟨rfl, below1 _ _⟩
    · have hb : badC n d = true := by simp [badC, outB]; omega
      rw [hb]; clear hb
      go_enter Try.func10, Try.ntmps10
      go_wp2
      go_ret
      exact ⟨rfl, below1 _ _⟩
  · have hb : badC n d = true := by simp [badC, outB]; omega
    rw [hb]; clear hb
    go_enter Try.func10, Try.ntmps10
    go_wp2
    go_ret
    exact ⟨rfl, below1 _ _⟩

/-- -1, 0 or 1. -/
def cmp3 (a b : Int) : Int := if a < b then -1 else if b < a then 1 else 0

set_option maxRecDepth 100000 in
set_option maxHeartbeats 4000000 in
theorem refCompare_ok (an ad bn bd : Int) (w : World) (a0 : 0 ≤ an) (a1 : an ≤ 1000000000000000) (b0 : 0 ≤ bn) (b1 : bn ≤ bd) (d0 : 1 ≤ ad) (d1 : ad ≤ 1000000000000000) (e0 : 1 ≤ bd) (e1 : bd ≤ 1000000000000000) :
    Calls Try.prog 11 #[.agg #[.int .i64 an, .int .i64 ad], .agg #[.int .i64 bn, .int .i64 bd]] w fun e w' => e = .returned (.int .i64 (cmp3 (an * bd) (bn * ad))) ∧ Below w.heap.size w w' := by
  obtain ⟨AD, rfl⟩ : ∃ k : Nat, ad = k := ⟨ad.toNat, by omega⟩
  have hD := fun w => refDivided_any bn bd AD w b0 e0 (by omega) (by omega) e1 (by
    show _ ≤ _
    calc bn * (AD : Int) ≤ bd * (AD : Int) := Int.mul_le_mul_of_nonneg_right b1 (by omega)
      _ ≤ bd * 1000000000000000 := Int.mul_le_mul_of_nonneg_left (by omega) (by omega)
      _ = _ := Int.mul_comm _ _)
  obtain ⟨n, hn⟩ : ∃ n, bn * (AD : Int) / bd = n := ⟨_, rfl⟩
  obtain ⟨r, hr⟩ : ∃ n, bn * (AD : Int) % bd = n := ⟨_, rfl⟩
  obtain ⟨k1, k2⟩ := cmp_by_parts (an := an) e0 hn.symm hr.symm
  have r0 : 0 ≤ r := by rw [← hr]; exact Int.emod_nonneg _ (by omega)
  rw [hn, hr] at hD
  obtain ⟨x, hx⟩ : ∃ x, cmp3 (an * bd) (bn * (AD : Int)) = x := ⟨_, rfl⟩
  obtain ⟨D, hDD⟩ : ∃ D : Int, (AD : Int) = D := ⟨_, rfl⟩
  rw [hx]
  rw [hDD] at hD ⊢
  have q1 : Hid (an < n → x = -1) := fun h => by rw [← hx, cmp3, if_pos (k1.1 (.inl h))]
  have q2 : Hid (an = n → 0 < r → x = -1) := fun h h' => by rw [← hx, cmp3, if_pos (k1.1 (.inr ⟨h, h'⟩))]
  have q3 : Hid (n < an → x = 1) := fun h => by rw [← hx, cmp3, if_neg (by have := k2.1 h; omega), if_pos (k2.1 h)]
  have q4 : Hid (an = n → ¬ 0 < r → x = 0) := fun h h' => by rw [← hx, cmp3, if_neg (fun h5 => by rcases k1.2 h5 with h | ⟨_, h⟩ <;> omega), if_neg (fun h5 => by have := k2.2 h5; omega)]
  clear hn hr k1 k2 hx hDD
  by_cases h1 : an < n
  · have HX := Lib.hid (q1.out h1)
    clear q1 q2 q3 q4
    go_enter Try.func11, Try.ntmps11
    go_wp2_with fail
    go_call (hD _) as e w1 ⟨rfl, hb1⟩
    have c0 : w1.cell? ⟨w.heap.size, 0, none⟩ = some (.int .i64 an) := cell_tr hb1 (by go_simp)
    go_wp2
    go_ret
    exact ⟨by rw [HX.out]; rfl, (((below1 _ _).alloc (by simp) _).trans (hb1.mono (by simp; omega)))⟩
  · by_cases h2 : an = n
    · subst h2
      by_cases h3 : 0 < r
      · have HX := Lib.hid (q2.out rfl h3)
        clear q1 q2 q3 q4
        go_enter Try.func11, Try.ntmps11
        go_wp2_with fail
        go_call (hD _) as e w1 ⟨rfl, hb1⟩
        have c0 : w1.cell? ⟨w.heap.size, 0, none⟩ = some (.int .i64 an) := cell_tr hb1 (by go_simp)
        go_wp2
        go_ret
        exact ⟨by rw [HX.out]; rfl, (((below1 _ _).alloc (by simp) _).trans (hb1.mono (by simp; omega)))⟩
      · have HX := Lib.hid (q4.out rfl h3)
        clear q1 q2 q3 q4
        go_enter Try.func11, Try.ntmps11
        go_wp2_with fail
        go_call (hD _) as e w1 ⟨rfl, hb1⟩
        have c0 : w1.cell? ⟨w.heap.size, 0, none⟩ = some (.int .i64 an) := cell_tr hb1 (by go_simp)
        go_wp2
        go_ret
        exact ⟨by rw [HX.out]; rfl, (((below1 _ _).alloc (by simp) _).trans (hb1.mono (by simp; omega)))⟩
    · have HX := Lib.hid (q3.out (by omega))
      have h3 : (an == n) = false := by simpa using h2
      have h4 : n < an := by omega
      clear q1 q2 q3 q4 h2
      go_enter Try.func11, Try.ntmps11
      go_wp2_with fail
      go_call (hD _) as e w1 ⟨rfl, hb1⟩
      have c0 : w1.cell? ⟨w.heap.size, 0, none⟩ = some (.int .i64 an) := cell_tr hb1 (by go_simp)
      go_wp2
      go_ret
      exact ⟨by rw [HX.out]; rfl, (((below1 _ _).alloc (by simp) _).trans (hb1.mono (by simp; omega)))⟩
end Go.Proofs.Ytnpnnfbmnlgioaa
