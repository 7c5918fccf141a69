/-
  What Of of the reference returns.
-/
import Derived.Test.YtagodfaclohkmaaVh
namespace Go.Proofs.Ytagodfaclohkmaa
open Go.RowKit

set_option maxRecDepth 100000 in
set_option maxHeartbeats 4000000 in
theorem refOf_any (p : Option Addr) (xs : List Int) (c : Nat) (po : Option Addr) (os : List Int) (co : Nat) (w : World) (hl : xs.length ≤ 1000000000000000) (hlo : os.length ≤ 1000000000000000) (hR : Reads w p xs) (hRo : Reads w po os) :
    Calls Try.prog 25 #[.slice p xs.length c, .slice po os.length co] w fun e w' => e = .returned (.tuple #[.agg #[.int .i64 (sOf xs os).1, .int .i64 (sOf xs os).2.1], .int .i64 (sOf xs os).2.2]) ∧ Below w.heap.size w w' := by
  obtain ⟨D, hD⟩ : ∃ D, sOf xs os = D := ⟨_, rfl⟩
  rw [hD]
  have hB0 := below1 w (.cells #[.int .i64 0, .int .i64 0] 33)
  have kc0 : (w.alloc (.cells #[.int .i64 0, .int .i64 0] 33)).cell? ⟨w.heap.size, 0, none⟩ = some (.int .i64 0) := by go_simp
  have kc1 : (w.alloc (.cells #[.int .i64 0, .int .i64 0] 33)).cell? ⟨w.heap.size, 1, none⟩ = some (.int .i64 0) := by go_simp
  have kf0 : (w.alloc (.cells #[.int .i64 0, .int .i64 0] 33)).frozen? ⟨w.heap.size, 0, none⟩ = false := by go_simp
  have kf1 : (w.alloc (.cells #[.int .i64 0, .int .i64 0] 33)).frozen? ⟨w.heap.size, 1, none⟩ = false := by go_simp
  have hs0 : (w.alloc (.cells #[.int .i64 0, .int .i64 0] 33)).heap.size = w.heap.size + 1 := by simp
  obtain ⟨w0, hw0⟩ : ∃ w0, w.alloc (.cells #[.int .i64 0, .int .i64 0] 33) = w0 := ⟨_, rfl⟩
  by_cases h0 : chk1 xs = 0
  · obtain ⟨a1, a2, a3, a4⟩ := chk1_ok h0
    have He := Lib.hid h0
    cases ha : asc xs.length os with
    | true =>
      obtain ⟨o1, o2, o3, o4⟩ := onlyL_facts a2 ha
      have hS : chkS xs os = 0 := by unfold chkS; rw [if_neg (by simpa using h0), if_pos ha]
      have Hd : Hid (D = (lsum (onlyL xs os) / Int.gcd (lsum (onlyL xs os)) (lsum xs), lsum xs / Int.gcd (lsum (onlyL xs os)) (lsum xs), 0)) := by
        show _ = _; rw [← hD]; unfold sOf; rw [if_neg (by simpa using hS)]
      have Ha := Lib.hid ha
      have hbd : ∀ k, k ≤ os.length → 0 ≤ lsum (onlyTo xs os k) ∧ lsum (onlyTo xs os k) ≤ 1000000000000000 := fun k hk => by
        have h5 := lsum_le (a := onlyTo xs os k) (b := xs) (onlyTo_length _ _ _) (fun j => (onlyTo_bd a2.pos ha hk j).2)
        have h6 := lsum_nonneg (xs := onlyTo xs os k) (fun j => (onlyTo_bd a2.pos ha hk j).1)
        omega
      have Hbd := Lib.hid hbd
      have Hz : Hid (lsum (onlyTo xs os 0) = 0) := by show _ = _; simp only [onlyTo]; exact lsum_replicate _
      clear ha hD hS h0 hbd
      go_enter Try.func25, Try.ntmps25
      go_wp2_with fail
      rw [hw0] at hB0 kc0 kc1 kf0 kf1 hs0
      clear hw0
      go_call (refCheck_any p xs c w0 (by omega) (hR.below hB0 (Nat.le_refl _))) as e w1 ⟨rfl, hb1⟩
      rw [He.out]
      go_wp2_with fail
      go_call (refOutcomes_any po os co xs.length w1 hlo (by omega) (hRo.below (hB0.trans (hb1.mono (by omega))) (Nat.le_refl _))) as e w2 ⟨rfl, hb2⟩
      rw [Ha.out]
      have hb12 := tr hb1 hb2
      clear hb1 hb2
      go_wp2
      go_loopw [7, 8] (fun s i wr => ∃ k : Nat, k ≤ os.length ∧ s = .int .i64 (lsum (onlyTo xs os k)) ∧ i = .int .i64 k ∧ Below w0.heap.size w0 wr) (fun _ i _ => os.length - (intOf i).toNat)
      case atStart => exact ⟨0, Nat.zero_le _, by rw [Hz.out], rfl, hb12⟩
      case round =>
        obtain ⟨k, hk, rfl, rfl, hb⟩ := hrel
        have hBr := hB0.trans (hb.mono (by omega))
        obtain ⟨s1, s2⟩ := Hbd.out k hk
        by_cases hlt : k < os.length
        · obtain ⟨q, o, rfl, hcell⟩ := hRo.below hBr (Nat.le_refl _) k hlt
          obtain ⟨j, hj⟩ := Int.eq_ofNat_of_zero_le (asc_nonneg Ha.out hlt)
          have hjl : j < xs.length := by have := (asc_at Ha.out hlt).2; omega
          have Hadd : Hid (lsum (onlyTo xs os (k + 1)) = lsum (onlyTo xs os k) + nth xs j) := by show _ = _; rw [lsum_onlyTo Ha.out hlt, hj]; simp
          rw [hj] at hcell
          clear hj
          obtain ⟨q2, o2, rfl, hcell2⟩ := hR.below hBr (Nat.le_refl _) j hjl
          obtain ⟨y1, y2⟩ := a2 j hjl
          have hj1 : (j : Int) < (xs.length : Int) := by omega
          have hki : (k : Int) < (os.length : Int) := by omega
          go_wp2
          go_roundw
          case rel => exact ⟨k + 1, by omega, by rw [Hadd.out], by go_num, hb⟩
          case measure => simp [intOf]; omega
        · obtain rfl : k = os.length := by omega
          have Ho : Hid (lsum (onlyTo xs os os.length) = lsum (onlyL xs os)) := rfl
          rw [Ho.out] at s1 s2 ⊢
          go_wp2_with fail
          go_call (refTotal_any p xs c wr a1 a2 (hR.below hBr (Nat.le_refl _))) as e w4 ⟨rfl, hb4⟩
          go_wp2_with fail
          go_call (refChance_any (lsum (onlyL xs os)) (lsum xs) w4 o3 a3 (by omega) (by omega)) as e w5 ⟨rfl, hb5⟩
          have hb := tr hb (tr hb4 hb5)
          have hB := hB0.trans (hb.mono (by omega))
          have kc0' := (hb.cell (p := ⟨w.heap.size, 0, none⟩) (by simp; omega)).trans kc0
          have kc1' := (hb.cell (p := ⟨w.heap.size, 1, none⟩) (by simp; omega)).trans kc1
          have kf0' := (hb.frozen (p := ⟨w.heap.size, 0, none⟩) (by simp; omega)).trans kf0
          have kf1' := (hb.frozen (p := ⟨w.heap.size, 1, none⟩) (by simp; omega)).trans kf1
          clear hb4 hb5 hB0 hBr kc0 kc1 kf0 kf1
          go_wp2
          have r0 := set0 (.int .i64 (lsum (onlyL xs os) / Int.gcd (lsum (onlyL xs os)) (lsum xs))) kc0'
          have r1 := set1 (.int .i64 (lsum (onlyL xs os) / Int.gcd (lsum (onlyL xs os)) (lsum xs))) (.int .i64 (lsum xs / Int.gcd (lsum (onlyL xs os)) (lsum xs))) kc1'
          refine bodyPost_ret (v := .tuple #[.agg #[.int .i64 (lsum (onlyL xs os) / Int.gcd (lsum (onlyL xs os)) (lsum xs)), .int .i64 (lsum xs / Int.gcd (lsum (onlyL xs os)) (lsum xs))], .int .i64 0]) (by simp [results, Try.results25, go_sem, r0, r1]) rfl ⟨by rw [Hd.out], ?_⟩
          exact (hB.setCell (Nat.le_refl _) _).setCell (Nat.le_refl _) _
    | false =>
      have hS : chkS xs os = 2 := by unfold chkS; rw [if_neg (by simpa using h0), if_neg (by simp [ha])]
      have Hd : Hid (D = (0, 0, 2)) := by show _ = _; rw [← hD]; unfold sOf; rw [hS]; rfl
      have Ha := Lib.hid ha
      clear ha hD hS h0
      go_enter Try.func25, Try.ntmps25
      go_wp2_with fail
      rw [hw0] at hB0 kc0 kc1 kf0 kf1 hs0
      clear hw0
      go_call (refCheck_any p xs c w0 (by omega) (hR.below hB0 (Nat.le_refl _))) as e w1 ⟨rfl, hb1⟩
      rw [He.out]
      go_wp2_with fail
      go_call (refOutcomes_any po os co xs.length w1 hlo (by omega) (hRo.below (hB0.trans (hb1.mono (by omega))) (Nat.le_refl _))) as e w2 ⟨rfl, hb2⟩
      rw [Ha.out]
      have hb := tr hb1 hb2
      have hB := hB0.trans (hb.mono (by omega))
      have kc0' := (hb.cell (p := ⟨w.heap.size, 0, none⟩) (by simp; omega)).trans kc0
      have kc1' := (hb.cell (p := ⟨w.heap.size, 1, none⟩) (by simp; omega)).trans kc1
      have kf0' := (hb.frozen (p := ⟨w.heap.size, 0, none⟩) (by simp; omega)).trans kf0
      have kf1' := (hb.frozen (p := ⟨w.heap.size, 1, none⟩) (by simp; omega)).trans kf1
      go_wp2
      have r0 := set0 (.int .i64 0) kc0'
      have r1 := set1 (.int .i64 0) (.int .i64 0) kc1'
      refine bodyPost_ret (v := .tuple #[.agg #[.int .i64 0, .int .i64 0], .int .i64 2]) (by simp [results, Try.results25, go_sem, r0, r1]) rfl ⟨by rw [Hd.out], ?_⟩
      exact (hB.setCell (Nat.le_refl _) _).setCell (Nat.le_refl _) _
  · obtain ⟨x, hx⟩ : ∃ x, chk1 xs = x := ⟨_, rfl⟩
    have hS : chkS xs os = x := by unfold chkS; rw [if_pos h0, hx]
    rw [hx] at h0
    have Hd : Hid (D = (0, 0, x)) := by show _ = _; rw [← hD]; unfold sOf; rw [hS, if_pos h0]
    have hb' : (x != 0) = true := by simpa using h0
    have Hx := Lib.hid hx
    clear hx h0 hD hS
    go_enter Try.func25, Try.ntmps25
    go_wp2_with fail
    rw [hw0] at hB0 kc0 kc1 kf0 kf1 hs0
    clear hw0
    go_call (refCheck_any p xs c w0 (by omega) (hR.below hB0 (Nat.le_refl _))) as e w1 ⟨rfl, hb1⟩
    rw [Hx.out]
    have hB := hB0.trans (hb1.mono (by omega))
    have kc0' := (hb1.cell (p := ⟨w.heap.size, 0, none⟩) (by simp; omega)).trans kc0
    have kc1' := (hb1.cell (p := ⟨w.heap.size, 1, none⟩) (by simp; omega)).trans kc1
    have kf0' := (hb1.frozen (p := ⟨w.heap.size, 0, none⟩) (by simp; omega)).trans kf0
    have kf1' := (hb1.frozen (p := ⟨w.heap.size, 1, none⟩) (by simp; omega)).trans kf1
    go_wp2
    have r0 := set0 (.int .i64 0) kc0'
    have r1 := set1 (.int .i64 0) (.int .i64 0) kc1'
    refine bodyPost_ret (v := .tuple #[.agg #[.int .i64 0, .int .i64 0], .int .i64 x]) (by simp [results, Try.results25, go_sem, r0, r1]) rfl ⟨by rw [Hd.out], ?_⟩
    exact (hB.setCell (Nat.le_refl _) _).setCell (Nat.le_refl _) _
end Go.Proofs.Ytagodfaclohkmaa
