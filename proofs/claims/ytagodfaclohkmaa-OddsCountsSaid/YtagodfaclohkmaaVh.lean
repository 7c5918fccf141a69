/-
  What Given of the reference returns; the sum over a list of outcomes.
-/
import Derived.Test.YtagodfaclohkmaaVg
namespace Go.Proofs.Ytagodfaclohkmaa
open Go.RowKit

theorem asc_lt {n : Nat} {os : List Int} (ha : asc n os = true) {i k : Nat} (hik : i < k) (hk : k < os.length) : nth os i < nth os k := by
  induction k with
  | zero => omega
  | succ k ih =>
    have h1 := (asc_at ha hk).1
    rw [prevO_succ] at h1
    by_cases e : i = k
    · subst e; exact h1
    · have := ih (by omega) (by omega); omega
theorem onlyTo_zero {xs os : List Int} (ha : asc xs.length os = true) {k : Nat} (hk : k ≤ os.length) {j : Nat} (hj : ∀ i, i < k → (nth os i).toNat ≠ j) : nth (onlyTo xs os k) j = 0 := by
  induction k with
  | zero => simp only [onlyTo]; rw [nth_replicate]; split <;> rfl
  | succ k ih =>
    simp only [onlyTo]
    have h1 := asc_at ha (show k < os.length by omega)
    have h2 := asc_nonneg ha (show k < os.length by omega)
    rw [nth_set (by rw [onlyTo_length]; omega), if_neg (hj k (by omega))]
    exact ih (by omega) (fun i hi => hj i (by omega))
theorem lsum_onlyTo {xs os : List Int} (ha : asc xs.length os = true) {k : Nat} (hk : k < os.length) : lsum (onlyTo xs os (k + 1)) = lsum (onlyTo xs os k) + nth xs (nth os k).toNat := by
  have h1 := asc_at ha hk
  have h2 := asc_nonneg ha hk
  have hz := onlyTo_zero ha (show k ≤ os.length by omega) (j := (nth os k).toNat) (fun i hi => by
    have := asc_lt ha hi hk
    have := asc_nonneg ha (show i < os.length by omega)
    omega)
  simp only [onlyTo]
  rw [lsum_set (by rw [onlyTo_length]; omega), hz]
  omega

set_option maxRecDepth 100000 in
set_option maxHeartbeats 4000000 in
theorem refGiven_any (p : Option Addr) (xs : List Int) (c : Nat) (po : Option Addr) (os : List Int) (co : Nat) (w : World) (hl : xs.length ≤ 1000000000000000) (hlo : os.length ≤ 1000000000000000) (hR : Reads w p xs) (hRo : Reads w po os) :
    Calls Try.prog 26 #[.slice p xs.length c, .slice po os.length co] w fun e w' => (∃ p' c', e = .returned (.tuple #[.slice p' (sGiven xs os).1.length c', .int .i64 (sGiven xs os).2]) ∧ Reads w' p' (sGiven xs os).1) ∧ Below w.heap.size w w' := by
  obtain ⟨D, hD⟩ : ∃ D, sGiven xs os = D := ⟨_, rfl⟩
  rw [hD]
  by_cases h0 : chk1 xs = 0
  · obtain ⟨a1, a2, a3, a4⟩ := chk1_ok h0
    have He := Lib.hid h0
    cases ha : asc xs.length os with
    | true =>
      obtain ⟨i0, hi, hz0, hz1, hz2⟩ := info_parts info_int
      obtain ⟨o1, o2, o3, o4⟩ := onlyL_facts a2 ha
      have hS : chkS xs os = 0 := by unfold chkS; rw [if_neg (by simpa using h0), if_pos ha]
      have HD : Hid (D = if lsum (onlyL xs os) = 0 then ([], 7) else (onlyL xs os, 0)) := by show _ = _; rw [← hD]; unfold sGiven; rw [if_neg (by simpa using hS)]
      have Ha := Lib.hid ha
      clear ha hD hS h0
      go_enter Try.func26, Try.ntmps26
      go_wp2_with fail
      go_call (refCheck_any p xs c w (by omega) hR) as e w1 ⟨rfl, hb1⟩
      rw [He.out]
      go_wp2_with fail
      go_call (refOutcomes_any po os co xs.length w1 hlo (by omega) (hRo.below hb1 (Nat.le_refl _))) as e w2 ⟨rfl, hb2⟩
      rw [Ha.out]
      have hB2 := tr hb1 hb2
      clear hb1 hb2
      go_wp2_with (at_make; refine wpList_make_full _ rfl _ _ 22 rfl w.heap.size 3 i0 (.int .i64 0) 1 Try.underlying22 hi hz0 hz1 .i64 .i64 _ _ xs.length rfl rfl rfl rfl ?c1 ?c2 ?c3 ?_)
      case c1 => rw [hz2]; omega
      case c2 => unfold maxLen; omega
      case c3 => exact hB2.size
      intro w3 hown hgr
      have hrow := Row.made hown
      have hb3 : Below w.heap.size w w3 := hB2.grown hgr hB2.size (fun k e => by cases e)
      have hgB := hB2.size
      clear hown hgr
      obtain ⟨g, hg⟩ : ∃ g, w2.heap.size = g := ⟨_, rfl⟩
      rw [hg] at hrow hgB ⊢
      clear hg hB2
      go_wp2
      go_loopw [8] (fun i wr => ∃ k : Nat, k ≤ os.length ∧ i = .int .i64 k ∧ Row wr w.heap.size g xs.length (onlyTo xs os k) ∧ Below w.heap.size w wr) (fun i _ => os.length - (intOf i).toNat)
      case atStart => exact ⟨0, Nat.zero_le _, rfl, hrow, hb3⟩
      case round =>
        obtain ⟨k, hk, rfl, hrw, hb⟩ := hrel
        by_cases hlt : k < os.length
        · obtain ⟨q, o, rfl, hcell⟩ := hRo.below hb (Nat.le_refl _) k hlt
          obtain ⟨j, hj⟩ := Int.eq_ofNat_of_zero_le (asc_nonneg Ha.out hlt)
          have hjl : j < xs.length := by have := (asc_at Ha.out hlt).2; omega
          rw [hj] at hcell
          have Hset := Lib.hid (hrw.set j (nth xs j))
          have Hj : Hid (onlyTo xs os (k + 1) = (onlyTo xs os k).set j (nth xs j)) := by show _ = _; simp [onlyTo, hj]
          clear hj
          obtain ⟨q2, o2, rfl, hcell2⟩ := hR.below hb (Nat.le_refl _) j hjl
          have hc3 := hrw.cell hjl
          have hf3 := hrw.frozen j
          have hj1 : (j : Int) < (xs.length : Int) := by omega
          have hki : (k : Int) < (os.length : Int) := by omega
          go_wp2
          go_still_tail 13, (by kernel_rfl)
          go_wp2
          go_roundw
          case rel => exact ⟨k + 1, by omega, by go_num, (by rw [Hj.out]; exact Hset.out), (hb.setCell (p := ⟨g, j, none⟩) hgB _).drew⟩
          case measure => simp [intOf]; omega
        · obtain rfl : k = os.length := by omega
          have hrd : Reads wr (some ⟨g, 0, none⟩) (onlyL xs os) := hrw.reads
          have hT := refTotal_any (some ⟨g, 0, none⟩) (onlyL xs os) xs.length wr (by omega) o2 hrd
          rw [o1] at hT
          by_cases h1 : lsum (onlyL xs os) = 0
          · have Hs : Hid (D = ([], 7)) := by show _ = _; rw [HD.out, if_pos h1]
            have H1 := Lib.hid h1
            clear h1
            go_wp2_with fail
            go_call hT as e w5 ⟨rfl, hb5⟩
            rw [H1.out]
            go_wp2
            go_ret2
            exact ⟨⟨none, 0, by rw [Hs.out]; rfl, by rw [Hs.out]; exact Reads.nil _ _⟩, tr hb hb5⟩
          · have Hs : Hid (D = (onlyL xs os, 0)) := by show _ = _; rw [HD.out, if_neg h1]
            have hz : (lsum (onlyL xs os) == 0) = false := by simpa using h1
            clear h1
            go_wp2_with fail
            go_call hT as e w5 ⟨rfl, hb5⟩
            go_wp2
            go_ret2
            refine ⟨⟨some ⟨g, 0, none⟩, xs.length, ?_, ?_⟩, tr hb hb5⟩
            · rw [Hs.out, o1]; rfl
            · rw [Hs.out]; exact hrd.below hb5 (Nat.le_refl _)
    | false =>
      have hS : chkS xs os = 2 := by unfold chkS; rw [if_neg (by simpa using h0), if_neg (by simp [ha])]
      have Hs : Hid (D = ([], 2)) := by show _ = _; rw [← hD]; unfold sGiven; rw [hS]; rfl
      have Ha := Lib.hid ha
      clear ha hD hS h0
      go_enter Try.func26, Try.ntmps26
      go_wp2_with fail
      go_call (refCheck_any p xs c w (by omega) hR) as e w1 ⟨rfl, hb1⟩
      rw [He.out]
      go_wp2_with fail
      go_call (refOutcomes_any po os co xs.length w1 hlo (by omega) (hRo.below hb1 (Nat.le_refl _))) as e w2 ⟨rfl, hb2⟩
      rw [Ha.out]
      go_wp2
      go_ret2
      exact ⟨⟨none, 0, by rw [Hs.out]; rfl, by rw [Hs.out]; exact Reads.nil _ _⟩, tr hb1 hb2⟩
  · obtain ⟨x, hx⟩ : ∃ x, chk1 xs = x := ⟨_, rfl⟩
    have hS : chkS xs os = x := by unfold chkS; rw [if_pos h0, hx]
    rw [hx] at h0
    have Hs : Hid (D = ([], x)) := by show _ = _; rw [← hD]; unfold sGiven; rw [hS, if_pos h0]
    have hb' : (x != 0) = true := by simpa using h0
    have Hx := Lib.hid hx
    clear hx h0 hD hS
    go_enter Try.func26, Try.ntmps26
    go_wp2_with fail
    go_call (refCheck_any p xs c w (by omega) hR) as e w1 ⟨rfl, hb1⟩
    rw [Hx.out]
    go_wp2
    go_ret2
    exact ⟨⟨none, 0, by rw [Hs.out]; rfl, by rw [Hs.out]; exact Reads.nil _ _⟩, hb1⟩
end Go.Proofs.Ytagodfaclohkmaa
