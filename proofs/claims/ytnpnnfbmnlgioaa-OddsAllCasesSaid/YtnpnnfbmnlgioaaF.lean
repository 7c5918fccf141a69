/-
  What decide and Fair of package odds return, for every list and number.
-/
import Derived.Test.YtnpnnfbmnlgioaaB
import Derived.StillTailTactics
namespace Go.Proofs.Ytnpnnfbmnlgioaa
open Go.RowKit

/-- What is decided: from a size and a value, by the throws that are left: value, throws used, error. -/
def dec (s b : Int) (ts : List Int) : Nat → Nat → Int → Int → Int × Int × Int
  | 0, used, size, value => if value < size - size % b then (value % b, used, 0) else (0, 0, 7)
  | left + 1, used, size, value => if value < size - size % b then (value % b, used, 0) else dec s b ts left (used + 1) ((size - (size - size % b)) * s) ((value - (size - size % b)) * s + nth ts used)

theorem dec_yes {s b : Int} {ts : List Int} {left used : Nat} {size value : Int} (h : value < size - size % b) : dec s b ts left used size value = (value % b, (used : Int), 0) := by
  cases left <;> simp [dec, h]
theorem dec_no {s b : Int} {ts : List Int} {left used : Nat} {size value : Int} (h : ¬ value < size - size % b) : dec s b ts (left + 1) used size value = dec s b ts left (used + 1) ((size - (size - size % b)) * s) ((value - (size - size % b)) * s + nth ts used) := by
  rw [dec, if_neg h]

set_option maxRecDepth 100000 in
set_option maxHeartbeats 2000000 in
theorem decide_any (s b : Int) (p : Option Addr) (ts : List Int) (c : Nat) (w : World) (hs : 2 ≤ s) (hs2 : s ≤ 1000000) (hb : 1 ≤ b) (hb2 : b ≤ 1000000) (hl : ts.length ≤ 10000) (ht : ∀ k, k < ts.length → 0 ≤ nth ts k ∧ nth ts k < s) (hR : Reads w p ts) :
    Calls Try.prog 60 #[.int .i64 s, .int .i64 b, .slice p ts.length c] w fun e w' => e = .returned (.tuple #[.int .i64 (dec s b ts ts.length 0 1 0).1, .int .i64 (dec s b ts ts.length 0 1 0).2.1, .int .i64 (dec s b ts ts.length 0 1 0).2.2]) ∧ Below w.heap.size w w' := by
  obtain ⟨D, hD⟩ : ∃ D, dec s b ts ts.length 0 1 0 = D := ⟨_, rfl⟩
  rw [hD]
  have HD := Lib.hid hD
  clear hD
  go_enter Try.func60, Try.ntmps60
  go_wp2
  go_loopw [6, 7, 9] (fun v u z wr => ∃ (k : Nat) (value size : Int), k ≤ ts.length ∧ u = .int .i64 k ∧ v = .int .i64 value ∧ z = .int .i64 size ∧ 0 ≤ value ∧ value < size ∧ size ≤ 1000000000000 ∧ Hid (dec s b ts (ts.length - k) k size value = D) ∧ Below w.heap.size w wr) (fun _ u _ _ => ts.length + 1 - (intOf u).toNat)
  case atStart => exact ⟨0, 0, 1, Nat.zero_le _, rfl, rfl, rfl, by omega, by omega, by omega, HD, Below.refl _ _⟩
  case round =>
    obtain ⟨k, value, size, hk, rfl, rfl, rfl, hv, hvs, hz, Hd, hbr⟩ := hrel
    have hm0 : 0 ≤ size % b := Int.emod_nonneg _ (by omega)
    have hm1 : size % b < b := Int.emod_lt_of_pos _ (by omega)
    have hm2 : size % b ≤ size := by
      have := Int.emod_add_mul_ediv size b
      have : 0 ≤ b * (size / b) := Int.mul_nonneg (by omega) (Int.ediv_nonneg (by omega) (by omega))
      omega
    by_cases hlt : value < size - size % b
    · have Hy : Hid (D = (value % b, (k : Int), 0)) := by show _ = _; rw [← Hd.out, dec_yes hlt]
      go_wp2
      go_returns
      exact ⟨by rw [Hy.out]; rfl, hbr⟩
    · by_cases hend : k = ts.length
      · subst hend
        have Hy : Hid (D = (0, 0, 7)) := by show _ = _; rw [← Hd.out, Nat.sub_self, dec, if_neg hlt]
        go_wp2
        go_returns
        exact ⟨by rw [Hy.out]; rfl, hbr⟩
      · have hkl : k < ts.length := by omega
        obtain ⟨q, o, rfl, hcell⟩ := hR.below hbr (Nat.le_refl _) k hkl
        obtain ⟨t0, t1⟩ := ht k hkl
        have hn : ((k : Int) == (ts.length : Int)) = false := by simp; omega
        have hA0 : 0 ≤ (size - (size - size % b)) * s := Int.mul_nonneg (by omega) (by omega)
        have hA1 : (size - (size - size % b)) * s ≤ 1000000 * 1000000 := Int.mul_le_mul (by omega) hs2 (by omega) (by omega)
        have hB0 : 0 ≤ (value - (size - size % b)) * s := Int.mul_nonneg (by omega) (by omega)
        have hB1 : (value - (size - size % b) + 1) * s ≤ (size - (size - size % b)) * s := Int.mul_le_mul_of_nonneg_right (by omega) (by omega)
        rw [Int.add_mul, Int.one_mul] at hB1
        have Hno : Hid (dec s b ts (ts.length - (k + 1)) (k + 1) ((size - (size - size % b)) * s) ((value - (size - size % b)) * s + nth ts k) = D) := by
          show _ = _; rw [← Hd.out, show ts.length - k = (ts.length - (k + 1)) + 1 by omega, dec_no hlt]
        have e1 : IntKind.i64.wrap (size - (size - size % b)) = size - (size - size % b) := IntWalk.i64_in _ (by omega)
        have e2 : IntKind.i64.wrap ((size - (size - size % b)) * s) = (size - (size - size % b)) * s := IntWalk.i64_in _ (by omega)
        have e3 : IntKind.i64.wrap (value - (size - size % b)) = value - (size - size % b) := IntWalk.i64_in _ (by omega)
        have e4 : IntKind.i64.wrap ((value - (size - size % b)) * s) = (value - (size - size % b)) * s := IntWalk.i64_in _ (by omega)
        have e5 : IntKind.i64.wrap ((value - (size - size % b)) * s + nth ts k) = (value - (size - size % b)) * s + nth ts k := IntWalk.i64_in _ (by omega)
        have hk0 : (k : Int) < (ts.length : Int) := by omega
        have E := Lib.hid (And.intro e1 (And.intro e2 (And.intro e3 (And.intro e4 e5))))
        clear e1 e2 e3 e4 e5
        go_wp2
        obtain ⟨e1, e2, e3, e4, e5⟩ := E.out
        go_quiet (fail)
        clear e1 e2 e3 e4 e5
        go_wp2
        go_roundw
        case rel => exact ⟨k + 1, _, _, by omega, by go_num, rfl, rfl, by omega, by omega, by omega, Hno, below_drewN hbr _⟩
        case measure => simp [intOf]; omega

/-- What Fair returns. -/
def sFair (s b : Int) (ts : List Int) : Int × Int × Int :=
  if outB 2 1000000 s = true ∨ outB 1 1000000 b = true then (0, 0, 3) else if 10000 < ts.length then (0, 0, 5) else if anyB (outB 0 (s - 1)) ts = true then (0, 0, 2) else dec s b ts ts.length 0 1 0

set_option maxHeartbeats 2000000 in
theorem fair_any (s b : Int) (p : Option Addr) (ts : List Int) (c : Nat) (w : World) (hl : ts.length ≤ 1000000000000000) (hR : Reads w p ts) :
    Calls Try.prog 38 #[.int .i64 s, .int .i64 b, .slice p ts.length c] w fun e w' => e = .returned (.tuple #[.int .i64 (sFair s b ts).1, .int .i64 (sFair s b ts).2.1, .int .i64 (sFair s b ts).2.2]) ∧ Below w.heap.size w w' := by
  obtain ⟨D, hD⟩ : ∃ D, sFair s b ts = D := ⟨_, rfl⟩
  rw [hD]
  unfold sFair at hD
  cases h1 : outB 2 1000000 s with
  | true =>
    have Hd : Hid (D = (0, 0, 3)) := by show _ = _; simpa [h1] using hD.symm
    have H1 := Lib.hid h1
    clear hD h1
    go_enter Try.func38, Try.ntmps38
    go_wp2_with fail
    go_call (outside_c 2 1000000 w) as e w1 ⟨a1, a2, rfl, ha1, ha2, hB1⟩
    go_wp2_with fail
    go_call (outside1_any s 2 1000000 a1 a2 w1 ha1 ha2) as e w' ⟨rfl, rfl⟩
    rw [H1.out]
    go_wp2
    go_returns
    exact ⟨by rw [Hd.out]; rfl, hB1⟩
  | false =>
    have H1 := Lib.hid h1
    cases h2 : outB 1 1000000 b with
    | true =>
      have Hd : Hid (D = (0, 0, 3)) := by show _ = _; simpa [h1, h2] using hD.symm
      have H2 := Lib.hid h2
      clear hD h1 h2
      go_enter Try.func38, Try.ntmps38
      go_wp2_with fail
      go_call (outside_c 2 1000000 w) as e w1 ⟨a1, a2, rfl, ha1, ha2, hB1⟩
      go_wp2_with fail
      go_call (outside1_any s 2 1000000 a1 a2 w1 ha1 ha2) as e w' ⟨rfl, rfl⟩
      rw [H1.out]
      go_wp2_with fail
      go_call (outside_c 1 1000000 w1) as e w2 ⟨b1, b2, rfl, hb1, hb2, hB2⟩
      go_wp2_with fail
      go_call (outside1_any b 1 1000000 b1 b2 w2 hb1 hb2) as e w' ⟨rfl, rfl⟩
      rw [H2.out]
      go_wp2
      go_returns
      exact ⟨by rw [Hd.out]; rfl, tr hB1 hB2⟩
    | false =>
      have H2 := Lib.hid h2
      have hs : 2 ≤ s ∧ s ≤ 1000000 := by simp [outB] at h1; omega
      have hb : 1 ≤ b ∧ b ≤ 1000000 := by simp [outB] at h2; omega
      by_cases h3 : 10000 < ts.length
      · have Hd : Hid (D = (0, 0, 5)) := by show _ = _; simpa [h1, h2, h3] using hD.symm
        clear hD h1 h2
        go_enter Try.func38, Try.ntmps38
        go_wp2_with fail
        go_call (outside_c 2 1000000 w) as e w1 ⟨a1, a2, rfl, ha1, ha2, hB1⟩
        go_wp2_with fail
        go_call (outside1_any s 2 1000000 a1 a2 w1 ha1 ha2) as e w' ⟨rfl, rfl⟩
        rw [H1.out]
        go_wp2_with fail
        go_call (outside_c 1 1000000 w1) as e w2 ⟨b1, b2, rfl, hb1, hb2, hB2⟩
        go_wp2_with fail
        go_call (outside1_any b 1 1000000 b1 b2 w2 hb1 hb2) as e w' ⟨rfl, rfl⟩
        rw [H2.out]
        go_wp2
        go_returns
        exact ⟨by rw [Hd.out]; rfl, tr hB1 hB2⟩
      · have Hany : Hid (D = if anyB (outB 0 (s - 1)) ts = true then (0, 0, 2) else dec s b ts ts.length 0 1 0) := by show _ = _; simpa [h1, h2, h3] using hD.symm
        clear hD h1 h2
        go_enter Try.func38, Try.ntmps38
        go_wp2_with fail
        go_call (outside_c 2 1000000 w) as e w1 ⟨a1, a2, rfl, ha1, ha2, hB1⟩
        go_wp2_with fail
        go_call (outside1_any s 2 1000000 a1 a2 w1 ha1 ha2) as e w' ⟨rfl, rfl⟩
        rw [H1.out]
        go_wp2_with fail
        go_call (outside_c 1 1000000 w1) as e w2 ⟨b1, b2, rfl, hb1, hb2, hB2⟩
        go_wp2_with fail
        go_call (outside1_any b 1 1000000 b1 b2 w2 hb1 hb2) as e w' ⟨rfl, rfl⟩
        rw [H2.out]
        go_wp2_with fail
        go_call (outside_c 0 (s - 1) w2) as e w3 ⟨c1, c2, rfl, hc1, hc2, hB3⟩
        have hB := tr hB1 (tr hB2 hB3)
        clear hB1 hB2 hB3 ha1 ha2 hb1 hb2
        go_wp2_with fail
        go_call (containsFunc_outside 0 (s - 1) c1 c2 w3 hc1 hc2 p ts c (by omega) (hR.below hB (Nat.le_refl _))) as e w' ⟨rfl, rfl⟩
        cases h4 : anyB (outB 0 (s - 1)) ts with
        | true =>
          have Hd : Hid (D = (0, 0, 2)) := by show _ = _; rw [Hany.out, if_pos h4]
          clear h4
          go_wp2
          go_returns
          exact ⟨by rw [Hd.out]; rfl, hB⟩
        | false =>
          have Hd : Hid (D = dec s b ts ts.length 0 1 0) := by show _ = _; rw [Hany.out, if_neg (by simp [h4])]
          have ht : ∀ k, k < ts.length → 0 ≤ nth ts k ∧ nth ts k < s := fun k hk => by
            unfold anyB at h4
            rw [List.any_eq_false] at h4
            have := h4 _ (nth_mem hk)
            simp [outB] at this
            omega
          clear h4
          go_wp2_with fail
          go_call (decide_any s b p ts c w3 hs.1 hs.2 hb.1 hb.2 (by omega) ht (hR.below hB (Nat.le_refl _))) as e w4 ⟨rfl, hB4⟩
          rw [← Hd.out]
          go_wp2
          go_returns
          exact ⟨rfl, tr hB hB4⟩
end Go.Proofs.Ytnpnnfbmnlgioaa
