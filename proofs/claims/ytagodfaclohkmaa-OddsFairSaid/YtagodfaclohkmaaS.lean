/-
  What Fair of the reference returns, for every list and number: the same as that of package odds.
-/
import Derived.Test.YtagodfaclohkmaaF
namespace Go.Proofs.Ytagodfaclohkmaa
open Go.RowKit

theorem dec_less {s b : Int} {ts : List Int} {left used : Nat} {size value : Int} (_hb : 1 ≤ b) : dec s b ts left used (size - b) (value - b) = dec s b ts left used size value := by
  have h1 : (size - b) % b = size % b := Int.sub_emod_right ..
  have h2 : (value - b) % b = value % b := Int.sub_emod_right ..
  cases left with
  | zero =>
    unfold dec
    rw [h1, h2]
    by_cases h : value < size - size % b
    · rw [if_pos h, if_pos (by omega)]
    · rw [if_neg h, if_neg (by omega)]
  | succ left =>
    unfold dec
    rw [h1, h2]
    by_cases h : value < size - size % b
    · rw [if_pos h, if_pos (by omega)]
    · rw [if_neg h, if_neg (by omega)]
      rw [show size - b - (size - b - size % b) = size - (size - size % b) by omega, show value - b - (size - b - size % b) = value - (size - size % b) by omega]
theorem dec_now {s b : Int} {ts : List Int} {left used : Nat} {size value : Int} (hb : 1 ≤ b) (h0 : 0 ≤ value) (h1 : value < b) (h2 : b ≤ size) : dec s b ts left used size value = (value, (used : Int), 0) := by
  have h3 : value < size - size % b := by
    have := Int.emod_add_mul_ediv size b
    have h4 : 1 ≤ size / b := (Int.le_ediv_iff_mul_le (by omega)).2 (by omega)
    have h5 : b * 1 ≤ b * (size / b) := Int.mul_le_mul_of_nonneg_left h4 (by omega)
    omega
  rw [dec_yes h3, Int.emod_eq_of_lt h0 h1]
theorem dec_next {s b : Int} {ts : List Int} {left used : Nat} {size value : Int} (h0 : 0 ≤ value) (h1 : 0 ≤ size) (h2 : size < b) : dec s b ts (left + 1) used size value = dec s b ts left (used + 1) (size * s) (value * s + nth ts used) := by
  have h3 : size % b = size := Int.emod_eq_of_lt h1 h2
  rw [dec_no (by omega), h3, Int.sub_self, Int.sub_zero, Int.sub_zero]
theorem dec_end {s b : Int} {ts : List Int} {used : Nat} {size value : Int} (h0 : 0 ≤ value) (h1 : 0 ≤ size) (h2 : size < b) : dec s b ts 0 used size value = (0, 0, 7) := by
  have h3 : size % b = size := Int.emod_eq_of_lt h1 h2
  rw [dec, if_neg (by omega)]

set_option maxRecDepth 100000 in
set_option maxHeartbeats 4000000 in
theorem refFair_any (s b : Int) (p : Option Addr) (ts : List Int) (c : Nat) (w : World) (hl : ts.length ≤ 1000000000000000) (hR : Reads w p ts) :
    Calls Try.prog 54 #[.int .i64 s, .int .i64 b, .slice p ts.length c] w fun e w' => e = .returned (.tuple #[.int .i64 (sFair s b ts).1, .int .i64 (sFair s b ts).2.1, .int .i64 (sFair s b ts).2.2]) ∧ Below w.heap.size w w' := by
  by_cases h1 : outB 2 1000000 s = true ∨ outB 1 1000000 b = true
  · have hs : sFair s b ts = (0, 0, 3) := by unfold sFair; rw [if_pos h1]
    rw [hs]
    have hx : s < 2 ∨ 1000000 < s ∨ b < 1 ∨ 1000000 < b := by simp [outB] at h1; omega
    clear h1 hs
    go_enter Try.func54, Try.ntmps54
    by_cases x1 : s < 2
    · go_wp2
      go_returns
      exact ⟨rfl, Below.refl _ _⟩
    · by_cases x2 : 1000000 < s
      · go_wp2
        go_returns
        exact ⟨rfl, Below.refl _ _⟩
      · by_cases x3 : b < 1
        · go_wp2
          go_returns
          exact ⟨rfl, Below.refl _ _⟩
        · have x4 : 1000000 < b := by omega
          go_wp2
          go_returns
          exact ⟨rfl, Below.refl _ _⟩
  · have hs : 2 ≤ s ∧ s ≤ 1000000 ∧ 1 ≤ b ∧ b ≤ 1000000 := by simp [outB] at h1; omega
    obtain ⟨s1, s2, b1, b2⟩ := hs
    have y1 : ¬ s < 2 := by omega
    have y2 : ¬ 1000000 < s := by omega
    have y3 : ¬ b < 1 := by omega
    have y4 : ¬ 1000000 < b := by omega
    by_cases h2 : 10000 < ts.length
    · have hs : sFair s b ts = (0, 0, 5) := by unfold sFair; rw [if_neg h1, if_pos h2]
      rw [hs]
      clear h1 hs
      go_enter Try.func54, Try.ntmps54
      go_wp2
      go_returns
      exact ⟨rfl, Below.refl _ _⟩
    · have hs : sFair s b ts = if anyB (outB 0 (s - 1)) ts = true then (0, 0, 2) else dec s b ts ts.length 0 1 0 := by unfold sFair; rw [if_neg h1, if_neg h2]
      obtain ⟨D, hD⟩ : ∃ D, sFair s b ts = D := ⟨_, rfl⟩
      rw [hD] at hs ⊢
      have Hs := Lib.hid hs
      clear h1 hs hD
      go_enter Try.func54, Try.ntmps54
      go_wp2
      go_loopw [9] (fun i wr => ∃ k : Nat, k ≤ ts.length ∧ i = .int .i64 k ∧ Hid (noneB (outB 0 (s - 1)) ts k) ∧ Below w.heap.size w wr) (fun i _ => ts.length - (intOf i).toNat)
      case atStart => exact ⟨0, Nat.zero_le _, rfl, (fun i hi => by omega), Below.refl _ _⟩
      case round =>
        obtain ⟨k, hk, rfl, Hn, hb⟩ := hrel
        by_cases hlt : k < ts.length
        · obtain ⟨q, o, rfl, hcell⟩ := hR.below hb (Nat.le_refl _) k hlt
          have hki : (k : Int) < (ts.length : Int) := by omega
          by_cases x1 : nth ts k < 0
          · have Hd : Hid (D = (0, 0, 2)) := by show _ = _; rw [Hs.out, if_pos (anyB_true hlt (by simp [outB]; omega))]
            go_wp2
            go_returns
            exact ⟨by rw [Hd.out]; rfl, hb⟩
          · by_cases x2 : s ≤ nth ts k
            · have Hd : Hid (D = (0, 0, 2)) := by show _ = _; rw [Hs.out, if_pos (anyB_true hlt (by simp [outB]; omega))]
              go_wp2
              go_returns
              exact ⟨by rw [Hd.out]; rfl, hb⟩
            · go_wp2
              go_roundw
              case rel => exact ⟨k + 1, by omega, by go_num, noneB_succ Hn.out (by simp [outB]; omega), hb⟩
              case measure => simp [intOf]; omega
        · have hkl : k = ts.length := by omega
          have hall : anyB (outB 0 (s - 1)) ts = false := anyB_false (fun i hi => Hn.out i (by omega))
          have ht : Hid (∀ k, k < ts.length → 0 ≤ nth ts k ∧ nth ts k < s) := fun i hi => by
            have := Hn.out i (by omega)
            simp [outB] at this
            omega
          have Hd : Hid (dec s b ts ts.length 0 1 0 = D) := by show _ = _; rw [Hs.out, if_neg (by simp [hall])]
          clear hall hkl
          obtain ⟨wp, rfl⟩ : ∃ wp : World, wp = wr := ⟨_, rfl⟩
          go_wp2
          go_loopw [10, 11, 12] (fun z v u wr => ∃ (k : Nat) (value size : Int), k ≤ ts.length ∧ u = .int .i64 k ∧ v = .int .i64 value ∧ z = .int .i64 size ∧ 0 ≤ value ∧ value < size ∧ size ≤ 1000000000000 ∧ Hid (dec s b ts (ts.length - k) k size value = D) ∧ Below w.heap.size w wr) (fun _ _ u _ => ts.length + 1 - (intOf u).toNat)
          case atStart => exact ⟨0, 0, 1, Nat.zero_le _, rfl, rfl, rfl, by omega, by omega, by omega, Hd, hb⟩
          case round =>
            obtain ⟨k2, value, size, hk2, rfl, rfl, rfl, hv0, hvs, hz, Hdd, hbr⟩ := hrel
            obtain ⟨wq, rfl⟩ : ∃ wq : World, wq = wr := ⟨_, rfl⟩
            go_wp2
            go_loopw [10, 11] (fun z v wr => ∃ (value size : Int), v = .int .i64 value ∧ z = .int .i64 size ∧ 0 ≤ value ∧ value < size ∧ size ≤ 1000000000000 ∧ Hid (dec s b ts (ts.length - k2) k2 size value = D) ∧ Below w.heap.size w wr) (fun z _ _ => (intOf z).toNat)
            case atStart => exact ⟨value, size, rfl, rfl, hv0, hvs, hz, Hdd, hbr⟩
            case round =>
              obtain ⟨v2, z2, rfl, rfl, hv2, hvz2, hz2, Hd2, hb2⟩ := hrel
              by_cases hge : b ≤ z2
              · by_cases hvb : v2 < b
                · have He : Hid (D = (v2, (k2 : Int), 0)) := by show _ = _; rw [← Hd2.out, dec_now b1 hv2 hvb hge]
                  go_wp2
                  go_returns
                  exact ⟨by rw [He.out]; rfl, hb2⟩
                · go_wp2
                  go_roundw
                  case rel => exact ⟨v2 - b, z2 - b, rfl, rfl, by omega, by omega, by omega, (by show _ = _; rw [dec_less b1]; exact Hd2.out), hb2⟩
                  case measure => simp [intOf]; omega
              · by_cases hend : k2 = ts.length
                · subst hend
                  have He : Hid (D = (0, 0, 7)) := by show _ = _; rw [← Hd2.out, Nat.sub_self, dec_end hv2 (by omega) (by omega)]
                  go_wp2
                  go_returns
                  exact ⟨by rw [He.out]; rfl, hb2⟩
                · have hkl2 : k2 < ts.length := by omega
                  obtain ⟨q, o, rfl, hcell⟩ := hR.below hb2 (Nat.le_refl _) k2 hkl2
                  obtain ⟨t0, t1⟩ := ht.out k2 hkl2
                  have hn : ((k2 : Int) == (ts.length : Int)) = false := by simp; omega
                  have hA0 : 0 ≤ z2 * s := Int.mul_nonneg (by omega) (by omega)
                  have hA1 : z2 * s ≤ 1000000 * 1000000 := Int.mul_le_mul (by omega) s2 (by omega) (by omega)
                  have hB0 : 0 ≤ v2 * s := Int.mul_nonneg (by omega) (by omega)
                  have hB1 : (v2 + 1) * s ≤ z2 * s := Int.mul_le_mul_of_nonneg_right (by omega) (by omega)
                  rw [Int.add_mul, Int.one_mul] at hB1
                  have Hno : Hid (dec s b ts (ts.length - (k2 + 1)) (k2 + 1) (z2 * s) (v2 * s + nth ts k2) = D) := by
                    show _ = _; rw [← Hd2.out, show ts.length - k2 = (ts.length - (k2 + 1)) + 1 by omega, dec_next hv2 (by omega) (by omega)]
                  have e1 : IntKind.i64.wrap (z2 * s) = z2 * s := IntWalk.i64_in _ (by omega)
                  have e2 : IntKind.i64.wrap (v2 * s) = v2 * s := IntWalk.i64_in _ (by omega)
                  have e3 : IntKind.i64.wrap (v2 * s + nth ts k2) = v2 * s + nth ts k2 := IntWalk.i64_in _ (by omega)
                  have e4 : IntKind.i64.wrap ((k2 : Int) + 1) = (k2 : Int) + 1 := IntWalk.i64_in _ (by omega)
                  have hk0 : (k2 : Int) < (ts.length : Int) := by omega
                  have E := Lib.hid (And.intro e1 (And.intro e2 (And.intro e3 e4)))
                  clear e1 e2 e3 e4
                  go_wp2
                  obtain ⟨e1, e2, e3, e4⟩ := E.out
                  go_quiet (fail)
                  clear e1 e2 e3 e4
                  go_wp2
                  go_roundw
                  case rel => exact ⟨k2 + 1, _, _, by omega, by go_num, rfl, rfl, by omega, by omega, by omega, Hno, below_drewN hb2 _⟩
                  case measure => simp [intOf]; omega
end Go.Proofs.Ytagodfaclohkmaa
