/-
  What Pick and Map of the reference, and Map of package odds, return, for every list and number.
-/
import Derived.Test.YtagodfaclohkmaaJ
import Derived.Test.YtagodfaclohkmaaV
namespace Go.Proofs.Ytagodfaclohkmaa
open Go.RowKit

theorem pickAt_some {xs : List Int} {v : Int} {k : Nat} (hk : k < xs.length) (h : v < psum xs (k + 1)) (h1 : ∀ i, i < k → psum xs (i + 1) ≤ v) : pickAt xs v = some k := by
  unfold pickAt
  rw [List.find?_range_eq_some]
  exact ⟨by simpa using h, by simpa using hk, fun j hj => by have := h1 j hj; simp; omega⟩
theorem pickAt_none {xs : List Int} {v : Int} (h1 : ∀ i, i < xs.length → psum xs (i + 1) ≤ v) : pickAt xs v = none := by
  unfold pickAt
  rw [List.find?_eq_none]
  intro k hk
  have := h1 k (by simpa using hk)
  simp; omega
theorem sPick_neg {xs : List Int} {v : Int} (h0 : chk1 xs = 0) (hv : v < 0) : sPick xs v = (0, 3) := by
  unfold sPick; rw [if_neg (by simpa using h0), if_pos hv]
theorem sPick_over {xs : List Int} {v : Int} (h0 : chk1 xs = 0) (hv : lsum xs ≤ v) : sPick xs v = (0, 3) := by
  obtain ⟨a1, a2, a3, a4⟩ := chk1_ok h0
  have hn := pickAt_none (xs := xs) (v := v) (fun i hi => by have := psum_le a2.pos (show i + 1 ≤ xs.length by omega); omega)
  unfold sPick; rw [if_neg (by simpa using h0), if_neg (by omega), hn]
theorem sPick_at {xs : List Int} {v : Int} {k : Nat} (h0 : chk1 xs = 0) (hv : 0 ≤ v) (hk : k < xs.length) (h : v < psum xs (k + 1)) (h1 : ∀ i, i < k → psum xs (i + 1) ≤ v) : sPick xs v = ((k : Int), 0) := by
  unfold sPick; rw [if_neg (by simpa using h0), if_neg (by omega), pickAt_some hk h h1]

set_option maxRecDepth 100000 in
set_option maxHeartbeats 2000000 in
theorem refPick_any (p : Option Addr) (xs : List Int) (c : Nat) (v : Int) (w : World) (hl : xs.length ≤ 1000000000000000) (hv1 : -9223372036854775808 ≤ v) (hv2 : v ≤ 9223372036854775807) (hR : Reads w p xs) :
    Calls Try.prog 32 #[.slice p xs.length c, .int .i64 v] w fun e w' => e = .returned (.tuple #[.int .i64 (sPick xs v).1, .int .i64 (sPick xs v).2]) ∧ Below w.heap.size w w' := by
  obtain ⟨D, hD⟩ : ∃ D, sPick xs v = D := ⟨_, rfl⟩
  rw [hD]
  by_cases h0 : chk1 xs = 0
  · obtain ⟨a1, a2, a3, a4⟩ := chk1_ok h0
    have He := Lib.hid h0
    by_cases x1 : v < 0
    · have Hd : Hid (D = (0, 3)) := by show _ = _; rw [← hD, sPick_neg h0 x1]
      clear h0 hD
      go_enter Try.func32, Try.ntmps32
      go_wp2_with fail
      go_call (refCheck_any p xs c w (by omega) hR) as e w1 ⟨rfl, hb1⟩
      rw [He.out]
      go_wp2
      go_ret2
      exact ⟨by rw [Hd.out]; rfl, hb1⟩
    · by_cases x2 : lsum xs ≤ v
      · have Hd : Hid (D = (0, 3)) := by show _ = _; rw [← hD, sPick_over h0 x2]
        clear h0 hD
        go_enter Try.func32, Try.ntmps32
        go_wp2_with fail
        go_call (refCheck_any p xs c w (by omega) hR) as e w1 ⟨rfl, hb1⟩
        rw [He.out]
        go_wp2_with fail
        go_call (refTotal_any p xs c w1 a1 a2 (hR.below hb1 (Nat.le_refl _))) as e w2 ⟨rfl, hb2⟩
        go_wp2
        go_ret2
        exact ⟨by rw [Hd.out]; rfl, tr hb1 hb2⟩
      · have Hat := Lib.hid (fun k (hk : k < xs.length) (h : v < psum xs (k + 1)) (h1 : ∀ i, i < k → psum xs (i + 1) ≤ v) => hD.symm.trans (sPick_at h0 (by omega) hk h h1))
        have Hps := Lib.hid (psum_all xs)
        clear h0 hD
        go_enter Try.func32, Try.ntmps32
        go_wp2_with fail
        go_call (refCheck_any p xs c w (by omega) hR) as e w1 ⟨rfl, hb1⟩
        rw [He.out]
        go_wp2_with fail
        go_call (refTotal_any p xs c w1 a1 a2 (hR.below hb1 (Nat.le_refl _))) as e w2 ⟨rfl, hb2⟩
        have hB2 := tr hb1 hb2
        clear hb1 hb2
        go_wp2
        go_loopw [1, 7] (fun z i wr => ∃ k : Nat, k ≤ xs.length ∧ z = .int .i64 (v - psum xs k) ∧ i = .int .i64 k ∧ psum xs k ≤ v ∧ Hid (∀ i, i < k → psum xs (i + 1) ≤ v) ∧ Below w.heap.size w wr) (fun _ i _ => xs.length - (intOf i).toNat)
        case atStart => exact ⟨0, Nat.zero_le _, by simp [psum], rfl, by simp [psum]; omega, (fun i hi => by omega), hB2⟩
        case round =>
          obtain ⟨k, hk, rfl, rfl, hle, Hn, hb⟩ := hrel
          have hlt : k < xs.length := by
            by_cases e : k = xs.length
            · subst e; rw [Hps.out] at hle; omega
            · omega
          obtain ⟨q, o, rfl, hcell⟩ := hR.below hb (Nat.le_refl _) k hlt
          obtain ⟨y1, y2⟩ := a2 k hlt
          have hki : (k : Int) < (xs.length : Int) := by omega
          have hps := psum_succ hlt
          have hpn := psum_nonneg a2.pos k
          by_cases x3 : v - psum xs k < nth xs k
          · have Hd := Lib.hid (Hat.out k hlt (by omega) Hn.out)
            clear hps
            go_wp2
            go_ret2
            exact ⟨by rw [Hd.out]; rfl, hb⟩
          · have Hn1 : Hid (∀ i, i < k + 1 → psum xs (i + 1) ≤ v) := fun i hi => by
              by_cases e : i = k
              · subst e; omega
              · exact Hn.out i (by omega)
            have Hps1 := Lib.hid hps
            clear hps
            go_wp2
            go_roundw
            case rel => exact ⟨k + 1, by omega, by rw [Hps1.out]; go_num, by go_num, by rw [Hps1.out]; omega, Hn1, hb⟩
            case measure => simp [intOf]; omega
  · obtain ⟨x, hx⟩ : ∃ x, chk1 xs = x := ⟨_, rfl⟩
    have Hd : Hid (D = (0, x)) := by show _ = _; rw [← hD]; unfold sPick; rw [if_pos h0, hx]
    rw [hx] at h0
    have hb' : (x != 0) = true := by simpa using h0
    have Hx := Lib.hid hx
    clear hx h0 hD
    go_enter Try.func32, Try.ntmps32
    go_wp2_with fail
    go_call (refCheck_any p xs c w (by omega) hR) as e w1 ⟨rfl, hb1⟩
    rw [Hx.out]
    go_wp2
    go_ret2
    exact ⟨by rw [Hd.out]; rfl, hb1⟩
end Go.Proofs.Ytagodfaclohkmaa
