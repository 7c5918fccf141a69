/-
  HexagramEnds: the walk of the law.
-/
import Derived.Test.YtaibkkcedipdgaaDoorHxW
namespace Go.Proofs.YtaibkkcedipdgaaDoor
open Go Go.RowKit
set_option linter.unusedVariables false

def EndsOk (L : List Int) (b h : Int) : Prop :=
  1 ≤ L.length ∧ L.length ≤ 4 ∧ nth L 0 = h ∧ 0 ≤ b ∧ b ≤ 2 ∧ b < L.length ∧ (L.length : Int) - 2 ≤ b ∧
  ∀ i, i < L.length → applyR (nth L i) [3] = (if i + 1 < L.length then nth L (i + 1) else nth L b.toNat) ∧ applyE (nth L i) [3] = 0 ∧ ∀ k, k < i → nth L k ≠ nth L i
instance (L : List Int) (b h : Int) : Decidable (EndsOk L b h) := by unfold EndsOk; infer_instance
theorem ends_ok {h : Int} (hh : Hex h) : EndsOk (chainL h) (chainB h) h ∧ chkH [h] = 0 :=
  hex_all (P := fun h => EndsOk (chainL h) (chainB h) h ∧ chkH [h] = 0) (by decide +kernel) hh

set_option maxRecDepth 100000 in
set_option maxHeartbeats 1000000 in
theorem ends_law (x : Int) (x0 : 0 ≤ x) (x1 : x ≤ 255) (w : World) (hs : Src w) (hf : Fst w) :
    Calls Tryd.prog 4 #[.int .u8 x] w fun e w' => e = .returned (.bool true) ∧ Below w.heap.size w w' := by
  obtain ⟨h, hh⟩ : ∃ h, x % 64 = h := ⟨_, rfl⟩
  have hH : Hex h := by subst hh; constructor <;> omega
  obtain ⟨⟨e1, e2, e3, e4, e5, e6, e7, e8⟩, e9⟩ := ends_ok hH
  have C := fun (W : World) (hW : Src W) => chain_any h W hW
  obtain ⟨L, hL⟩ : ∃ L, chainL h = L := ⟨_, rfl⟩
  obtain ⟨b, hb⟩ : ∃ b, chainB h = b := ⟨_, rfl⟩
  obtain ⟨n, hn⟩ : ∃ n, L.length = n := ⟨_, rfl⟩
  rw [hL, hb, e9] at C
  rw [hL] at e3
  rw [hL, hb] at e8
  rw [hL] at e1 e2 e6 e7
  rw [hb] at e4 e5 e6 e7
  rw [hn] at C e1 e2 e6 e7 e8
  obtain ⟨m, rfl⟩ := Int.eq_ofNat_of_zero_le e4
  have Hn := Lib.hid hn
  have H8 := Lib.hid e8
  clear hL hb hn e8 e9
  go_enter Tryd.func4, Tryd.ntmps4
  go_wp2_with fail
  refine (C _ hs).mono ?_
  rintro e w1 ⟨⟨q, c, rfl, hr⟩, hb1⟩
  have hs1 := hs.below hb1 (Nat.le_refl _)
  obtain ⟨g, o, rfl, r0⟩ := hr 0 (by have := Hn.out; omega)
  rw [e3, Nat.add_zero] at r0
  have HR := Lib.hid hr
  have E3 := Lib.hid e3
  clear hr C e3
  have d1 : decide ((n : Int) < 1) = false := by simp; omega
  have d2 : decide (4 < (n : Int)) = false := by simp; omega
  have d3 : decide ((m : Int) < 0) = false := by simp
  have d4 : decide (2 < (m : Int)) = false := by simp; omega
  have d5 : decide (n ≤ m) = false := by simp; omega
  have d6 : decide ((m : Int) < (n : Int) - 2) = false := by simp; omega
  have d7 : decide ((n : Int) ≤ (m : Int)) = false := by simp; omega
  go_wp2_with fail
  clear r0
  have HB1 := Lib.hid hb1
  go_loopw [7] (fun i wr => ∃ k : Nat, k ≤ n ∧ i = .int .i64 k ∧ Below w1.heap.size w1 wr) (fun i _ => n - (intOf i).toNat)
  case atStart => exact ⟨0, by omega, rfl, Below.refl _ _⟩
  case round =>
    obtain ⟨k, hk, rfl, hB⟩ := hrel
    by_cases hlt : k < n
    · obtain ⟨f1, f2, f3⟩ := H8.out k hlt
      have HF := Lib.hid f3
      have hR := HR.out.below hB (Nat.le_refl _)
      obtain ⟨g', o', hg', rk⟩ := hR k (by rw [Hn.out]; exact hlt)
      cases hg'
      have C2 := fun (W : World) (p : Option Addr) (h1 : Reads W p [3]) (h2 : Src W) => applyF_any (nth L k) p [3] 1 (by simp) W h1 h2
      obtain ⟨g', o', hg', rm⟩ := hR m (by rw [Hn.out]; omega)
      cases hg'
      rw [f2] at C2
      clear f3 f2
      go_wp2_with fail
      refine (C2 _ _ (reads_new wr _ [3]) (hs1.below (tr hB (below1 wr _)) (Nat.le_refl _))).mono ?_
      rintro e w3 ⟨rfl, hb3⟩
      have hB3 := tr hB (tr (below1 wr (.cells (arr [3]) 29)) hb3)
      have hR3 := HR.out.below hB3 (Nat.le_refl _)
      clear C2 rk rm hR hb3 hB
      obtain ⟨g', o', hg', rk⟩ := hR3 k (by rw [Hn.out]; exact hlt)
      cases hg'
      obtain ⟨g', o', hg', rm⟩ := hR3 m (by rw [Hn.out]; omega)
      cases hg'
      have HR3 := Lib.hid hR3
      have F := Lib.hid f1
      clear f1 hR3
      by_cases hk1 : k + 1 < n
      · obtain ⟨g', o', hg', rk1⟩ := HR3.out (k + 1) (by rw [Hn.out]; exact hk1)
        cases hg'
        have rk2 : w3.cell? ⟨g, o + k + 1, none⟩ = some (.int .i64 (nth L (k + 1))) := rk1
        rw [show applyR (nth L k) [3] = nth L (k + 1) by rw [F.out, if_pos hk1]]
        have y1 : decide ((k : Int) + 1 < (n : Int)) = true := by simp; omega
        go_wp2_with fail
        clear rk rm rk1 rk2
        go_loopw [11] (fun j wi => ∃ t : Nat, t ≤ k ∧ j = .int .i64 t ∧ ∃ r, wi = w3.drewN r) (fun j _ => k - (intOf j).toNat)
        case atStart => exact ⟨0, by omega, rfl, 0, rfl⟩
        case round =>
          obtain ⟨t, ht, rfl, r, rfl⟩ := hrel
          by_cases htk : t < k
          · obtain ⟨g', o', hg', rt⟩ := HR3.out t (by rw [Hn.out]; omega)
            cases hg'
            obtain ⟨g', o', hg', rk⟩ := HR3.out k (by rw [Hn.out]; exact hlt)
            cases hg'
            have y2 : decide (nth L t = nth L k) = false := by simpa using HF.out t htk
            have y3 : (nth L t == nth L k) = false := by simpa using HF.out t htk
            go_wp2_with fail
            go_quiet (fail)
            go_wp2_with fail
            go_roundw
            case rel => exact ⟨t + 1, by omega, by go_num, _, rfl⟩
            case measure => simp [intOf]; omega
          · obtain rfl : t = k := by omega
            go_wp2_with fail
            go_roundw
            case rel => exact ⟨t + 1, by omega, by go_num, below_drewN hB3 r⟩
            case measure => simp [intOf]; omega
      · rw [show applyR (nth L k) [3] = nth L m by rw [F.out, if_neg hk1]; rfl]
        have y1 : decide ((k : Int) + 1 < (n : Int)) = false := by simp; omega
        go_wp2_with fail
        clear rk rm
        go_loopw [11] (fun j wi => ∃ t : Nat, t ≤ k ∧ j = .int .i64 t ∧ ∃ r, wi = w3.drewN r) (fun j _ => k - (intOf j).toNat)
        case atStart => exact ⟨0, by omega, rfl, 0, rfl⟩
        case round =>
          obtain ⟨t, ht, rfl, r, rfl⟩ := hrel
          by_cases htk : t < k
          · obtain ⟨g', o', hg', rt⟩ := HR3.out t (by rw [Hn.out]; omega)
            cases hg'
            obtain ⟨g', o', hg', rk⟩ := HR3.out k (by rw [Hn.out]; exact hlt)
            cases hg'
            have y2 : decide (nth L t = nth L k) = false := by simpa using HF.out t htk
            have y3 : (nth L t == nth L k) = false := by simpa using HF.out t htk
            go_wp2_with fail
            go_quiet (fail)
            go_wp2_with fail
            go_roundw
            case rel => exact ⟨t + 1, by omega, by go_num, _, rfl⟩
            case measure => simp [intOf]; omega
          · obtain rfl : t = k := by omega
            go_wp2_with fail
            go_roundw
            case rel => exact ⟨t + 1, by omega, by go_num, below_drewN hB3 r⟩
            case measure => simp [intOf]; omega
    · obtain rfl : k = n := by omega
      have hb2 := tr hb1 hB
      go_wp2_with fail
      refine (known_any _ (hs.below hb2 (Nat.le_refl _)) (hf.below hb2 (Nat.le_refl _))).mono ?_
      rintro e w6 ⟨rfl, hb10⟩
      go_wp2
      go_ret
      exact ⟨rfl, tr hb2 hb10⟩
end Go.Proofs.YtaibkkcedipdgaaDoor
