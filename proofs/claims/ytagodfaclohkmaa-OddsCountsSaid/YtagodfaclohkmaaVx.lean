/-
  OddsCounts, the walks for lists that are too long, have a weight above 200, or are not valid.
-/
import Derived.Test.YtagodfaclohkmaaVw
namespace Go.Proofs.Ytagodfaclohkmaa
open Go.RowKit
set_option linter.unusedVariables false

set_option maxRecDepth 100000 in
set_option maxHeartbeats 4000000 in
theorem oddsCounts_long (p : Option Addr) (xs : List Int) (c : Nat) (x y : Int) (w : World) (hl : 40 < xs.length) :
    Calls Try.prog 10 #[.slice p xs.length c, .agg #[.int .u8 x, .int .u8 y]] w fun e w' => e = .returned (.bool true) ∧ Below w.heap.size w w' := by
  have hB1 := below1 w (.cells #[.int .u8 x, .int .u8 y] 60)
  go_enter Try.func10, Try.ntmps10
  go_wp2_with fail
  go_call (known_any _) as e w2 ⟨rfl, hb2⟩
  go_wp2
  go_returns
  exact ⟨rfl, hB1.trans (hb2.mono (by simp))⟩

set_option maxRecDepth 100000 in
set_option maxHeartbeats 4000000 in
theorem oddsCounts_big (p : Option Addr) (xs : List Int) (c : Nat) (x y : Int) (w : World) (hl : xs.length ≤ 40) (hbig : Hid (∃ k, k < xs.length ∧ 200 < nth xs k)) (hC : Came w p xs c) :
    Calls Try.prog 10 #[.slice p xs.length c, .agg #[.int .u8 x, .int .u8 y]] w fun e w' => e = .returned (.bool true) ∧ Below w.heap.size w w' := by
  have hB1 := below1 w (.cells #[.int .u8 x, .int .u8 y] 60)
  have l1 : ¬ 40 < xs.length := by omega
  go_enter Try.func10, Try.ntmps10
  go_wp2
  obtain ⟨gb, hg'⟩ : ∃ g, w.heap.size = g := ⟨_, rfl⟩
  obtain ⟨w1, hw8⟩ : ∃ w8, w.alloc (.cells #[.int .u8 x, .int .u8 y] 60) = w8 := ⟨_, rfl⟩
  rw [hw8] at hB1 ⊢
  rw [hg'] at ⊢
  clear hw8 hg'
  go_loopw [5] (fun i wr => ∃ k : Nat, k ≤ xs.length ∧ i = .int .i64 k ∧ Hid (∀ j, j < k → nth xs j ≤ 200) ∧ w1 = wr) (fun i _ => xs.length - (intOf i).toNat)
  case atStart => exact ⟨0, Nat.zero_le _, rfl, (fun j hj => by omega : ∀ j, j < 0 → nth xs j ≤ 200), rfl⟩
  case round =>
    obtain ⟨k, hk, rfl, Hle, rfl⟩ := hrel
    by_cases hlt : k < xs.length
    · obtain ⟨q, o, rfl, hc1⟩ := (hC.2.1.below hB1 (Nat.le_refl _)) k hlt
      have hki : (k : Int) < (xs.length : Int) := by omega
      by_cases h200 : 200 < nth xs k
      · go_wp2_with fail
        go_call (known_any _) as e w2 ⟨rfl, hb2⟩
        go_wp2
        go_returns
        exact ⟨rfl, tr hB1 hb2⟩
      · have Hn : Hid (∀ j, j < k + 1 → nth xs j ≤ 200) := fun j hj => by
          by_cases e : j = k
          · subst e; omega
          · exact Hle.out j (by omega)
        go_wp2
        go_roundw
        case rel => exact ⟨k + 1, by omega, by go_num, Hn, by first | trivial | rfl⟩
        case measure => simp [intOf]; omega
    · exfalso
      obtain ⟨j, hj, hj2⟩ := hbig.out
      have := Hle.out j (by omega)
      omega

set_option maxRecDepth 100000 in
set_option maxHeartbeats 4000000 in
theorem oddsCounts_err (p : Option Addr) (xs : List Int) (c : Nat) (x y : Int) (w : World) (hl : xs.length ≤ 40) (h0 : chk1 xs ≠ 0) (hbig : Hid (∀ k, k < xs.length → nth xs k ≤ 200)) (hC : Came w p xs c) :
    Calls Try.prog 10 #[.slice p xs.length c, .agg #[.int .u8 x, .int .u8 y]] w fun e w' => e = .returned (.bool true) ∧ Below w.heap.size w w' := by
  have hB1 := below1 w (.cells #[.int .u8 x, .int .u8 y] 60)
  have l1 : ¬ 40 < xs.length := by omega
  have e2 : chk1 xs = 2 := by
    unfold chk1 at h0 ⊢
    rw [if_neg (by omega)] at h0 ⊢
    split at h0
    · rename_i h; rw [if_pos h]
    · exact absurd rfl h0
  have htot := fun p c w (h : Reads w p xs) => oTotal_any p xs c w (by omega) h
  have et : sTotal xs = (0, 2) := by unfold sTotal; rw [if_neg h0, e2]
  rw [et] at htot
  dsimp only at htot
  clear et e2 h0
  go_enter Try.func10, Try.ntmps10
  go_wp2
  obtain ⟨gb, hg'⟩ : ∃ g, w.heap.size = g := ⟨_, rfl⟩
  obtain ⟨w1, hw8⟩ : ∃ w8, w.alloc (.cells #[.int .u8 x, .int .u8 y] 60) = w8 := ⟨_, rfl⟩
  rw [hw8] at hB1 ⊢
  rw [hg'] at ⊢
  clear hw8 hg'
  go_loopw [5] (fun i wr => ∃ k : Nat, k ≤ xs.length ∧ i = .int .i64 k ∧ w1 = wr) (fun i _ => xs.length - (intOf i).toNat)
  case atStart => exact ⟨0, Nat.zero_le _, rfl, rfl⟩
  case round =>
    obtain ⟨k, hk, rfl, rfl⟩ := hrel
    by_cases hlt : k < xs.length
    · obtain ⟨q, o, rfl, hc1⟩ := (hC.2.1.below hB1 (Nat.le_refl _)) k hlt
      have hki : (k : Int) < (xs.length : Int) := by omega
      have h200 := hbig.out k hlt
      go_wp2
      go_roundw
      case rel => exact ⟨k + 1, by omega, by go_num, by first | trivial | rfl⟩
      case measure => simp [intOf]; omega
    · have hkl : k = xs.length := by omega
      rw [hkl]
      clear hkl hlt hk
      go_wp2_with fail
      go_call (own_any p xs c w1 (by omega) (hC.below hB1 (Nat.le_refl _))) as e w2 ⟨⟨p2, c2, rfl, r2⟩, hb2'⟩
      have hB2 := tr hB1 hb2'
      clear hb2' hB1
      go_wp2_with fail
      go_call (htot p2 c2 w2 r2) as e w3 ⟨rfl, hb3⟩
      have hB3 := tr hB2 hb3
      clear hb3 hB2 r2 htot
      go_wp2_with fail
      go_call (known_any _) as e w4 ⟨rfl, hb4⟩
      go_wp2
      go_returns
      exact ⟨rfl, tr hB3 hb4⟩
end Go.Proofs.Ytagodfaclohkmaa
