/-
  The reference of chapter 4: lists of operations, places.
-/
import Derived.Test.YtdadaipejfoipaaGreatDoorHxRd
namespace Go.Proofs.YtdadaipejfoipaaGreatDoor
open Go Go.RowKit
set_option linter.unusedVariables false

set_option maxHeartbeats 1000000 in
theorem refApply_any (h : Int) (hh : Hex h) (p : Option Addr) (xs : List Int) (n c : Nat) (hl : Hid (xs.length = n)) (hx : Hid (∀ k, k < n → 0 ≤ nth xs k ∧ nth xs k ≤ 3)) (hm : n ≤ 1000000) (w : World) (hR : Reads w p xs) :
    Calls Tryz.prog 17 #[.int .i64 h, .slice p n c] w fun e w' => e = .returned (.int .i64 (applyV h xs)) ∧ Below w.heap.size w w' := by
  have Hh := Lib.hid hh
  have HR := Lib.hid hR
  clear hh hR
  go_enter Tryz.func17, Tryz.ntmps17
  go_wp2_with fail
  go_loopw [0, 5] (fun x i wr => ∃ k : Nat, k ≤ n ∧ i = .int .i64 k ∧ x = .int .i64 (applyV h (xs.take k)) ∧ Below w.heap.size w wr) (fun _ i _ => n - (intOf i).toNat)
  case atStart => exact ⟨0, by omega, rfl, rfl, Below.refl _ _⟩
  case round =>
    obtain ⟨k, hk, rfl, rfl, hB⟩ := hrel
    by_cases hlt : k < n
    · obtain ⟨q, o, rfl, hc⟩ := (HR.out.below hB (Nat.le_refl _)) k (by rw [hl.out]; exact hlt)
      obtain ⟨b0, b1⟩ := hx.out k hlt
      have E := Lib.hid (show applyV h (xs.take (k + 1)) = opV (applyV h (xs.take k)) (nth xs k).toNat by rw [take_succ (by rw [hl.out]; exact hlt), applyV_snoc])
      have C := fun W => refOp_any (applyV h (xs.take k)) (applyV_hex Hh.out _) (nth xs k) b0 b1 W
      obtain ⟨v, hv⟩ : ∃ v, applyV h (xs.take k) = v := ⟨_, rfl⟩
      rw [hv] at E C ⊢
      go_wp2_with fail
      refine (C _).mono ?_
      rintro e w2 ⟨rfl, hb⟩
      go_wp2_with fail
      go_roundw
      case rel => exact ⟨k + 1, by omega, by go_num, by rw [E.out], tr hB hb⟩
      case measure => simp [intOf]; omega
    · obtain rfl : k = n := by omega
      have E := Lib.hid (show applyV h (xs.take k) = applyV h xs by rw [List.take_of_length_le (by rw [hl.out]; exact Nat.le_refl _)])
      obtain ⟨v, hv⟩ : ∃ v, applyV h (xs.take k) = v := ⟨_, rfl⟩
      rw [hv] at E ⊢
      clear hv
      go_wp2_with fail
      go_ret
      exact ⟨by rw [← E.out]; rfl, hB⟩

set_option maxHeartbeats 1000000 in
theorem refPlace_any (p : Option Addr) (xs : List Int) (n c : Nat) (x : Int) (hl : Hid (xs.length = n)) (hm : n ≤ 1000000) (w : World) (hR : Reads w p xs) :
    Calls Tryz.prog 54 #[.slice p n c, .int .i64 x] w fun e w' => e = .returned (.int .i64 (idxI xs x)) ∧ w' = w := by
  have HR := Lib.hid hR
  clear hR
  go_enter Tryz.func54, Tryz.ntmps54
  go_wp2_with fail
  go_loop [5] (fun i => ∃ k : Nat, k ≤ n ∧ i = .int .i64 k ∧ Hid (∀ j, j < k → nth xs j ≠ x)) (fun i => n - (intOf i).toNat)
  case atStart => exact ⟨0, by omega, rfl, Lib.hid fun j hj => absurd hj (by omega)⟩
  case round =>
    obtain ⟨k, hk, rfl, HN⟩ := hrel
    by_cases hlt : k < n
    · obtain ⟨q, o, rfl, hc⟩ := HR.out k (by rw [hl.out]; exact hlt)
      by_cases hq : nth xs k = x
      · have E := Lib.hid (show idxI xs x = k from idxI_at (by rw [hl.out]; exact hlt) HN.out hq)
        have y2 : decide (nth xs k = x) = true := by simpa using hq
        have y3 : (nth xs k == x) = true := by simpa using hq
        clear hq
        go_wp2_with fail
        go_ret
        exact ⟨by rw [E.out]; rfl, rfl⟩
      · have y2 : decide (nth xs k = x) = false := by simpa using hq
        have y3 : (nth xs k == x) = false := by simpa using hq
        have HQ := Lib.hid hq
        clear hq
        go_wp2_with fail
        go_round
        case rel => exact ⟨k + 1, by omega, by go_num, Lib.hid fun j hj => by rcases (by omega : j < k ∨ j = k) with h1 | rfl; exact HN.out j h1; exact HQ.out⟩
        case measure => simp [intOf]; omega
    · obtain rfl : k = n := by omega
      have E := Lib.hid (show idxI xs x = -1 from idxI_none fun j hj => HN.out j (by rw [hl.out] at hj; exact hj))
      go_wp2_with fail
      go_ret
      exact ⟨by rw [E.out]; rfl, rfl⟩
end Go.Proofs.YtdadaipejfoipaaGreatDoor
