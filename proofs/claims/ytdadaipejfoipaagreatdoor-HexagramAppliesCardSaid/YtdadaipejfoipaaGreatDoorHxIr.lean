/-
  The reference of chapter 4: the error of operations; images of sets.
-/
import Derived.Test.YtdadaipejfoipaaGreatDoorHxRe
import Derived.Test.YtdadaipejfoipaaGreatDoorHxBt
namespace Go.Proofs.YtdadaipejfoipaaGreatDoor
open Go Go.RowKit
set_option linter.unusedVariables false

set_option maxHeartbeats 1000000 in
theorem refOps_any (p : Option Addr) (xs : List Int) (n c : Nat) (hl : Hid (xs.length = n)) (hm : n ≤ 1000000) (w : World) (hR : Reads w p xs) :
    Calls Tryz.prog 14 #[.slice p n c] w fun e w' => e = .returned (.int .i64 (opsE xs)) ∧ w' = w := by
  have HR := Lib.hid hR
  clear hR
  by_cases h20 : 20 < n
  · have x0 : (20 : Int) < (n : Int) := by omega
    have E := Lib.hid (show opsE xs = 5 by unfold opsE; rw [if_pos (by rw [hl.out]; exact h20)])
    go_enter Tryz.func14, Tryz.ntmps14
    go_wp2_with fail
    go_ret
    exact ⟨by rw [E.out]; rfl, rfl⟩
  · have x0 : decide ((20 : Int) < (n : Int)) = false := by simp; omega
    have HL := Lib.hid (show ¬ 20 < xs.length by rw [hl.out]; exact h20)
    clear h20
    go_enter Tryz.func14, Tryz.ntmps14
    go_wp2_with fail
    go_loop [3] (fun i => ∃ k : Nat, k ≤ n ∧ i = .int .i64 k ∧ Hid (∀ j, j < k → 0 ≤ nth xs j ∧ nth xs j ≤ 3)) (fun i => n - (intOf i).toNat)
    case atStart => exact ⟨0, by omega, rfl, Lib.hid fun j hj => absurd hj (by omega)⟩
    case round =>
      obtain ⟨k, hk, rfl, HN⟩ := hrel
      clear x0
      by_cases hlt : k < n
      · obtain ⟨q, o, rfl, hc⟩ := HR.out k (by rw [hl.out]; exact hlt)
        by_cases hq : 0 ≤ nth xs k ∧ nth xs k ≤ 3
        · have HQ := Lib.hid hq
          obtain ⟨q0, q1⟩ := hq
          obtain ⟨v, hv⟩ : ∃ v, nth xs k = v := ⟨_, rfl⟩
          have HV := Lib.hid hv
          rw [hv] at hc q0 q1
          clear hv
          go_wp2_with fail
          go_round
          case rel => exact ⟨k + 1, by omega, by go_num, Lib.hid fun j hj => by rcases (by omega : j < k ∨ j = k) with h1 | rfl; exact HN.out j h1; exact HQ.out⟩
          case measure => simp [intOf]; omega
        · have E := Lib.hid (show opsE xs = 2 by
            unfold opsE
            rw [if_neg HL.out, anyB_true (k := k) (by rw [hl.out]; exact hlt) (by simp [outB]; omega)]
            rfl)
          obtain ⟨v, hv⟩ : ∃ v, nth xs k = v := ⟨_, rfl⟩
          rw [hv] at hc hq
          clear hv
          by_cases q0 : v < 0
          · go_wp2_with fail
            go_ret
            exact ⟨by rw [E.out]; rfl, rfl⟩
          · have q1 : 3 < v := by omega
            have q2 : 0 ≤ v := by omega
            clear hq q0
            go_wp2_with fail
            go_ret
            exact ⟨by rw [E.out]; rfl, rfl⟩
      · obtain rfl : k = n := by omega
        have E := Lib.hid (show opsE xs = 0 by
          unfold opsE
          rw [if_neg HL.out, anyB_false (fun j hj => by have := HN.out j (by rw [hl.out] at hj; exact hj); simp [outB]; exact this)]
          rfl)
        go_wp2_with fail
        go_ret
        exact ⟨by rw [E.out]; rfl, rfl⟩

/-- What a map makes of the first hexagrams of a set. -/
def imgTo (s : Nat) (f : Nat → Int) : Nat → Int
  | 0 => 0
  | k + 1 => if s.testBit k = true then bits BinOp.or IntKind.u64 (imgTo s f k) (2 ^ (f k).toNat) else imgTo s f k
def imgV (s : Nat) (ops : List Int) : Int := imgTo s (fun h => applyV h ops) 64

set_option maxRecDepth 100000 in
set_option maxHeartbeats 2000000 in
theorem refImage_any (s : Nat) (hs : s < 2 ^ 64) (p : Option Addr) (xs : List Int) (n c : Nat) (hl : Hid (xs.length = n)) (hx : Hid (∀ k, k < n → 0 ≤ nth xs k ∧ nth xs k ≤ 3)) (hm : n ≤ 1000000) (w : World) (hR : Reads w p xs) :
    Calls Tryz.prog 15 #[.int .u64 s, .slice p n c] w fun e w' => e = .returned (.int .u64 (imgV s xs)) ∧ Below w.heap.size w w' := by
  have HR := Lib.hid hR
  have HS := Lib.hid hs
  have E := Lib.hid (show imgV s xs = imgTo s (fun h => applyV h xs) 64 from rfl)
  have G := Lib.hid (show ∀ k, imgTo s (fun h => applyV h xs) (k + 1) = if s.testBit k = true then bits BinOp.or IntKind.u64 (imgTo s (fun h => applyV h xs) k) (2 ^ (applyV k xs).toNat) else imgTo s (fun h => applyV h xs) k from fun k => rfl)
  obtain ⟨T, hT⟩ : ∃ T, imgTo s (fun h => applyV h xs) = T := ⟨_, rfl⟩
  have T0 := Lib.hid (show T 0 = 0 by rw [← hT]; rfl)
  rw [hT] at E G
  have hs' : (s : Int) < 18446744073709551616 := by have : s < 18446744073709551616 := hs; omega
  have HIN := Lib.hid (fun h => in_ref (h := h) hs)
  obtain ⟨Z, hZ⟩ : ∃ Z, (s : Int) = Z := ⟨_, rfl⟩
  rw [hZ] at HIN hs' ⊢
  clear hR hs hT hZ HS
  go_enter Tryz.func15, Tryz.ntmps15
  go_wp2_with fail
  go_loopw [5, 6] (fun x i wr => ∃ k : Nat, k ≤ 64 ∧ i = .int .i64 k ∧ x = .int .u64 (T k) ∧ Below w.heap.size w wr) (fun _ i _ => 64 - (intOf i).toNat)
  case atStart => exact ⟨0, by omega, rfl, by rw [T0.out], Below.refl _ _⟩
  case round =>
    obtain ⟨k, hk, rfl, rfl, hB⟩ := hrel
    by_cases hlt : k < 64
    · have HI := Lib.hid (HIN.out k)
      have hx2 : Hex (k : Int) := ⟨by omega, by omega⟩
      obtain ⟨a0, a1⟩ := applyV_hex hx2 xs
      have C := fun W hW => refApply_any (k : Int) hx2 p xs n c hl hx hm W hW
      have GK := Lib.hid (G.out k)
      obtain ⟨v, hv⟩ : ∃ v, applyV (k : Int) xs = v := ⟨_, rfl⟩
      rw [hv] at a0 a1 C GK
      clear hv
      cases hb : s.testBit k
      · have e1 : (bits BinOp.and IntKind.u64 (Z / 2 ^ k) 1 == 1) = false := by rw [HI.out, hb]
        have EK := Lib.hid (show T (k + 1) = T k by rw [GK.out, hb]; rfl)
        clear hb
        go_wp2_with fail
        go_roundw
        case rel => exact ⟨k + 1, by omega, by go_num, by rw [EK.out], hB⟩
        case measure => simp [intOf]; omega
      · have e1 : (bits BinOp.and IntKind.u64 (Z / 2 ^ k) 1 == 1) = true := by rw [HI.out, hb]
        have EK := Lib.hid (show T (k + 1) = bits BinOp.or IntKind.u64 (T k) (2 ^ v.toNat) by rw [GK.out, hb]; rfl)
        clear hb
        go_wp2_with fail
        refine (C _ (HR.out.below hB (Nat.le_refl _))).mono ?_
        rintro e w2 ⟨rfl, hb2⟩
        have hB2 := tr hB hb2
        have HP := Lib.hid (u64_pow (n := v.toNat) (by omega))
        go_wp2_with fail
        go_roundw
        case rel => exact ⟨k + 1, by omega, by go_num, by rw [EK.out, HP.out], hB2⟩
        case measure => simp [intOf]; omega
    · obtain rfl : k = 64 := by omega
      go_wp2_with fail
      go_ret
      exact ⟨by rw [E.out]; rfl, hB⟩
end Go.Proofs.YtdadaipejfoipaaGreatDoor
