/-
  The reference of chapter 4: the error of weights of lines.
-/
import Derived.Test.YtoeflgmdaaefeaaGreatDoorHxWu0
namespace Go.Proofs.YtoeflgmdaaefeaaGreatDoor
open Go Go.RowKit
set_option linter.unusedVariables false

set_option maxRecDepth 100000 in
set_option maxHeartbeats 1000000 in
theorem refWeights_any (p : Option Addr) (W : List Int) (n c : Nat) (w : World) (hn : Hid (W.length = n)) (hl : n ≤ 1000000) (hR : Reads w p W) :
    Calls Tryz.prog 16 #[.slice p n c] w fun e w' => e = .returned (.int .i64 (linesE W)) ∧ w = w' := by
  by_cases h10 : (n : Int) < 10
  · have E := Lib.hid (show linesE W = 2 from lines_len (.inl (by rw [hn.out]; exact h10)))
    go_enter Tryz.func16, Tryz.ntmps16
    go_wp2
    go_ret
    exact ⟨by rw [E.out]; rfl, rfl⟩
  by_cases h20 : (20 : Int) < (n : Int)
  · have E := Lib.hid (show linesE W = 2 from lines_len (.inr (by rw [hn.out]; exact h20)))
    go_enter Tryz.func16, Tryz.ntmps16
    go_wp2
    go_ret
    exact ⟨by rw [E.out]; rfl, rfl⟩
  go_enter Tryz.func16, Tryz.ntmps16
  go_wp2
  go_loop [3, 4] (fun s i => ∃ k : Nat, k ≤ n ∧ i = .int .i64 k ∧ (∃ S, s = .int .i64 S ∧ Hid (capTo W k = S) ∧ 0 ≤ S ∧ S ≤ 1000000) ∧ Hid (∀ j, j < k → badB (nth W j) j = false)) (fun _ i => n - (intOf i).toNat)
  case atStart => exact ⟨0, by omega, rfl, ⟨0, rfl, Lib.hid rfl, by omega, by omega⟩, fun j hj => by omega⟩
  case round =>
    obtain ⟨k, hk, rfl, ⟨S, rfl, HS, s0, s1⟩, HB⟩ := hrel
    by_cases hlt : k < n
    · obtain ⟨q, o, rfl, hcell⟩ := hR k (by have := hn.out; omega)
      obtain ⟨v, hv⟩ : ∃ v, nth W k = v := ⟨_, rfl⟩
      rw [hv] at hcell
      have HV := Lib.hid hv
      clear hv
      cases hb : badB v k
      · have HB' := Lib.hid (show ∀ j, j < k + 1 → badB (nth W j) j = false from fun j hj => by
          by_cases e : j = k
          · subst e; rw [HV.out]; exact hb
          · exact HB.out j (by omega))
        have hC : capTo W (k + 1) = min (S + min v 1000000) 1000000 := by unfold capTo; rw [HS.out, HV.out]
        have hv0 : 0 ≤ v := by simp only [badB, Bool.or_eq_false_iff, Bool.and_eq_false_iff, decide_eq_false_iff_not] at hb; omega
        have hc2 : v = 0 ∨ (0 < v ∧ 6 ≤ k ∧ k ≤ 9) := by simp only [badB, Bool.or_eq_false_iff, Bool.and_eq_false_iff, decide_eq_false_iff_not] at hb; omega
        clear hb
        rcases hc2 with rfl | ⟨hv1, hk6, hk9⟩
        · go_wp2
          go_round
          case rel => exact ⟨k + 1, by omega, by go_num, ⟨_, rfl, Lib.hid (by rw [hC]; (repeat' split) <;> omega), by (repeat' split) <;> omega, by (repeat' split) <;> omega⟩, HB'⟩
          case measure => simp [intOf]; omega
        · go_wp2
          go_round
          case rel => exact ⟨k + 1, by omega, by go_num, ⟨_, rfl, Lib.hid (by rw [hC]; (repeat' split) <;> omega), by (repeat' split) <;> omega, by (repeat' split) <;> omega⟩, HB'⟩
          case measure => simp [intOf]; omega
      · have E := Lib.hid (show linesE W = 2 from lines_bad (k := k) (by have := hn.out; omega) (by rw [HV.out]; exact hb))
        have hc2 : v < 0 ∨ (0 < v ∧ k < 6) ∨ (0 < v ∧ 6 ≤ k ∧ 9 < k) := by simp only [badB, Bool.or_eq_true, Bool.and_eq_true, decide_eq_true_eq] at hb; omega
        clear hb
        rcases hc2 with hv0 | ⟨hv0, hk6⟩ | ⟨hv0, hk6, hk9⟩
        · go_wp2
          go_ret
          exact ⟨by rw [E.out]; rfl, rfl⟩
        · go_wp2
          go_ret
          exact ⟨by rw [E.out]; rfl, rfl⟩
        · go_wp2
          go_ret
          exact ⟨by rw [E.out]; rfl, rfl⟩
    · obtain rfl : k = n := by omega
      obtain ⟨g0, g1, g2, g3⟩ := lines_good hn.out (by omega) (by omega) HB.out
      rw [HS.out] at g1 g2 g3
      by_cases hz : S = 0
      · subst hz
        have E := Lib.hid (g1 rfl)
        clear g0 g1 g2 g3
        go_wp2
        go_ret
        exact ⟨by rw [E.out]; rfl, rfl⟩
      · have hS1 : 1 ≤ S := by omega
        have G2 := Lib.hid g2
        have G3 := Lib.hid g3
        have e1 : IntKind.i64.wrap ((1000000000000000 : Int).tdiv S) = 1000000000000000 / S := by
          rw [Int.tdiv_eq_ediv_of_nonneg (by omega)]
          have h1 : 1000000000000000 / S ≤ 1000000000000000 := Int.ediv_le_self _ (by omega)
          have h2 : 0 ≤ 1000000000000000 / S := Int.ediv_nonneg (by omega) (by omega)
          exact IntWalk.i64_in _ (by omega)
        obtain ⟨Q, hQ⟩ : ∃ Q, (1000000000000000 : Int) / S = Q := ⟨_, rfl⟩
        rw [hQ] at e1
        have HQ := Lib.hid hQ
        clear hQ g0 g1 g2 g3
        go_wp2
        go_loop [5, 6] (fun p i => ∃ k : Nat, k ≤ 6 ∧ i = .int .i64 k ∧ (∃ P, p = .int .i64 P ∧ Hid (powI S k = P) ∧ 1 ≤ P ∧ P ≤ 1000000000000000)) (fun _ i => 6 - (intOf i).toNat)
        case atStart => exact ⟨0, by omega, rfl, ⟨1, rfl, Lib.hid rfl, by omega, by omega⟩⟩
        case round =>
          obtain ⟨m, hm, rfl, ⟨P, rfl, HP, p0, p1⟩⟩ := hrel
          by_cases hlm : m < 6
          · by_cases hq : Q < P
            · have E := Lib.hid (G3.out (pow_over hS1 hlm (by rw [HQ.out, HP.out]; exact hq)))
              go_wp2
              go_ret
              exact ⟨by rw [E.out]; rfl, rfl⟩
            · have h1 := pow_next hS1 (k := m) (by rw [HQ.out, HP.out]; omega)
              have h2 := powI_pos hS1 (m + 1)
              have e : powI S (m + 1) = P * S := by unfold powI; rw [HP.out]
              rw [e] at h1 h2
              have e2 : IntKind.i64.wrap (P * S) = P * S := IntWalk.i64_in _ (by omega)
              have E := Lib.hid e
              clear e
              go_wp2
              go_round
              case rel => exact ⟨m + 1, by omega, by go_num, ⟨_, rfl, E, h2, h1⟩⟩
              case measure => simp [intOf]; omega
          · obtain rfl : m = 6 := by omega
            have E := Lib.hid (G2.out hS1 (pow_under hS1 (by rw [HP.out]; exact p1)))
            go_wp2
            go_ret
            exact ⟨by rw [E.out]; rfl, rfl⟩
end Go.Proofs.YtoeflgmdaaefeaaGreatDoor
