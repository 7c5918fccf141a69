/-
  Package habit: Longest; the reference's Longest.
-/
import Derived.Test.YtahmhdjoaoldcaaHbA
import Derived.Test.YtahmhdjoaoldcaaHbE
import Derived.Deep.QuietTactic
import Derived.BigQuiet
namespace Go.Proofs.Ytahmhdjoaoldcaa
open Go Go.RowKit
set_option linter.unusedVariables false
set_option linter.unusedSimpArgs false

theorem longest_long (p : Option Addr) (n c : Nat) (hn : n ≤ 1000) (h : 400 < n) (w : World) :
    Calls Try.prog 9 #[.slice p n c] w fun e w' => e = .returned (.tuple #[.int .i64 0, .int .i64 0, .int .i64 0, .int .i64 5]) ∧ w = w' := by
  have HE := Lib.hid (show lenE n = 5 by unfold lenE; rw [if_pos h])
  go_enter Try.func9, Try.ntmps9
  go_wp2_with fail
  refine (checkLength_any p n c (by omega) _).mono ?_
  rintro e w1 ⟨rfl, rfl⟩
  rw [HE.out]
  go_wp2
  go_returns
  exact ⟨rfl, rfl⟩
set_option maxRecDepth 100000 in
set_option maxHeartbeats 2000000 in
theorem longest_any (p : Option Addr) (xs : List Int) (n c : Nat) (hx : Hid (xs.length = n)) (hn : n ≤ 400) (w : World) (hR : Reads w p xs) :
    Calls Try.prog 9 #[.slice p n c] w fun e w' => e = .returned (.tuple #[.int .i64 ((bestTo xs n n).1 : Nat), .int .i64 ((bestTo xs n n).2 : Nat), .int .i64 (runsTo xs n : Nat), .int .i64 0]) ∧ w = w' := by
  have HE := Lib.hid (show lenE n = 0 by unfold lenE; rw [if_neg (by omega)])
  go_enter Try.func9, Try.ntmps9
  go_wp2_with fail
  refine (checkLength_any p n c (by omega) _).mono ?_
  rintro e w1 ⟨rfl, rfl⟩
  rw [HE.out]
  go_wp2
  go_loop [2, 3, 4, 7, 8, 9, 17] (fun a b r f _ _ i => ∃ k : Nat, k ≤ n ∧ i = .int .i64 k ∧ a = .int .i64 ((bestTo xs k k).1 : Nat) ∧ b = .int .i64 ((bestTo xs k k).2 : Nat) ∧ r = .int .i64 (runsTo xs k : Nat) ∧ f = .int .i64 (fromTo xs k : Nat)) (fun _ _ _ _ _ _ i => n - (intOf i).toNat)
  case atStart => exact ⟨0, Nat.zero_le _, rfl, rfl, rfl, rfl, rfl⟩
  case round =>
    obtain ⟨k, hk, rfl, rfl, rfl, rfl, rfl⟩ := hrel
    by_cases hlt : k < n
    · have hkx : k < xs.length := by rw [hx.out]; exact hlt
      obtain ⟨q, o, rfl, hcell⟩ := hR k hkx
      have HST := Lib.hid (bestTo_step xs k)
      obtain ⟨hs1, hs2⟩ := best_le xs k
      obtain ⟨S, hS⟩ : ∃ S, (bestTo xs k k).1 = S := ⟨_, rfl⟩
      obtain ⟨L, hL⟩ : ∃ L, (bestTo xs k k).2 = L := ⟨_, rfl⟩
      have HB := Lib.hid (show bestTo xs k k = (S, L) from Prod.ext hS hL)
      rw [hS] at hs1
      rw [hL] at hs2
      rw [hS, hL]
      have hru := runsTo_le xs k
      obtain ⟨R, hRr⟩ : ∃ R, runsTo xs k = R := ⟨_, rfl⟩
      have HRr := Lib.hid hRr
      rw [hRr] at hru ⊢
      have hff := fromTo_le xs k
      obtain ⟨F, hF⟩ : ∃ F, fromTo xs k = F := ⟨_, rfl⟩
      have HF := Lib.hid hF
      rw [hF] at hff ⊢
      clear hS hL hRr hF
      by_cases h0 : k = 0
      · have HN1 := Lib.hid (show fromTo xs (k + 1) = k by unfold fromTo; rw [if_pos (.inl h0)])
        have HN2 := Lib.hid (show runsTo xs (k + 1) = R + 1 by rw [← HRr.out]; show (if k = 0 ∨ _ then _ else _) = _; rw [if_pos (.inl h0)])
        have hz : ((k : Int) == 0) = true := by rw [h0]; rfl
        have HK := Lib.hid h0
        clear h0
        obtain ⟨D, hD⟩ : ∃ D, k + 1 - k = D := ⟨_, rfl⟩
        have hw4 : IntKind.i64.wrap ((k : Int) + 1 - (k : Int)) = (D : Int) := by
          rw [← hD, show ((k : Int) + 1 - (k : Int)) = (((k + 1 - k : Nat)) : Int) by omega]
          exact IntWalk.i64_in _ (by omega)
        have hw5 : IntKind.i64.wrap ((k : Int) + 1) = (k : Int) + 1 := IntWalk.i64_in _ (by omega)
        by_cases hLD : L < D
        · have HS2 := Lib.hid (show bestTo xs (k + 1) (k + 1) = (k, D) by rw [HST.out, HB.out, HN1.out, hD, if_pos hLD])
          have hLi : (L : Int) < (D : Int) := by omega
          have hLd : decide (L < D) = true := decide_eq_true hLD
          clear hLD hD HST HB
          go_wp2
          go_round
          case rel => exact ⟨k + 1, by omega, by go_num, by rw [HS2.out], by rw [HS2.out], by rw [HN2.out]; try (first | rfl | go_num), by rw [HN1.out]⟩
          case measure => simp [intOf]; omega
        · have HS2 := Lib.hid (show bestTo xs (k + 1) (k + 1) = (S, L) by rw [HST.out, HB.out, HN1.out, hD, if_neg hLD])
          have hLi : (D : Int) ≤ (L : Int) := by omega
          have hLd : decide (L < D) = false := decide_eq_false hLD
          clear hLD hD HST HB
          go_wp2
          go_round
          case rel => exact ⟨k + 1, by omega, by go_num, by rw [HS2.out], by rw [HS2.out], by rw [HN2.out]; try (first | rfl | go_num), by rw [HN1.out]⟩
          case measure => simp [intOf]; omega
      · obtain ⟨j, hj⟩ : ∃ j, k = j + 1 := ⟨k - 1, by omega⟩
        obtain ⟨q', o', he', hcell'⟩ := hR j (by omega)
        cases he'
        have hz : ((k : Int) == 0) = false := by simp; omega
        have hw3 : IntKind.i64.wrap ((k : Int) - 1) = (j : Int) := by
          rw [hj]
          push_cast
          rw [Int.add_sub_cancel]
          exact IntWalk.i64_in _ (by omega)
        have hjn : (j : Int) < (n : Int) := by omega
        have hj1 : k - 1 = j := by omega
        by_cases heq : nth xs k = nth xs j
        · have HN1 := Lib.hid (show fromTo xs (k + 1) = F by rw [← HF.out]; show (if k = 0 ∨ nth xs k ≠ nth xs (k - 1) then _ else _) = _; rw [if_neg]; rw [hj1]; rintro (h | h); omega; exact h heq)
          have HN2 := Lib.hid (show runsTo xs (k + 1) = R by rw [← HRr.out]; show (if k = 0 ∨ nth xs k ≠ nth xs (k - 1) then _ else _) = _; rw [if_neg]; rw [hj1]; rintro (h | h); omega; exact h heq)
          have hq1 : (nth xs k == nth xs j) = true := by simp [heq]
          have hq2 : (nth xs k != nth xs j) = false := by simp [heq]
          clear heq h0 hj1 hj
          obtain ⟨D, hD⟩ : ∃ D, k + 1 - F = D := ⟨_, rfl⟩
          have hw4 : IntKind.i64.wrap ((k : Int) + 1 - (F : Int)) = (D : Int) := by
            rw [← hD, show ((k : Int) + 1 - (F : Int)) = (((k + 1 - F : Nat)) : Int) by omega]
            exact IntWalk.i64_in _ (by omega)
          have hw5 : IntKind.i64.wrap ((k : Int) + 1) = (k : Int) + 1 := IntWalk.i64_in _ (by omega)
          by_cases hLD : L < D
          · have HS2 := Lib.hid (show bestTo xs (k + 1) (k + 1) = (F, D) by rw [HST.out, HB.out, HN1.out, hD, if_pos hLD])
            have hLi : (L : Int) < (D : Int) := by omega
            have hLd : decide (L < D) = true := decide_eq_true hLD
            clear hLD hD HST HB
            go_wp2
            go_round
            case rel => exact ⟨k + 1, by omega, by go_num, by rw [HS2.out], by rw [HS2.out], by rw [HN2.out]; try (first | rfl | go_num), by rw [HN1.out]⟩
            case measure => simp [intOf]; omega
          · have HS2 := Lib.hid (show bestTo xs (k + 1) (k + 1) = (S, L) by rw [HST.out, HB.out, HN1.out, hD, if_neg hLD])
            have hLi : (D : Int) ≤ (L : Int) := by omega
            have hLd : decide (L < D) = false := decide_eq_false hLD
            clear hLD hD HST HB
            go_wp2
            go_round
            case rel => exact ⟨k + 1, by omega, by go_num, by rw [HS2.out], by rw [HS2.out], by rw [HN2.out]; try (first | rfl | go_num), by rw [HN1.out]⟩
            case measure => simp [intOf]; omega
        · have HN1 := Lib.hid (show fromTo xs (k + 1) = k by show (if k = 0 ∨ nth xs k ≠ nth xs (k - 1) then _ else _) = _; rw [if_pos]; rw [hj1]; exact .inr heq)
          have HN2 := Lib.hid (show runsTo xs (k + 1) = R + 1 by rw [← HRr.out]; show (if k = 0 ∨ nth xs k ≠ nth xs (k - 1) then _ else _) = _; rw [if_pos]; rw [hj1]; exact .inr heq)
          have hq1 : (nth xs k == nth xs j) = false := by simp [heq]
          have hq2 : (nth xs k != nth xs j) = true := by simp [heq]
          clear heq h0 hj1 hj
          obtain ⟨D, hD⟩ : ∃ D, k + 1 - k = D := ⟨_, rfl⟩
          have hw4 : IntKind.i64.wrap ((k : Int) + 1 - (k : Int)) = (D : Int) := by
            rw [← hD, show ((k : Int) + 1 - (k : Int)) = (((k + 1 - k : Nat)) : Int) by omega]
            exact IntWalk.i64_in _ (by omega)
          have hw5 : IntKind.i64.wrap ((k : Int) + 1) = (k : Int) + 1 := IntWalk.i64_in _ (by omega)
          by_cases hLD : L < D
          · have HS2 := Lib.hid (show bestTo xs (k + 1) (k + 1) = (k, D) by rw [HST.out, HB.out, HN1.out, hD, if_pos hLD])
            have hLi : (L : Int) < (D : Int) := by omega
            have hLd : decide (L < D) = true := decide_eq_true hLD
            clear hLD hD HST HB
            go_wp2
            go_round
            case rel => exact ⟨k + 1, by omega, by go_num, by rw [HS2.out], by rw [HS2.out], by rw [HN2.out]; try (first | rfl | go_num), by rw [HN1.out]⟩
            case measure => simp [intOf]; omega
          · have HS2 := Lib.hid (show bestTo xs (k + 1) (k + 1) = (S, L) by rw [HST.out, HB.out, HN1.out, hD, if_neg hLD])
            have hLi : (D : Int) ≤ (L : Int) := by omega
            have hLd : decide (L < D) = false := decide_eq_false hLD
            clear hLD hD HST HB
            go_wp2
            go_round
            case rel => exact ⟨k + 1, by omega, by go_num, by rw [HS2.out], by rw [HS2.out], by rw [HN2.out]; try (first | rfl | go_num), by rw [HN1.out]⟩
            case measure => simp [intOf]; omega
    · obtain rfl : k = n := by omega
      go_wp2
      go_returns
      exact ⟨rfl, rfl⟩
end Go.Proofs.Ytahmhdjoaoldcaa
