/-
  The reference of chapter 4: the palace of a hexagram: the walk.
-/
import Derived.Test.YtdadaipejfoipaaGreatDoorHxRp
namespace Go.Proofs.YtdadaipejfoipaaGreatDoor
open Go Go.RowKit
set_option linter.unusedVariables false

set_option maxRecDepth 100000 in
set_option maxHeartbeats 4000000 in
theorem refPalace_any (h : Int) (hx : Hex h) (w : World) :
    Calls Tryz.prog 21 #[.int .i64 h] w fun e w' => e = .returned (.tuple #[.int .i64 (palH h), .int .i64 (palS h)]) ∧ Below w.heap.size w w' := by
  obtain ⟨T, S, hT, hS, e1, e2, e3⟩ := pal_at hx
  have E1 := Lib.hid e1
  have E2 := Lib.hid e2
  have E3 := Lib.hid e3
  clear e1 e2 e3 hx
  go_enter Tryz.func21, Tryz.ntmps21
  go_wp2_with fail
  go_loopw [4, 5] (fun i _ wr => ∃ t : Nat, t ≤ T ∧ i = .int .i64 t ∧ Below w.heap.size w wr) (fun i _ _ => 9 - (intOf i).toNat)
  case atStart => exact ⟨0, by omega, rfl, Below.refl _ _⟩
  case round =>
    obtain ⟨t, ht, rfl, hB⟩ := hrel
    have d1 : decide ((t : Int) < 8) = true := by simp; omega
    go_wp2_with fail
    clear d1
    go_loopw [5] (fun i wr => ∃ s : Nat, s ≤ 8 ∧ (t = T → s ≤ S) ∧ i = .int .i64 s ∧ Below w.heap.size w wr) (fun i _ => 8 - (intOf i).toNat)
    case atStart => exact ⟨0, by omega, by omega, rfl, hB⟩
    case round =>
      obtain ⟨s, hs, hst, rfl, hB2⟩ := hrel
      clear hB
      by_cases hlt : s < 8
      · have EA := Lib.hid (show atV t s = memN (9 * (t : Int)) (turnT s) from rfl)
        have C := fun W => refMember_any (9 * (t : Int)) ⟨by omega, by omega⟩ s hlt W
        rw [← EA.out] at C
        obtain ⟨v, hv⟩ : ∃ v, atV t s = v := ⟨_, rfl⟩
        rw [hv] at C
        have HV := Lib.hid hv
        clear EA hv
        by_cases hq : v = h
        · obtain ⟨rfl, rfl⟩ := at_only hT hS (by omega) hlt (HV.out.trans (hq.trans E3.out.symm))
          have y2 : decide (v = h) = true := by simpa using hq
          have y3 : (v == h) = true := by simpa using hq
          clear hq
          go_wp2_with fail
          refine (C _).mono ?_
          rintro e w2 ⟨rfl, hb⟩
          have hb5 := tr hB2 hb
          go_wp2_with fail
          refine bodyPost_ret (v := .tuple #[.int .i64 (9 * (t : Int)), .int .i64 s]) (by simp [results, Tryz.results21, go_sem]) rfl ⟨by rw [E1.out, E2.out], hb5⟩
        · have y2 : decide (v = h) = false := by simpa using hq
          have y3 : (v == h) = false := by simpa using hq
          have HQ := Lib.hid (show t = T → s ≠ S from fun a b => hq (by rw [← HV.out, a, b]; exact E3.out))
          clear hq
          go_wp2_with fail
          refine (C _).mono ?_
          rintro e w2 ⟨rfl, hb⟩
          have hb5 := tr hB2 hb
          clear C
          go_wp2_with fail
          go_roundw
          case rel => exact ⟨s + 1, by omega, fun a => by have := HQ.out a; have := hst a; omega, by go_num, hb5⟩
          case measure => simp [intOf]; omega
      · obtain rfl : s = 8 := by omega
        have htT : t < T := by
          rcases Nat.lt_or_ge t T with h1 | h1
          · exact h1
          · have := hst (by omega); omega
        go_wp2_with fail
        go_roundw
        case rel => exact ⟨t + 1, by omega, by go_num, hB2⟩
        case measure => simp [intOf]; omega
end Go.Proofs.YtdadaipejfoipaaGreatDoor
