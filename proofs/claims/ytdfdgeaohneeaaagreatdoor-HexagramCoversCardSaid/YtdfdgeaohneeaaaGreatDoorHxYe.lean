/-
  Package hexagram: what is near to a set.
-/
import Derived.Test.YtdfdgeaohneeaaaGreatDoorHxYb
import Derived.Test.YtdfdgeaohneeaaaGreatDoorHxF
namespace Go.Proofs.YtdfdgeaohneeaaaGreatDoor
open Go Go.RowKit
set_option linter.unusedVariables false

/-- What Near returns. -/
def nearE (n : Int) : Int := if outB 0 6 n = true then 3 else 0
def nearR (s n : Int) : Int := if outB 0 6 n = true then 0 else nearV s n.toNat

set_option maxRecDepth 100000 in
set_option maxHeartbeats 2000000 in
theorem near_any (s n : Int) (w : World) (hf : Fst w) :
    Calls Tryz.prog 19 #[.int .u64 s, .int .i64 n] w fun e w' => e = .returned (.tuple #[.int .u64 (nearR s n), .int .i64 (nearE n)]) ∧ Below w.heap.size w w' := by
  have hb : Below w.heap.size w ((w.alloc (.cells #[.int .i64 0] 3)).alloc (.cells #[.int .i64 6] 3)) := ((Below.refl _ _).alloc (Nat.le_refl _) _).alloc (by simp) _
  cases ho : outB 0 6 n
  · have Ho := Lib.hid ho
    have hn : 0 ≤ n ∧ n ≤ 6 := by simp [outB] at ho; omega
    have E := Lib.hid (show nearE n = 0 by unfold nearE; rw [ho]; rfl)
    have E2 := Lib.hid (show nearR s n = nearV s n.toNat by unfold nearR; rw [ho]; rfl)
    clear ho
    obtain ⟨h0, h1⟩ := hn
    obtain ⟨N, rfl⟩ := Int.eq_ofNat_of_zero_le h0
    rw [Int.toNat_natCast] at E2
    obtain ⟨V, hV⟩ : ∃ V : Nat → Int, V = nearV s := ⟨_, rfl⟩
    have V0 := Lib.hid (show V 0 = s by rw [hV]; rfl)
    have V1 := Lib.hid (show ∀ m, nearL (V m) 6 = V (m + 1) from fun m => by rw [hV]; rfl)
    rw [← hV] at E2
    clear hV
    have hN6 : N ≤ 6 := by omega
    go_enter Tryz.func19, Tryz.ntmps19
    go_wp2_with fail
    refine (outside_anyI 0 6 w).mono ?_
    rintro e w' ⟨rfl, rfl⟩
    go_wp2_with fail
    refine (outside1_anyI _ 0 6 _ _ _ (by go_cell) (by go_cell)).mono ?_
    rintro e w' ⟨rfl, rfl⟩
    rw [Ho.out]
    generalize (w.alloc (.cells #[.int .i64 0] 3)).alloc (.cells #[.int .i64 6] 3) = W0 at hb ⊢
    go_wp2_with fail
    go_loopw [0, 12] (fun v i wr => ∃ m : Nat, m ≤ N ∧ i = .int .i64 m ∧ v = .int .u64 (V m) ∧ Below w.heap.size w wr) (fun _ i _ => N - (intOf i).toNat)
    case atStart => exact ⟨0, by omega, rfl, by rw [V0.out], hb⟩
    case round =>
      obtain ⟨m, hm, rfl, rfl, hB⟩ := hrel
      by_cases hlt : m < N
      · obtain ⟨S, hS⟩ : ∃ S, V m = S := ⟨_, rfl⟩
        have HS := Lib.hid (show nearL S 6 = V (m + 1) by rw [← hS]; exact V1.out m)
        rw [hS]
        clear hS hb
        go_wp2_with fail
        go_loopw [6, 15] (fun v i wz => ∃ l : Nat, l ≤ 6 ∧ i = .int .i64 l ∧ v = .int .u64 (nearL S l) ∧ Below w.heap.size w wz) (fun _ i _ => 6 - (intOf i).toNat)
        case atStart => exact ⟨0, by omega, rfl, rfl, hB⟩
        case round =>
          obtain ⟨l, hl, rfl, rfl, hBz⟩ := hrel
          by_cases hl6 : l < 6
          · have HT := Lib.hid (show nearL S (l + 1) = bits BinOp.or IntKind.u64 (nearL S l) (turnedV S l) from rfl)
            go_wp2_with fail
            refine (turnedIn_any S l hl6 _ (hf.below hBz (Nat.le_refl _))).mono ?_
            rintro e w' ⟨rfl, r, rfl⟩
            have hBy := below_drewN hBz r
            go_wp2
            go_roundw
            case rel => exact ⟨l + 1, by omega, by go_num, by rw [HT.out], hBy⟩
            case measure => simp [intOf]; omega
          · obtain rfl : l = 6 := by omega
            rw [HS.out]
            go_wp2
            go_roundw
            case rel => exact ⟨m + 1, by omega, by go_num, rfl, hBz⟩
            case measure => simp [intOf]; omega
      · obtain rfl : m = N := by omega
        go_wp2
        go_ret2
        exact ⟨by rw [E2.out, E.out]; rfl, hB⟩
  · have Ho := Lib.hid ho
    have E := Lib.hid (show nearE n = 3 by unfold nearE; rw [ho]; rfl)
    have E2 := Lib.hid (show nearR s n = 0 by unfold nearR; rw [ho]; rfl)
    clear ho
    go_enter Tryz.func19, Tryz.ntmps19
    go_wp2_with fail
    refine (outside_anyI 0 6 w).mono ?_
    rintro e w' ⟨rfl, rfl⟩
    go_wp2_with fail
    refine (outside1_anyI _ 0 6 _ _ _ (by go_cell) (by go_cell)).mono ?_
    rintro e w' ⟨rfl, rfl⟩
    rw [Ho.out]
    go_wp2
    go_ret2
    exact ⟨by rw [E2.out, E.out]; rfl, hb⟩
end Go.Proofs.YtdfdgeaohneeaaaGreatDoor
