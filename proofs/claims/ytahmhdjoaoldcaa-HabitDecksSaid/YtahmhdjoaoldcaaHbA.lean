/-
  Package habit: registers: checkLength, checkRegister; the reference's Numbers.
-/
import Derived.Test.YtahmhdjoaoldcaaShA
import Derived.Test.YtahmhdjoaoldcaaRgm
namespace Go.Proofs.Ytahmhdjoaoldcaa
open Go Go.RowKit
set_option linter.unusedVariables false
set_option linter.unusedSimpArgs false

theorem cells_two0 (w : World) (T : TypeId) (a b : Value) : ((w.alloc (.cells #[a] T)).alloc (.cells #[b] T)).cell? ⟨w.heap.size, 0, none⟩ = some a := by simp
theorem cells_two1 (w : World) (T : TypeId) (a b : Value) : ((w.alloc (.cells #[a] T)).alloc (.cells #[b] T)).cell? ⟨w.heap.size + 1, 0, none⟩ = some b := by simp
/-- The error of a length. -/
def lenE (n : Nat) : Int := if 400 < n then 5 else 0
set_option maxHeartbeats 400000 in
theorem checkLength_any (p : Option Addr) (n c : Nat) (hn : n ≤ 1000000) (w : World) :
    Calls Try.prog 26 #[.slice p n c] w fun e w' => e = .returned (.int .i64 (lenE n)) ∧ w = w' := by
  by_cases h : 400 < n
  · have HE := Lib.hid (show lenE n = 5 by unfold lenE; rw [if_pos h])
    have h' : (400 : Int) < (n : Int) := by omega
    go_enter Try.func26, Try.ntmps26
    go_wp2
    go_ret
    exact ⟨by rw [HE.out]; rfl, rfl⟩
  · have HE := Lib.hid (show lenE n = 0 by unfold lenE; rw [if_neg h])
    have h' : (n : Int) ≤ 400 := by omega
    go_enter Try.func26, Try.ntmps26
    go_wp2
    go_ret
    exact ⟨by rw [HE.out]; rfl, rfl⟩
/-- The error of a register with so many outcomes. -/
def regE (xs : List Int) (N : Int) : Int := if 400 < xs.length then 5 else if anyB (outB 0 (N - 1)) xs = true then 2 else 0
set_option maxHeartbeats 400000 in
theorem checkRegister_any (p : Option Addr) (xs : List Int) (n c : Nat) (hx : Hid (xs.length = n)) (hn : n ≤ 1000000) (N : Int) (hN : 0 ≤ N ∧ N ≤ 1000000) (w : World) (hR : Reads w p xs) :
    Calls Try.prog 23 #[.slice p n c, .int .i64 N] w fun e w' => e = .returned (.int .i64 (regE xs N)) ∧ Below w.heap.size w w' := by
  obtain ⟨hN0, hN1⟩ := hN
  by_cases h : 400 < n
  · have HE := Lib.hid (show lenE n = 5 by unfold lenE; rw [if_pos h])
    have HR := Lib.hid (show regE xs N = 5 by unfold regE; rw [hx.out, if_pos h])
    go_enter Try.func23, Try.ntmps23
    go_wp2_with fail
    refine (checkLength_any p n c hn _).mono ?_
    rintro e w1 ⟨rfl, rfl⟩
    rw [HE.out]
    go_wp2
    go_ret
    exact ⟨by rw [HR.out]; rfl, Below.refl _ _⟩
  · have HE := Lib.hid (show lenE n = 0 by unfold lenE; rw [if_neg h])
    have HR := Lib.hid (show regE xs N = (if anyB (outB 0 (N - 1)) xs = true then 2 else 0) by unfold regE; rw [hx.out, if_neg h])
    have hw1 : IntKind.i64.wrap (N - 1) = N - 1 := IntWalk.i64_in _ (by omega)
    go_enter Try.func23, Try.ntmps23
    go_wp2_with fail
    refine (checkLength_any p n c hn _).mono ?_
    rintro e w1 ⟨rfl, rfl⟩
    rw [HE.out]
    clear h
    go_wp2_with fail
    refine (outside_anyI 0 (N - 1) _).mono ?_
    rintro e w2 ⟨rfl, rfl⟩
    have hc0 : ((w.alloc (.cells #[.int .i64 0] 3)).alloc (.cells #[.int .i64 (N - 1)] 3)).cell? ⟨w.heap.size, 0, none⟩ = some (.int .i64 0) := cells_two0 _ _ _ _
    have hc1 : ((w.alloc (.cells #[.int .i64 0] 3)).alloc (.cells #[.int .i64 (N - 1)] 3)).cell? ⟨w.heap.size + 1, 0, none⟩ = some (.int .i64 (N - 1)) := cells_two1 _ _ _ _
    have hb : Below w.heap.size w ((w.alloc (.cells #[.int .i64 0] 3)).alloc (.cells #[.int .i64 (N - 1)] 3)) := ((Below.refl _ _).alloc (Nat.le_refl _) _).alloc (by simp) _
    have hR2 := hR.below hb (Nat.le_refl _)
    have hC := containsFunc_outsideI 0 (N - 1) ⟨w.heap.size, 0, none⟩ ⟨w.heap.size + 1, 0, none⟩ _ hc0 hc1 p xs c (by rw [hx.out]; omega) hR2
    rw [hx.out] at hC
    clear hc0 hc1 hR2 hR
    cases hA : anyB (outB 0 (N - 1)) xs
    all_goals
      rw [hA] at hC HR
      clear hA
      go_wp2_with fail
      refine hC.mono ?_
      rintro e w3 ⟨rfl, rfl⟩
      go_wp2
      go_ret
      exact ⟨by rw [HR.out]; rfl, hb⟩
/-- What the reference's Numbers returns. -/
theorem refNumbers_any (p : Option Addr) (xs : List Int) (n c : Nat) (hx : Hid (xs.length = n)) (hn : n ≤ 1000000) (N : Int) (hN : 0 ≤ N ∧ N ≤ 1000000) (w : World) (hR : Reads w p xs) :
    Calls Try.prog 12 #[.slice p n c, .int .i64 N] w fun e w' => e = .returned (.int .i64 (regE xs N)) ∧ w = w' := by
  obtain ⟨hN0, hN1⟩ := hN
  by_cases h : 400 < n
  · have HR := Lib.hid (show regE xs N = 5 by unfold regE; rw [hx.out, if_pos h])
    have h' : (400 : Int) < (n : Int) := by omega
    go_enter Try.func12, Try.ntmps12
    go_wp2
    go_ret
    exact ⟨by rw [HR.out]; rfl, rfl⟩
  · have HR := Lib.hid (show regE xs N = (if anyB (outB 0 (N - 1)) xs = true then 2 else 0) by unfold regE; rw [hx.out, if_neg h])
    have h' : (n : Int) ≤ 400 := by omega
    go_enter Try.func12, Try.ntmps12
    go_wp2
    go_loop [5] (fun i => ∃ k : Nat, k ≤ n ∧ i = .int .i64 k ∧ Hid (noneB (outB 0 (N - 1)) xs k)) (fun i => n - (intOf i).toNat)
    case atStart => exact ⟨0, by omega, rfl, fun i hi => by omega⟩
    case round =>
      obtain ⟨k, hk, rfl, HF⟩ := hrel
      by_cases hlt : k < n
      · obtain ⟨q, o, rfl, hc⟩ := hR k (by rw [hx.out]; exact hlt)
        have hkx : k < xs.length := by rw [hx.out]; exact hlt
        by_cases h0 : nth xs k < 0
        · have HO := Lib.hid (anyB_true hkx (show outB 0 (N - 1) (nth xs k) = true by simp [outB]; omega))
          clear hkx
          go_wp2
          go_ret
          exact ⟨by rw [HR.out, HO.out]; rfl, rfl⟩
        · have h0' : 0 ≤ nth xs k := by omega
          by_cases h1 : N ≤ nth xs k
          · have HO := Lib.hid (anyB_true hkx (show outB 0 (N - 1) (nth xs k) = true by simp [outB]; omega))
            clear hkx h0
            go_wp2
            go_ret
            exact ⟨by rw [HR.out, HO.out]; rfl, rfl⟩
          · have h1' : nth xs k < N := by omega
            have HO := Lib.hid (noneB_succ HF.out (show outB 0 (N - 1) (nth xs k) = false by simp [outB]; omega))
            clear hkx h0 h1
            go_wp2
            go_round
            case rel => exact ⟨k + 1, by omega, by go_num, HO⟩
            case measure => simp [intOf]; omega
      · obtain rfl : k = n := by omega
        have HO := Lib.hid (anyB_false (f := outB 0 (N - 1)) (xs := xs) (by rw [hx.out]; exact HF.out))
        go_wp2
        go_ret
        exact ⟨by rw [HR.out, HO.out]; rfl, rfl⟩
end Go.Proofs.Ytahmhdjoaoldcaa
