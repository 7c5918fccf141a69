/-
  HabitCounts: Tally's errors, the helper same.
-/
import Derived.Test.YtahmhdjoaoldcaaHbC
import Derived.Test.YtahmhdjoaoldcaaHbF
import Derived.Test.YtahmhdjoaoldcaaHbG
import Derived.Test.YtahmhdjoaoldcaaHbK
import Derived.Test.YtahmhdjoaoldcaaHbM
import Derived.Test.YtahmhdjoaoldcaaHbKnown
namespace Go.Proofs.Ytahmhdjoaoldcaa
open Go Go.RowKit
set_option linter.unusedVariables false
set_option linter.unusedSimpArgs false

theorem tally_range (p : Option Addr) (n c : Nat) (N : Int) (HO : Hid (outB 1 32 N = true)) (w : World) :
    Calls Try.prog 7 #[.slice p n c, .int .i64 N] w fun e w' => e = .returned (.tuple #[.slice none 0 0, .slice none 0 0, .int .i64 3]) ∧ Below w.heap.size w w' := by
  go_enter Try.func7, Try.ntmps7
  go_wp2_with fail
  refine (outside_anyI 1 32 _).mono ?_
  rintro e w1 ⟨rfl, rfl⟩
  have hb1 : Below w.heap.size w ((w.alloc (.cells #[.int .i64 1] 3)).alloc (.cells #[.int .i64 32] 3)) := ((Below.refl _ _).alloc (Nat.le_refl _) _).alloc (by simp) _
  have hc0 : ((w.alloc (.cells #[.int .i64 1] 3)).alloc (.cells #[.int .i64 32] 3)).cell? ⟨w.heap.size, 0, none⟩ = some (.int .i64 1) := cells_two0 _ _ _ _
  have hc1 : ((w.alloc (.cells #[.int .i64 1] 3)).alloc (.cells #[.int .i64 32] 3)).cell? ⟨w.heap.size + 1, 0, none⟩ = some (.int .i64 32) := cells_two1 _ _ _ _
  have hC := outside1_anyI N 1 32 ⟨w.heap.size, 0, none⟩ ⟨w.heap.size + 1, 0, none⟩ _ hc0 hc1
  rw [HO.out] at hC
  clear hc0 hc1
  go_wp2_with fail
  refine hC.mono ?_
  rintro e w2 ⟨rfl, rfl⟩
  clear hC
  go_wp2
  go_returns
  exact ⟨rfl, hb1⟩
theorem tally_bad (p : Option Addr) (xs : List Int) (n c : Nat) (hx : Hid (xs.length = n)) (hn : n ≤ 1000) (m : Nat) (h1m : 1 ≤ m) (hm : m ≤ 32) (E : Int) (hE : Hid (regE xs m = E)) (hE0 : E ≠ 0) (w : World) (hR : Reads w p xs) :
    Calls Try.prog 7 #[.slice p n c, .int .i64 m] w fun e w' => e = .returned (.tuple #[.slice none 0 0, .slice none 0 0, .int .i64 E]) ∧ Below w.heap.size w w' := by
  have HO := Lib.hid (show outB 1 32 (m : Int) = false by simp [outB]; omega)
  have hq : (E == 0) = false := by simp [hE0]
  have hq2 : (E != 0) = true := by simp [hE0]
  clear hE0
  go_enter Try.func7, Try.ntmps7
  go_wp2_with fail
  refine (outside_anyI 1 32 _).mono ?_
  rintro e w1 ⟨rfl, rfl⟩
  have hb1 : Below w.heap.size w ((w.alloc (.cells #[.int .i64 1] 3)).alloc (.cells #[.int .i64 32] 3)) := ((Below.refl _ _).alloc (Nat.le_refl _) _).alloc (by simp) _
  have hc0 : ((w.alloc (.cells #[.int .i64 1] 3)).alloc (.cells #[.int .i64 32] 3)).cell? ⟨w.heap.size, 0, none⟩ = some (.int .i64 1) := cells_two0 _ _ _ _
  have hc1 : ((w.alloc (.cells #[.int .i64 1] 3)).alloc (.cells #[.int .i64 32] 3)).cell? ⟨w.heap.size + 1, 0, none⟩ = some (.int .i64 32) := cells_two1 _ _ _ _
  have hC := outside1_anyI (m : Int) 1 32 ⟨w.heap.size, 0, none⟩ ⟨w.heap.size + 1, 0, none⟩ _ hc0 hc1
  rw [HO.out] at hC
  have hR1 := hR.below hb1 (Nat.le_refl _)
  generalize (w.alloc (.cells #[.int .i64 1] 3)).alloc (.cells #[.int .i64 32] 3) = W1 at hb1 hC hR1 hc0 hc1 ⊢
  clear hc0 hc1
  go_wp2_with fail
  refine hC.mono ?_
  rintro e w2 ⟨rfl, rfl⟩
  go_wp2_with fail
  refine (checkRegister_any p xs n c hx (by omega) m ⟨by omega, by omega⟩ _ hR1).mono ?_
  rintro e w2 ⟨rfl, hb2⟩
  rw [hE.out]
  have hB2 := hb1.trans (hb2.mono hb1.size)
  clear hC hb1 hb2 hR1
  go_wp2
  go_returns
  exact ⟨rfl, hB2⟩
set_option maxHeartbeats 800000 in
theorem same9_any (p : Option Addr) (xs : List Int) (n c : Nat) (q : Option Addr) (ys : List Int) (m d : Nat) (w : World) (hx : Hid (xs.length = n)) (hy : Hid (ys.length = m)) (hl : n ≤ 1000000) (hX : Reads w p xs) (hY : Reads w q ys) :
    Calls Try.prog 10 #[.slice p n c, .slice q m d] w fun e w' => e = .returned (.bool (decide (xs = ys))) ∧ ∃ r, w' = w.drewN r := by
  by_cases hn : n = m
  · subst hn
    go_enter Try.func10, Try.ntmps10
    go_wp2
    go_loopw [5] (fun i wr => ∃ k : Nat, k ≤ n ∧ i = .int .i64 k ∧ Hid (∀ j, j < k → nth xs j = nth ys j) ∧ ∃ r, wr = w.drewN r) (fun i _ => n - (intOf i).toNat)
    case atStart => exact ⟨0, by omega, rfl, fun j hj => by omega, 0, rfl⟩
    case round =>
      obtain ⟨k, hk, rfl, HE, r, rfl⟩ := hrel
      by_cases hlt : k < n
      · obtain ⟨g, o, rfl, hcx⟩ := hX k (by have := hx.out; omega)
        obtain ⟨g', o', rfl, hcy⟩ := hY k (by have := hy.out; omega)
        by_cases hq : nth xs k = nth ys k
        · have e2 : decide (nth xs k = nth ys k) = true := by simp [hq]
          have e3 : (nth xs k != nth ys k) = false := by simp [hq]
          have HQ := Lib.hid hq
          clear hq
          go_wp2
          go_quiet (fail)
          go_wp2
          go_roundw
          case rel => exact ⟨k + 1, by omega, by go_num, fun j hj => by by_cases e : j = k; exact e ▸ HQ.out; exact HE.out j (by omega), _, rfl⟩
          case measure => simp [intOf]; omega
        · have e2 : decide (nth xs k = nth ys k) = false := by simp [hq]
          have e3 : (nth xs k != nth ys k) = true := by simp [hq]
          have HQ := Lib.hid hq
          clear hq
          go_wp2
          go_quiet (fail)
          go_wp2
          go_ret
          exact ⟨by have : xs ≠ ys := fun h => HQ.out (by rw [h]); simp [this], _, World.drewN_drewN ..⟩
      · obtain rfl : k = n := by omega
        go_wp2
        go_ret
        exact ⟨by have := List.ext_getElem (hx.out.trans hy.out.symm) (fun i h1 h2 => by have := HE.out i (by rw [← hx.out]; exact h1); rwa [nth_eq h1, nth_eq h2] at this); simp [this], r, rfl⟩
  · go_enter Try.func10, Try.ntmps10
    go_wp2
    go_ret
    exact ⟨by have : xs ≠ ys := fun h => hn (by rw [← hx.out, ← hy.out, h]); simp [this], 0, rfl⟩
theorem same9_refl (p : Option Addr) (xs : List Int) (n c : Nat) (q : Option Addr) (d : Nat) (w : World) (hx : Hid (xs.length = n)) (hl : n ≤ 1000000) (hX : Reads w p xs) (hY : Reads w q xs) :
    Calls Try.prog 10 #[.slice p n c, .slice q n d] w fun e w' => e = .returned (.bool true) ∧ Below w.heap.size w w' :=
  (same9_any p xs n c q xs n d w hx hx hl hX hY).mono fun e w' ⟨h, r, hr⟩ => ⟨by rw [h]; simp, by rw [hr]; exact below_drewN (Below.refl _ _) r⟩
end Go.Proofs.Ytahmhdjoaoldcaa
