/-
  What the numbers of two words of package odds do: products, sums, comparison. Conditions: numbers from 0 to 10^16.
-/
import Derived.Test.YtnpnnfbmnlgioaaH
import Derived.Test.YtnpnnfbmnlgioaaCa
import Derived.Test.YtnpnnfbmnlgioaaShelf
import Derived.Deep.RegionHeld3
import Derived.Deep.RegionWith
namespace Go.Proofs.Ytnpnnfbmnlgioaa
open Go.RowKit

/-- The two words of a number, the higher one first. -/
def hi64 (n : Int) : Int := n / 18446744073709551616
def lo64 (n : Int) : Int := n % 18446744073709551616

set_option maxHeartbeats 1000000 in
theorem wideProduct_any (a b : Int) (w : World) (ha : 0 ≤ a) (hb : 0 ≤ b) (ha2 : a ≤ 10000000000000000) (hb2 : b ≤ 10000000000000000) :
    Calls Try.prog 23 #[.int .i64 a, .int .i64 b] w fun e w' => e = .returned (.agg #[.int .u64 (hi64 (a * b)), .int .u64 (lo64 (a * b))]) ∧ Below w.heap.size w w' := by
  obtain ⟨x, rfl⟩ := Int.eq_ofNat_of_zero_le ha
  obtain ⟨y, rfl⟩ := Int.eq_ofNat_of_zero_le hb
  have hH : hi64 ((x : Int) * (y : Int)) = ((x * y / 18446744073709551616 : Nat) : Int) := by unfold hi64; rw [Int.natCast_ediv, Int.natCast_mul]; rfl
  have hL : lo64 ((x : Int) * (y : Int)) = ((x * y % 18446744073709551616 : Nat) : Int) := by unfold lo64; rw [Int.natCast_emod, Int.natCast_mul]; rfl
  have hM := fun W => Try.bits_Mul64 x y (by omega) (by omega) W
  rw [← hH, ← hL] at hM
  clear hH hL
  have HM := Lib.hid hM
  clear hM
  generalize hi64 ((x : Int) * (y : Int)) = H at *
  generalize lo64 ((x : Int) * (y : Int)) = L at *
  go_enter Try.func23, Try.ntmps23
  go_wp2_with fail
  refine (HM.out _).mono ?_
  rintro e w' ⟨rfl, rfl⟩
  go_wp2
  exact bodyPost_ret (v := .agg #[.int .u64 H, .int .u64 L]) (by simp [results, Try.results23, go_sem]) rfl ⟨rfl, below1 _ _⟩

/-- -1, 0 or 1. -/
def cmpI (a b : Int) : Int := if a < b then -1 else if b < a then 1 else 0

set_option maxHeartbeats 400000 in
theorem isNaN_any (a : Int) (w : World) : Calls Try.prog 70 #[.int .u64 a] w fun e w' => e = .returned (.bool false) ∧ w = w' := by
  go_enter Try.func70, Try.ntmps70
  go_wp2
  go_ret
  exact ⟨rfl, rfl⟩

set_option maxHeartbeats 400000 in
theorem compareU_any (a b : Int) (w : World) : Calls Try.prog 55 #[.int .u64 a, .int .u64 b] w fun e w' => e = .returned (.int .i64 (cmpI a b)) ∧ w = w' := by
  by_cases h1 : a < b
  · have Hc : Hid (cmpI a b = -1) := by show _ = _; simp [cmpI, h1]
    rw [Hc.out]
    go_enter Try.func55, Try.ntmps55
    go_wp2_with (go_at_call 70; refine (isNaN_any _ _).mono ?_; rintro e w' ⟨rfl, rfl⟩)
    go_ret
    exact ⟨rfl, rfl⟩
  · by_cases h2 : b < a
    · have Hc : Hid (cmpI a b = 1) := by show _ = _; simp [cmpI, h1, h2]
      rw [Hc.out]
      go_enter Try.func55, Try.ntmps55
      go_wp2_with (go_at_call 70; refine (isNaN_any _ _).mono ?_; rintro e w' ⟨rfl, rfl⟩)
      go_ret
      exact ⟨rfl, rfl⟩
    · have Hc : Hid (cmpI a b = 0) := by show _ = _; simp [cmpI, h1, h2]
      rw [Hc.out]
      go_enter Try.func55, Try.ntmps55
      go_wp2_with (go_at_call 70; refine (isNaN_any _ _).mono ?_; rintro e w' ⟨rfl, rfl⟩)
      go_ret
      exact ⟨rfl, rfl⟩

theorem compareU_s (a b : Int) (w : World) : Calls Try.prog 55 #[.int .u64 a, .int .u64 b] w fun e w' => e = .returned (.int .i64 (cmpI a b)) ∧ w' = w :=
  (compareU_any a b w).mono fun _ _ ⟨h, k⟩ => ⟨h, k.symm⟩

/-- The first that is not 0. -/
def orI (a b : Int) : Int := if a = 0 then b else a

set_option maxHeartbeats 400000 in
theorem or_any (a b : Int) (q : Nat) (w : World) (h0 : w.cell? ⟨q, 0, none⟩ = some (.int .i64 a)) (h1 : w.cell? ⟨q, 1, none⟩ = some (.int .i64 b)) :
    Calls Try.prog 54 #[.slice (some ⟨q, 0, none⟩) 2 2] w fun e w' => e = .returned (.int .i64 (orI a b)) ∧ w = w' := by
  by_cases ha : a = 0
  · have Hc : Hid (orI a b = b) := by show _ = _; simp [orI, ha]
    subst ha
    rw [Hc.out]
    by_cases hb : b = 0
    · subst hb
      go_enter Try.func54, Try.ntmps54
      go_wp2
      refine wp_loop_rounds 3 ?_
      repeat any_goals (rw [rounds_succ]; go_wp2)
      all_goals go_ret
      all_goals exact ⟨rfl, rfl⟩
    · have hb1 : (b == 0) = false := by simpa using hb
      have hb2 : (b != 0) = true := by simpa using hb
      go_enter Try.func54, Try.ntmps54
      go_wp2
      refine wp_loop_rounds 3 ?_
      repeat any_goals (rw [rounds_succ]; go_wp2)
      all_goals go_ret
      all_goals exact ⟨rfl, rfl⟩
  · have Hc : Hid (orI a b = a) := by show _ = _; simp [orI, ha]
    rw [Hc.out]
    have hb1 : (a == 0) = false := by simpa using ha
    have hb2 : (a != 0) = true := by simpa using ha
    go_enter Try.func54, Try.ntmps54
    go_wp2
    refine wp_loop_rounds 3 ?_
    repeat any_goals (rw [rounds_succ]; go_wp2)
    all_goals go_ret
    all_goals exact ⟨rfl, rfl⟩

set_option maxRecDepth 100000 in
set_option maxHeartbeats 4000000 in
theorem wideCompare_any (a0 a1 b0 b1 : Int) (w : World) :
    Calls Try.prog 24 #[.agg #[.int .u64 a0, .int .u64 a1], .agg #[.int .u64 b0, .int .u64 b1]] w fun e w' => e = .returned (.int .i64 (orI (cmpI a0 b0) (cmpI a1 b1))) ∧ Below w.heap.size w w' := by
  have k00 : ((w.alloc (.cells #[.int .u64 a0, .int .u64 a1] 53)).alloc (.cells #[.int .u64 b0, .int .u64 b1] 53)).cell? ⟨w.heap.size, 0, none⟩ = some (.int .u64 a0) := by go_simp
  have k01 : ((w.alloc (.cells #[.int .u64 a0, .int .u64 a1] 53)).alloc (.cells #[.int .u64 b0, .int .u64 b1] 53)).cell? ⟨w.heap.size, 1, none⟩ = some (.int .u64 a1) := by go_simp
  have k10 : ((w.alloc (.cells #[.int .u64 a0, .int .u64 a1] 53)).alloc (.cells #[.int .u64 b0, .int .u64 b1] 53)).cell? ⟨w.heap.size + 1, 0, none⟩ = some (.int .u64 b0) := by go_simp
  have k11 : ((w.alloc (.cells #[.int .u64 a0, .int .u64 a1] 53)).alloc (.cells #[.int .u64 b0, .int .u64 b1] 53)).cell? ⟨w.heap.size + 1, 1, none⟩ = some (.int .u64 b1) := by go_simp
  have hB := (below1 w (.cells #[.int .u64 a0, .int .u64 a1] 53)).alloc (by simp) (.cells #[.int .u64 b0, .int .u64 b1] 53)
  go_enter Try.func24, Try.ntmps24
  go_wp2
  generalize ((w.alloc (.cells #[.int .u64 a0, .int .u64 a1] 53)).alloc (.cells #[.int .u64 b0, .int .u64 b1] 53)) = W at *
  refine wp_region_still_tail 10 (by kernel_rfl) (by kernel_rfl) ?_
  simp only [List.take_succ_cons, List.take_zero, List.drop_succ_cons, List.drop_zero]
  repeat (first | still_step | still_call (compareU_s _ _ _))
  try refine wpStill_nil ?_
  go_wp2_with fail
  go_call (or_any (cmpI a0 b0) (cmpI a1 b1) W.heap.size _ (by go_simp) (by go_simp)) as e w' ⟨rfl, rfl⟩
  go_wp2
  go_ret
  exact ⟨rfl, (hB.alloc hB.size _).drew⟩

/-- The two words that Add64 returns. -/
def addLo (x y c : Int) : Int := (x + y + c) % 18446744073709551616
def addHi (x y c : Int) : Int := (x + y + c) / 18446744073709551616
theorem add64_run (x y c : Int) (hx : 0 ≤ x) (hy : 0 ≤ y) (hc0 : 0 ≤ c) (hc : c ≤ 1) (w : World) :
    (callFunc 56 #[.int .u64 x, .int .u64 y, .int .u64 c]).run Try.prog w = .ok (.value (.tuple #[.int .u64 (addLo x y c), .int .u64 (addHi x y c)])) w := by
  rw [run_callFunc_extern Try.func56 (by kernel_rfl) (by kernel_rfl) (by kernel_rfl) (e := add64Entry) (by kernel_rfl), run_add64 x y c hx hy hc0 hc]
  rfl
theorem plus_words (A B : Int) (hA : 0 ≤ A) (hB : 0 ≤ B) (hA2 : A ≤ 1000000000000000000000000000000000) (hB2 : B ≤ 1000000000000000000000000000000000) :
    addLo (lo64 A) (lo64 B) 0 = lo64 (A + B) ∧ 0 ≤ addHi (lo64 A) (lo64 B) 0 ∧ addHi (lo64 A) (lo64 B) 0 ≤ 1 ∧ addLo (hi64 A) (hi64 B) (addHi (lo64 A) (lo64 B) 0) = hi64 (A + B) := by
  unfold addLo addHi lo64 hi64
  omega
theorem words_nonneg (A : Int) (hA : 0 ≤ A) : 0 ≤ hi64 A ∧ 0 ≤ lo64 A := by unfold lo64 hi64; omega

set_option maxRecDepth 100000 in
set_option maxHeartbeats 2000000 in
theorem widePlus_any (A B : Int) (w : World) (hA : 0 ≤ A) (hB : 0 ≤ B) (hA2 : A ≤ 1000000000000000000000000000000000) (hB2 : B ≤ 1000000000000000000000000000000000) :
    Calls Try.prog 28 #[.agg #[.int .u64 (hi64 A), .int .u64 (lo64 A)], .agg #[.int .u64 (hi64 B), .int .u64 (lo64 B)]] w fun e w' => e = .returned (.agg #[.int .u64 (hi64 (A + B)), .int .u64 (lo64 (A + B))]) ∧ Below w.heap.size w w' := by
  obtain ⟨p1, p2, p3, p4⟩ := plus_words A B hA hB hA2 hB2
  obtain ⟨a0, a1⟩ := words_nonneg A hA
  obtain ⟨b0, b1⟩ := words_nonneg B hB
  have r1 := fun W => add64_run (lo64 A) (lo64 B) 0 a1 b1 (by omega) (by omega) W
  have r2 := fun W => add64_run (hi64 A) (hi64 B) (addHi (lo64 A) (lo64 B) 0) a0 b0 p2 p3 W
  rw [p1] at r1
  rw [p4] at r2
  generalize addHi (lo64 A) (lo64 B) 0 = C at *
  clear p1 p2 p3 p4 hA2 hB2
  go_enter Try.func28, Try.ntmps28
  go_wp2
  exact bodyPost_ret (v := .agg #[.int .u64 (hi64 (A + B)), .int .u64 (lo64 (A + B))]) (by simp [results, Try.results28, go_sem]) rfl ⟨rfl, ((below1 _ _).alloc (by simp) _).alloc (by simp; omega) _⟩

set_option maxHeartbeats 2000000 in
theorem div64_small (lo y : Int) (w : World) (h1 : 0 ≤ lo) (h2 : 1 ≤ y) (hlo : Hid (lo ≤ 18446744073709551615)) :
    Calls Try.prog 58 #[.int .u64 0, .int .u64 lo, .int .u64 y] w fun e w' => e = .returned (.tuple #[.int .u64 (lo / y), .int .u64 (lo % y)]) ∧ Below w.heap.size w w' := by
  have hb : (y == 0) = false := by simp; omega
  have hb' : decide (y ≤ 0) = false := by simp; omega
  have E : Hid (IntKind.u64.wrap (lo.tdiv y) = lo / y) := by
    show _ = _
    rw [Int.tdiv_eq_ediv_of_nonneg h1]
    have h3 : 0 ≤ lo / y := Int.ediv_nonneg h1 (by omega)
    have h4 : lo / y ≤ lo := Int.ediv_le_self _ h1
    exact IntWalk.u64_in _ ⟨h3, Int.le_trans h4 hlo.out⟩
  go_enter Try.func58, Try.ntmps58
  go_wp2
  have e1 := E.out
  go_quiet (fail)
  clear e1
  go_wp2
  go_ret2
  exact ⟨rfl, below_drewN (Below.refl _ _) _⟩
end Go.Proofs.Ytnpnnfbmnlgioaa
