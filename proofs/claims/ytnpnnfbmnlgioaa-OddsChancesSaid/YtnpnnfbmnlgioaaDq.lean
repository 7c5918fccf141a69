/-
  math/bits.Div64 and Rem64 whatever the high word, and odds' wide numbers modulo n and divided by n. Asked: Len64's contract (the shelf's).
-/
import Derived.Test.YtnpnnfbmnlgioaaDz
import Derived.BigQuiet
namespace Go.Proofs.Ytnpnnfbmnlgioaa
open Go Go.RowKit Dv
set_option linter.unusedVariables false

/-- Len64's contract, as the shelf has it. -/
def LenOk : Prop := ∀ (y : Nat), y < 2 ^ 64 → ∀ w, Calls Try.prog 75 #[.int .u64 y] w fun e w' => e = .returned (.int .i64 (Lib.bitLen y)) ∧ w' = w

set_option maxHeartbeats 2000000 in
theorem div64_zero (lo y : Int) (w : World) (h1 : 0 ≤ lo) (h2 : 1 ≤ y) (hlo : Hid (lo ≤ 18446744073709551615)) :
    Calls Try.prog 58 #[.int .u64 0, .int .u64 lo, .int .u64 y] w fun e w' => e = .returned (.tuple #[.int .u64 (lo / y), .int .u64 (lo % y)]) ∧ Below w.heap.size w w' := by
  have hb : (y == 0) = false := by simp; omega
  have hb' : decide (y ≤ 0) = false := by simp; omega
  have E : Hid (IntKind.u64.wrap (lo.tdiv y) = lo / y) := by
    show _ = _
    exact wrap_quo h1 (by have := hlo.out; omega) (by omega)
  go_enter Try.func58, Try.ntmps58
  go_wp2
  have e1 := E.out
  go_quiet (fail)
  clear e1
  go_wp2
  go_ret2
  exact ⟨rfl, below_drewN (Below.refl _ _) _⟩
theorem div64_both (LN : LenOk) (h l y : Nat) (h1 : h < y) (l1 : l < 2 ^ 64) (y1 : y < 2 ^ 64) (w : World) :
    Calls Try.prog 58 #[.int .u64 h, .int .u64 l, .int .u64 y] w fun e w' => e = .returned (.tuple #[.int .u64 (((h * 2 ^ 64 + l) / y : Nat) : Int), .int .u64 (((h * 2 ^ 64 + l) % y : Nat) : Int)]) ∧ Below w.heap.size w w' := by
  rcases Nat.eq_zero_or_pos h with rfl | h0
  · rw [Nat.zero_mul, Nat.zero_add]
    exact div64_zero (l : Int) (y : Int) w (by omega) (by omega) (Lib.hid (by omega))
  · refine (div64_all h l y h0 h1 l1 y1 (LN y y1) w).mono ?_
    rintro e w' ⟨rfl, rfl⟩
    exact ⟨rfl, Below.refl _ _⟩
set_option maxHeartbeats 2000000 in
theorem rem64_both (LN : LenOk) (h l y : Nat) (y0 : 0 < y) (l1 : l < 2 ^ 64) (y1 : y < 2 ^ 64) (w : World) :
    Calls Try.prog 57 #[.int .u64 h, .int .u64 l, .int .u64 y] w fun e w' => e = .returned (.int .u64 (((h * 2 ^ 64 + l) % y : Nat) : Int)) ∧ Below w.heap.size w w' := by
  have D := div64_both LN (h % y) l y (Nat.mod_lt _ y0) l1 y1
  have em : (h % y * 2 ^ 64 + l) % y = (h * 2 ^ 64 + l) % y := by rw [Nat.add_mod, Nat.mod_mul_mod, ← Nat.add_mod]
  rw [em] at D
  have t1 : (h : Int).tmod (y : Int) = ((h % y : Nat) : Int) := by rw [Int.tmod_eq_emod_of_nonneg (by omega)]; simp
  obtain ⟨Yi, hYi⟩ : ∃ Yi : Int, (y : Int) = Yi := ⟨_, rfl⟩
  obtain ⟨Hi, hHi⟩ : ∃ Hi : Int, (h : Int) = Hi := ⟨_, rfl⟩
  obtain ⟨Li, hLi⟩ : ∃ Li : Int, (l : Int) = Li := ⟨_, rfl⟩
  obtain ⟨Ri, hRi⟩ : ∃ Ri : Int, (((h * 2 ^ 64 + l) % y : Nat) : Int) = Ri := ⟨_, rfl⟩
  obtain ⟨Mi, hMi⟩ : ∃ Mi : Int, ((h % y : Nat) : Int) = Mi := ⟨_, rfl⟩
  have z : ¬ Yi = 0 := by omega
  rw [hRi, hYi, hLi, hMi] at D
  rw [hHi, hYi, hMi] at t1
  have t2 : Hi % Yi = Mi := by rw [← hHi, ← hYi, ← hMi]; simp
  rw [hRi, hYi, hLi, hHi]
  clear hRi hYi hLi hMi hHi em y0 l1 y1
  go_enter Try.func57, Try.ntmps57
  go_wp2_with fail
  refine (D _).mono ?_
  rintro e w1 ⟨rfl, hb⟩
  go_wp2_with fail
  go_ret
  exact ⟨rfl, hb⟩
set_option maxHeartbeats 2000000 in
theorem wideModulo_both (LN : LenOk) (h l n : Nat) (n0 : 0 < n) (n1 : n ≤ 1000000000000000) (l1 : l < 2 ^ 64) (w : World) :
    Calls Try.prog 29 #[.agg #[.int .u64 h, .int .u64 l], .int .i64 n] w fun e w' => e = .returned (.int .i64 (((h * 2 ^ 64 + l) % n : Nat) : Int)) ∧ Below w.heap.size w w' := by
  have R := rem64_both LN h l n n0 l1 (by omega)
  have m1 : (h * 2 ^ 64 + l) % n < n := Nat.mod_lt _ n0
  have k1 : IntKind.u64.wrap (n : Int) = n := wrapU_in (by omega) (by omega)
  have k2 : IntKind.i64.wrap (((h * 2 ^ 64 + l) % n : Nat) : Int) = (((h * 2 ^ 64 + l) % n : Nat) : Int) := by
    generalize (h * 2 ^ 64 + l) % n = m at m1 ⊢
    simp [IntKind.wrap, IntKind.bits, IntKind.signed]
    omega
  obtain ⟨ni, hni⟩ : ∃ ni : Int, (n : Int) = ni := ⟨_, rfl⟩
  obtain ⟨hi, hhi⟩ : ∃ hi : Int, (h : Int) = hi := ⟨_, rfl⟩
  obtain ⟨li, hli⟩ : ∃ li : Int, (l : Int) = li := ⟨_, rfl⟩
  obtain ⟨ri, hri⟩ : ∃ ri : Int, (((h * 2 ^ 64 + l) % n : Nat) : Int) = ri := ⟨_, rfl⟩
  rw [hni, hhi, hli, hri] at R
  rw [hni] at k1
  rw [hri] at k2
  rw [hni, hhi, hli, hri]
  clear hni hhi hli hri m1 n0 n1 l1
  go_enter Try.func29, Try.ntmps29
  go_wp2_with fail
  refine (R _).mono ?_
  rintro e w1 ⟨rfl, hb⟩
  go_wp2_with fail
  go_ret
  exact ⟨rfl, ((Below.refl _ _).alloc (Nat.le_refl _) _).trans (hb.mono (by simp))⟩
set_option maxHeartbeats 2000000 in
theorem wideDivided_both (LN : LenOk) (h l n : Nat) (n1 : n ≤ 1000000000000000) (l1 : l < 2 ^ 64) (hlt : h < n) (hq : (h * 2 ^ 64 + l) / n < 9223372036854775808) (w : World) :
    Calls Try.prog 30 #[.agg #[.int .u64 h, .int .u64 l], .int .i64 n] w fun e w' => e = .returned (.int .i64 (((h * 2 ^ 64 + l) / n : Nat) : Int)) ∧ Below w.heap.size w w' := by
  have R := div64_both LN h l n hlt l1 (by omega)
  have k1 : IntKind.u64.wrap (n : Int) = n := wrapU_in (by omega) (by omega)
  have k2 : IntKind.i64.wrap (((h * 2 ^ 64 + l) / n : Nat) : Int) = (((h * 2 ^ 64 + l) / n : Nat) : Int) := by
    generalize (h * 2 ^ 64 + l) / n = m at hq ⊢
    simp [IntKind.wrap, IntKind.bits, IntKind.signed]
    omega
  obtain ⟨ni, hni⟩ : ∃ ni : Int, (n : Int) = ni := ⟨_, rfl⟩
  obtain ⟨hi, hhi⟩ : ∃ hi : Int, (h : Int) = hi := ⟨_, rfl⟩
  obtain ⟨li, hli⟩ : ∃ li : Int, (l : Int) = li := ⟨_, rfl⟩
  obtain ⟨ri, hri⟩ : ∃ ri : Int, (((h * 2 ^ 64 + l) % n : Nat) : Int) = ri := ⟨_, rfl⟩
  obtain ⟨qi, hqi⟩ : ∃ qi : Int, (((h * 2 ^ 64 + l) / n : Nat) : Int) = qi := ⟨_, rfl⟩
  rw [hni, hhi, hli, hri, hqi] at R
  rw [hni] at k1
  rw [hqi] at k2
  rw [hni, hhi, hli, hqi]
  clear hni hhi hli hri hqi hq hlt n1 l1
  go_enter Try.func30, Try.ntmps30
  go_wp2_with fail
  refine (R _).mono ?_
  rintro e w1 ⟨rfl, hb⟩
  go_wp2_with fail
  go_ret
  exact ⟨rfl, ((Below.refl _ _).alloc (Nat.le_refl _) _).trans (hb.mono (by simp))⟩
end Go.Proofs.Ytnpnnfbmnlgioaa
