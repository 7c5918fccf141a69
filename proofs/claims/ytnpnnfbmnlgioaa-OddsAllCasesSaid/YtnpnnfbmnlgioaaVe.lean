/-
  What Divisor of the reference returns.
-/
import Derived.Test.YtnpnnfbmnlgioaaVd
namespace Go.Proofs.Ytnpnnfbmnlgioaa
open Go.RowKit

set_option maxHeartbeats 1000000 in
theorem refDivisor_any (a b : Int) (w : World) (ha : 0 ≤ a) (hb : 0 ≤ b) (ha2 : a ≤ 9223372036854775807) (hb2 : b ≤ 9223372036854775807) :
    Calls Try.prog 31 #[.int .i64 a, .int .i64 b] w fun e w' => e = .returned (.int .i64 (Int.gcd a b)) ∧ Below w.heap.size w w' := by
  obtain ⟨D, hD⟩ : ∃ D : Int, (Int.gcd a b : Int) = D := ⟨_, rfl⟩
  rw [hD]
  have HD := Lib.hid hD
  clear hD
  go_enter Try.func31, Try.ntmps31
  go_wp2
  go_loopw [0, 1] (fun g n wr => ∃ a b : Int, 0 ≤ a ∧ 0 ≤ b ∧ a ≤ 9223372036854775807 ∧ b ≤ 9223372036854775807 ∧ g = .int .i64 a ∧ n = .int .i64 b ∧ Hid ((Int.gcd a b : Int) = D) ∧ Below w.heap.size w wr) (fun _ n _ => (intOf n).toNat)
  case atStart => exact ⟨a, b, ha, hb, ha2, hb2, rfl, rfl, HD, Below.refl _ _⟩
  case round =>
    obtain ⟨x, y, hx, hy, hx2, hy2, rfl, rfl, Hg, hbr⟩ := hrel
    by_cases hz : y = 0
    · subst hz
      have Hx : Hid (D = x) := by show _ = _; rw [← Hg.out, gcd_zero x hx]
      go_wp2
      go_returns
      exact ⟨by rw [Hx.out]; rfl, hbr⟩
    · have hbp : 1 ≤ y := by omega
      have hbn : (y == 0) = false := by simp; omega
      have hbm : (y != 0) = true := by simp; omega
      go_wp2
      go_quiet (fail)
      go_wp2
      go_roundw
      case rel =>
        have h1 := Int.emod_lt_of_pos x (show 0 < y by omega)
        exact ⟨y, x % y, by omega, Int.emod_nonneg _ (by omega), hy2, by omega, rfl, rfl, by show _ = _; rw [gcd_step x y hx (by omega)]; exact Hg.out, below_drewN hbr _⟩
      case measure => simp [intOf]; have := Int.emod_lt_of_pos x (show 0 < y by omega); have := Int.emod_nonneg x (show y ≠ 0 by omega); omega

end Go.Proofs.Ytnpnnfbmnlgioaa
