/-
  HexagramChances: alike, of a weight that has the chance of a number of all.
-/
import Derived.Test.YtdfdgeaohneeaaaGreatDoorHxF
namespace Go.Proofs.YtdfdgeaohneeaaaGreatDoor
open Go Go.RowKit
set_option linter.unusedVariables false

theorem psum_up {L : List Int} (h : ∀ k, 0 ≤ nth L k ∧ nth L k ≤ 995686217814016) (d k : Nat) (hk : k + d ≤ L.length) : psum L k ≤ psum L (k + d) := by
  induction d with
  | zero => exact Int.le_refl _
  | succ d ih =>
    rw [← Nat.add_assoc, psum_succ (by omega)]
    have := (h (k + d)).1
    have := ih (by omega)
    omega
theorem psum_bds {L : List Int} (h : ∀ k, 0 ≤ nth L k ∧ nth L k ≤ 995686217814016) {k : Nat} (hk : k ≤ L.length) : 0 ≤ psum L k ∧ psum L k ≤ lsum L := by
  have a := psum_up h k 0 (by omega)
  have b := psum_up h (L.length - k) k (by omega)
  rw [psum_zero, Nat.zero_add] at a
  rw [show k + (L.length - k) = L.length by omega, psum_all] at b
  exact ⟨a, b⟩

set_option maxRecDepth 100000 in
set_option maxHeartbeats 2000000 in
theorem alike_ok (p : Option Addr) (L : List Int) (m c : Nat) (w : World) (x nn all q s : Int) (hn : Hid (L.length = m)) (hm : m ≤ 64) (hR : Reads w p L) (hb : Hid (∀ k, 0 ≤ nth L k ∧ nth L k ≤ 995686217814016)) (hs : Hid (lsum L = s)) (h1 : 1 ≤ s) (h2 : s ≤ 995686217814016) (hq : Hid (all = s * q)) (q0 : 0 ≤ q) (q1 : q ≤ 995686217814016) (hx : Hid (nn = x * q)) (n0 : 0 ≤ nn) (n1 : nn ≤ 4100000000000000000) :
    Calls Tryz.prog 27 #[.int .i64 x, .int .i64 nn, .slice p m c, .int .i64 all] w fun e w' => e = .returned (.bool true) ∧ w = w' := by
  have em : all.tmod s = 0 := by rw [hq.out]; exact Int.mul_tmod_right s q
  have ed : IntKind.i64.wrap (all.tdiv s) = q := by rw [hq.out, Int.mul_tdiv_cancel_left _ (by omega)]; exact IntWalk.i64_in _ (by omega)
  have ex : IntKind.i64.wrap (x * q) = nn := by rw [← hx.out]; exact IntWalk.i64_in _ (by omega)
  go_enter Tryz.func27, Tryz.ntmps27
  go_wp2
  go_loop [9, 10] (fun g i => ∃ k : Nat, k ≤ m ∧ i = .int .i64 k ∧ g = .int .i64 (psum L k)) (fun _ i => m - (intOf i).toNat)
  case atStart => exact ⟨0, Nat.zero_le _, rfl, by rw [psum_zero]⟩
  case round =>
    obtain ⟨k, hk, rfl, rfl⟩ := hrel
    obtain ⟨b0, b1⟩ := psum_bds hb.out (show k ≤ L.length by have := hn.out; omega)
    rw [hs.out] at b1
    by_cases hlt : k < m
    · obtain ⟨q', o, rfl, hcell⟩ := hR k (by have := hn.out; omega)
      obtain ⟨c0, c1⟩ := hb.out k
      have HP := Lib.hid (psum_succ (xs := L) (k := k) (by have := hn.out; omega))
      obtain ⟨d0, d1⟩ := psum_bds hb.out (show k + 1 ≤ L.length by have := hn.out; omega)
      rw [HP.out, hs.out] at d1
      rw [HP.out] at d0
      go_wp2
      go_round
      case rel => exact ⟨k + 1, by omega, by go_num, by rw [HP.out]⟩
      case measure => simp [intOf]; omega
    · obtain rfl : k = m := by omega
      have HS := Lib.hid (show psum L k = s by rw [← hs.out, ← psum_all, hn.out])
      rw [HS.out]
      have sp : (s > 0) := by omega
      go_wp2
      go_ret
      exact ⟨rfl, rfl⟩
end Go.Proofs.YtdfdgeaohneeaaaGreatDoor
