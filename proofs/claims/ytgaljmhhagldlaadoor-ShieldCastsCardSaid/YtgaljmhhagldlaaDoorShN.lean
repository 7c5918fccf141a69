/-
  Package shield: the number of mothers.
-/
import Derived.Test.YtgaljmhhagldlaaDoorShM
namespace Go.Proofs.YtgaljmhhagldlaaDoor
open Go Go.RowKit
set_option linter.unusedVariables false

theorem join_low (x y : Int) (hx : 0 ≤ x) (hx1 : x < 2 ^ 40) (hy : Fig y) : bits .or .i64 (x * 16) y = x * 16 + y := by
  have := bits_join .i64 62 (by decide) wraps_i64_62 4 (x * 16) y (by omega) (by omega) (by omega) hy.1 (by have := hy.2; omega) (by have := hy.2; omega)
  exact this
/-- The number of mothers. -/
def numL (m : List Int) : Int := ((nth m 0 * 16 + nth m 1) * 16 + nth m 2) * 16 + nth m 3
def numTo (m : List Int) : Nat → Int
  | 0 => 0
  | k + 1 => numTo m k * 16 + nth m k
theorem numTo_bd {m : List Int} (hm : ∀ k, k < 4 → Fig (nth m k)) {k : Nat} (hk : k ≤ 4) : 0 ≤ numTo m k ∧ numTo m k < 65536 ∧ (k ≤ 3 → numTo m k < 4096) := by
  have f0 := hm 0 (by omega); have f1 := hm 1 (by omega); have f2 := hm 2 (by omega); have f3 := hm 3 (by omega)
  obtain ⟨a0, b0⟩ := f0
  obtain ⟨a1, b1⟩ := f1
  obtain ⟨a2, b2⟩ := f2
  obtain ⟨a3, b3⟩ := f3
  have e : k = 0 ∨ k = 1 ∨ k = 2 ∨ k = 3 ∨ k = 4 := by omega
  rcases e with rfl | rfl | rfl | rfl | rfl <;> simp only [numTo] <;> omega
theorem numL_nibs {n : Int} (h0 : 0 ≤ n) (h1 : n ≤ 65535) : numL (nibs n) = n := by
  show ((n / 4096 % 16 * 16 + n / 256 % 16) * 16 + n / 16 % 16) * 16 + n % 16 = n
  omega

set_option maxRecDepth 100000 in
set_option maxHeartbeats 2000000 in
theorem number_good (m0 m1 m2 m3 : Int) (hm : Hid (∀ k, k < 4 → Fig (nth [m0, m1, m2, m3] k))) (w : World) :
    Calls Tryd.prog 33 #[.agg (arr [m0, m1, m2, m3])] w fun e w' => e = .returned (.tuple #[.int .i64 (numL [m0, m1, m2, m3]), .int .i64 0]) ∧ Below w.heap.size w w' := by
  have H := Lib.hid (chkF_moth (m := [m0, m1, m2, m3]) rfl hm.out)
  have hB0 : Below w.heap.size w (w.alloc (.cells (arr [m0, m1, m2, m3]) 46)) := (Below.refl _ _).alloc (Nat.le_refl _) _
  have HM := Lib.hid (Blk.new w 46 (arr [m0, m1, m2, m3]))
  have i0 : ∀ w, (Instr.index 46 (.agg (arr [m0, m1, m2, m3])) (.int .i64 0)).run Tryd.prog w = .ok (.int .i64 m0) w := fun _ => by kernel_rfl
  have i1 : ∀ w, (Instr.index 46 (.agg (arr [m0, m1, m2, m3])) (.int .i64 1)).run Tryd.prog w = .ok (.int .i64 m1) w := fun _ => by kernel_rfl
  have i2 : ∀ w, (Instr.index 46 (.agg (arr [m0, m1, m2, m3])) (.int .i64 2)).run Tryd.prog w = .ok (.int .i64 m2) w := fun _ => by kernel_rfl
  have i3 : ∀ w, (Instr.index 46 (.agg (arr [m0, m1, m2, m3])) (.int .i64 3)).run Tryd.prog w = .ok (.int .i64 m3) w := fun _ => by kernel_rfl
  obtain ⟨f0, g0⟩ : 0 ≤ m0 ∧ m0 ≤ 15 := hm.out 0 (by omega)
  obtain ⟨f1, g1⟩ : 0 ≤ m1 ∧ m1 ≤ 15 := hm.out 1 (by omega)
  obtain ⟨f2, g2⟩ : 0 ≤ m2 ∧ m2 ≤ 15 := hm.out 2 (by omega)
  obtain ⟨f3, g3⟩ : 0 ≤ m3 ∧ m3 ≤ 15 := hm.out 3 (by omega)
  go_enter Tryd.func33, Tryd.ntmps33
  go_wp2_with fail
  refine (checkF_n (some ⟨w.heap.size, 0, none⟩) [m0, m1, m2, m3] 4 4 _ (Lib.hid rfl) (by omega) HM.out.reads).mono ?_
  rintro e w1 ⟨rfl, hb1⟩
  rw [H.out]
  have hM1 := Lib.hid (HM.out.below hb1 (by simp))
  have hb2 : Below w.heap.size w w1 := hB0.trans (hb1.mono (by simp))
  clear hb1 hB0
  go_wp2_with (refine wpList_load_row rfl 46 (.tmp 1) rfl w.heap.size rfl 46 (arr [m0, m1, m2, m3]) (0, 0) _ hM1.out Tryd.underlying46 rfl info_moth ?_)
  go_loop [5, 14] (fun s i => ∃ k : Nat, k ≤ 4 ∧ i = .int .i64 k ∧ s = .int .i64 (numTo [m0, m1, m2, m3] k)) (fun _ i => 4 - (intOf i).toNat)
  case atStart => exact ⟨0, by omega, rfl, rfl⟩
  case round =>
    obtain ⟨k, hk, rfl, rfl⟩ := hrel
    have hcs : k = 0 ∨ k = 1 ∨ k = 2 ∨ k = 3 ∨ k = 4 := by omega
    obtain ⟨b0, b1, b2⟩ := numTo_bd hm.out hk
    rcases hcs with rfl | rfl | rfl | rfl | rfl
    · go_wp2
      go_round
      case rel => exact ⟨1, by omega, by go_num, by rw [join_low _ _ b0 (by omega) ⟨f0, g0⟩]; rfl⟩
      case measure => simp [intOf]
    · go_wp2
      go_round
      case rel => exact ⟨2, by omega, by go_num, by rw [join_low _ _ b0 (by omega) ⟨f1, g1⟩]; rfl⟩
      case measure => simp [intOf]
    · go_wp2
      go_round
      case rel => exact ⟨3, by omega, by go_num, by rw [join_low _ _ b0 (by omega) ⟨f2, g2⟩]; rfl⟩
      case measure => simp [intOf]
    · go_wp2
      go_round
      case rel => exact ⟨4, by omega, by go_num, by rw [join_low _ _ b0 (by omega) ⟨f3, g3⟩]; rfl⟩
      case measure => simp [intOf]
    · go_wp2
      go_ret2
      exact ⟨by simp [numTo, numL, nth], hb2⟩
end Go.Proofs.YtgaljmhhagldlaaDoor
