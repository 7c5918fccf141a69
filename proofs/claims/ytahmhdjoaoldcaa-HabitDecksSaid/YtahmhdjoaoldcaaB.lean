/-
  What the functions of package odds do that check lists: check, divisor, lowest. No condition but that lists read as ints.
-/
import Derived.Test.YtahmhdjoaoldcaaA
import Derived.Deep.QuietTactic
import Derived.BigQuiet
import Derived.RegionTactic
namespace Go.Proofs.Ytahmhdjoaoldcaa
open Go.RowKit

/-- outside, said of whatever world lies behind it. -/
theorem outside_c (lo hi : Int) (w : World) :
    Calls Try.prog 22 #[.int .i64 lo, .int .i64 hi] w fun e w' => ∃ a b, e = .returned (.func (.func 41) #[] #[.pointer (some a), .pointer (some b)]) ∧
      w'.cell? a = some (.int .i64 lo) ∧ w'.cell? b = some (.int .i64 hi) ∧ Below w.heap.size w w' :=
  (outside_any lo hi w).mono fun e w' ⟨he, hw⟩ => by
    subst hw
    exact ⟨_, _, he, by rw [World.cell?_alloc_past _ _ _ (by simp), World.cell?_alloc_at _ _ _ _ rfl]; rfl, by rw [World.cell?_alloc_at _ _ _ _ (by simp)]; rfl, ((Below.refl _ _).alloc (Nat.le_refl _) _).alloc (by simp) _⟩

set_option maxHeartbeats 1000000 in
theorem check_any (p : Option Addr) (ls : List (List Int)) (c : Nat) (w : World) (hl : ls.length ≤ 9223372036854775807) (hx : ∀ k, k < ls.length → (nthL ls k).length ≤ 9223372036854775807) (hR : ReadsL w p ls) :
    Calls Try.prog 81 #[.slice p ls.length c] w fun e w' => e = .returned (.int .i64 (chkL ls)) ∧ Below w.heap.size w w' := by
  go_enter Try.func81, Try.ntmps81
  go_wp2
  go_loopw [7] (fun i wr => ∃ k : Nat, k ≤ ls.length ∧ i = .int .i64 k ∧ (∀ i, i < k → chk1 (nthL ls i) = 0) ∧ Below w.heap.size w wr) (fun i _ => ls.length - (intOf i).toNat)
  case atStart => exact ⟨0, Nat.zero_le _, rfl, fun i hi => by omega, Below.refl _ _⟩
  case round =>
    obtain ⟨k, hk, rfl, hz, hb⟩ := hrel
    have Hz := Lib.hid hz
    clear hz
    by_cases hlt : k < ls.length
    · obtain ⟨q, o, rfl, r, cc, hcell, hr⟩ := hR.below hb (Nat.le_refl _) k hlt
      have hxk := hx k hlt
      by_cases h1 : 4096 < (nthL ls k).length
      · go_wp2
        go_ret
        exact ⟨ret_int (by rw [chkL_at hlt Hz.out] <;> simp [chk1, h1]), hb⟩
      · go_wp2_with fail
        go_call (outside_c 0 1000000000000000 _) as e w1 ⟨a1, b1, rfl, ha1, hb1, hB1⟩
        go_wp2_with fail
        go_call (containsFunc_outside 0 1000000000000000 a1 b1 w1 ha1 hb1 _ _ _ hxk (hr.below hB1 (Nat.le_refl _))) as e w1' ⟨rfl, rfl⟩
        cases ho : anyB (outB 0 1000000000000000) (nthL ls k)
        · have Ho := Lib.hid ho
          clear ho
          go_wp2_with fail
          go_call (outside_c 1 1000000000000000 _) as e w2 ⟨a2, b2, rfl, ha2, hb2, hB2⟩
          go_wp2_with fail
          go_call (total_any _ (nthL ls k) _ w2 (by omega) (small_of_anyB Ho.out) (hr.below (tr hB1 hB2) (Nat.le_refl _))) as e w3 ⟨rfl, hB3⟩
          go_wp2_with fail
          go_call (outside1_any (lsum (nthL ls k)) 1 1000000000000000 a2 b2 w3 ((hB3.cell (World.block_lt_of_cell? _ _ ha2)).trans ha2) ((hB3.cell (World.block_lt_of_cell? _ _ hb2)).trans hb2)) as e w3' ⟨rfl, rfl⟩
          cases hs : outB 1 1000000000000000 (lsum (nthL ls k))
          · have Hs := Lib.hid hs
            clear hs
            go_wp2
            go_roundw
            case rel => exact ⟨k + 1, by omega, by go_num, fun i hi => by
              by_cases e : i = k
              · subst e; simp [chk1, h1, Ho.out, Hs.out]
              · exact Hz.out i (by omega), hb.trans (((tr hB1 (tr hB2 hB3))).mono hb.size)⟩
            case measure => simp [intOf]; omega
          · have Hs := Lib.hid hs
            clear hs
            go_wp2
            go_ret
            exact ⟨ret_int (by rw [chkL_at hlt Hz.out] <;> simp [chk1, h1, Ho.out, Hs.out]), hb.trans (((tr hB1 (tr hB2 hB3))).mono hb.size)⟩
        · have Ho := Lib.hid ho
          clear ho
          go_wp2
          go_ret
          exact ⟨ret_int (by rw [chkL_at hlt Hz.out] <;> simp [chk1, h1, Ho.out]), hb.trans (hB1.mono hb.size)⟩
    · go_wp2
      go_ret
      exact ⟨ret_int (chkL_all fun i hi => Hz.out i (by omega)).symm, hb⟩

set_option maxHeartbeats 1000000 in
theorem divisor_any (p : Option Addr) (xs : List Int) (c : Nat) (w : World) (hl : xs.length ≤ 9223372036854775807) (h0 : ∀ k, k < xs.length → 0 ≤ nth xs k) (hR : Reads w p xs) :
    Calls Try.prog 70 #[.slice p xs.length c] w fun e w' => e = .returned (.int .i64 (gcdl xs)) ∧ Below w.heap.size w w' := by
  go_enter Try.func70, Try.ntmps70
  go_wp2
  go_loopw [3, 8] (fun g i wr => ∃ k : Nat, k ≤ xs.length ∧ i = .int .i64 k ∧ g = .int .i64 (gcdTo xs k) ∧ 0 ≤ gcdTo xs k ∧ Below w.heap.size w wr) (fun _ i _ => xs.length - (intOf i).toNat)
  case atStart => exact ⟨0, Nat.zero_le _, rfl, by rw [gcdTo_zero], by rw [gcdTo_zero]; omega, Below.refl _ _⟩
  case round =>
    obtain ⟨k, hk, rfl, rfl, hg, hb⟩ := hrel
    by_cases hlt : k < xs.length
    · obtain ⟨q, o, rfl, hcell⟩ := hR.below hb (Nat.le_refl _) k hlt
      have hnk := h0 k hlt
      have Hs := Lib.hid (gcdTo_succ hlt)
      go_wp2
      obtain ⟨wo, rfl⟩ : ∃ wo : World, wo = wr := ⟨_, rfl⟩
      go_loopw [3, 5] (fun g n wr => ∃ a b : Int, 0 ≤ a ∧ 0 ≤ b ∧ g = .int .i64 a ∧ n = .int .i64 b ∧ Hid ((Int.gcd a b : Int) = gcdTo xs (k + 1)) ∧ Below w.heap.size w wr) (fun _ n _ => (intOf n).toNat)
      case atStart => exact ⟨_, _, hg, hnk, rfl, rfl, Hs.out.symm, hb⟩
      case round =>
        obtain ⟨a, b, ha, hb0, rfl, rfl, Hg, hbr⟩ := hrel
        by_cases hz : b = 0
        · subst hz
          go_wp2
          go_roundw
          case rel => exact ⟨k + 1, by omega, by go_num, by rw [← Hg.out, gcd_zero a ha], by rw [← Hg.out, gcd_zero a ha]; exact ha, hbr⟩
          case measure => simp [intOf]; omega
        · have hbp : 1 ≤ b := by omega
          have hbn : (b == 0) = false := by simp; omega
          have hbm : (b != 0) = true := by simp; omega
          go_wp2
          go_quiet (fail)
          go_wp2
          go_roundw
          case rel => exact ⟨b, a % b, by omega, Int.emod_nonneg _ (by omega), rfl, rfl, by show _ = _; rw [gcd_step a b ha (by omega)]; exact Hg.out, below_drewN hbr _⟩
          case measure => simp [intOf]; have := Int.emod_lt_of_pos a (show 0 < b by omega); have := Int.emod_nonneg a (show b ≠ 0 by omega); omega
    · obtain rfl : k = xs.length := by omega
      go_wp2
      go_ret
      exact ⟨ret_int (gcdTo_all xs), hb⟩
end Go.Proofs.Ytahmhdjoaoldcaa
