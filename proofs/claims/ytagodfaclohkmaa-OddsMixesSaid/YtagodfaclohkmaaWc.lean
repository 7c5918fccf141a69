/-
  What Mix of the reference returns where lists have other lengths; and the arithmetic of its sums.
-/
import Derived.Test.YtagodfaclohkmaaWb
namespace Go.Proofs.Ytagodfaclohkmaa
open Go.RowKit

set_option maxRecDepth 100000 in
set_option maxHeartbeats 4000000 in
theorem refMix_e4 (p : Option Addr) (cs : List Int) (c : Nat) (q : Option Addr) (ls : List (List Int)) (cl : Nat) (w : World) (hl : cs.length ≤ 1000000) (hll : ls.length ≤ 1000000) (hx : Hid (∀ k, k < ls.length → (nthL ls k).length ≤ 1000000)) (hR : Reads w p cs) (hL : ReadsL w q ls) (h0 : chk1 cs = 0) (h1 : ls.length = cs.length) (h2 : chkL ls = 0) (h3 : lenBad ls = true) :
    Calls Try.prog 52 #[.slice p cs.length c, .slice q ls.length cl] w fun e w' => e = .returned (.tuple #[.slice none 0 0, .int .i64 (chkM cs ls)]) ∧ Below w.heap.size w w' := by
  rw [chkM_4 h0 h1 h2 h3]
  have Hz := Lib.hid (fun k (hk : k < ls.length) => chkL_each h2 hk)
  obtain ⟨j0, hj0, hj1⟩ := lenBad_ex h3
  have Hex : Hid (∃ k, k < ls.length ∧ (nthL ls k).length ≠ (nthL ls 0).length) := ⟨j0, hj0, hj1⟩
  have hpos : 1 ≤ ls.length := by omega
  have hk := refCheck_any p cs c w (by omega) hR
  rw [h0] at hk
  have hb' : ((ls.length : Int) != (cs.length : Int)) = false := by simp [h1]
  clear h0 h1 h2 h3 hj0 hj1
  go_enter Try.func52, Try.ntmps52
  go_wp2_with fail
  go_call hk as e w1 ⟨rfl, hB1⟩
  go_wp2
  go_loopw [7] (fun i wr => ∃ k : Nat, k ≤ ls.length ∧ i = .int .i64 k ∧ Below w.heap.size w wr) (fun i _ => ls.length - (intOf i).toNat)
  case atStart => exact ⟨0, Nat.zero_le _, rfl, hB1⟩
  case round =>
    obtain ⟨k, hk', rfl, hb⟩ := hrel
    by_cases hlt : k < ls.length
    · obtain ⟨q1, o1, rfl, r1, c1, hc1, hr1⟩ := hL.below hb (Nat.le_refl _) k hlt
      have hki : (k : Int) < (ls.length : Int) := by omega
      have hxk := Hx_le hx hlt
      have hck := refCheck_any r1 (nthL ls k) c1 wr (by omega) hr1
      rw [Hz.out k hlt] at hck
      clear hxk
      go_wp2_with fail
      go_call hck as e w2 ⟨rfl, hb2⟩
      go_wp2
      go_roundw
      case rel => exact ⟨k + 1, by omega, by go_num, tr hb hb2⟩
      case measure => simp [intOf]; omega
    · have hkl : k = ls.length := by omega
      rw [hkl]
      clear hkl hlt hk'
      obtain ⟨wq, hwq⟩ : ∃ W : World, W = wr := ⟨_, rfl⟩
      subst hwq
      go_wp2
      go_loopw [9] (fun i wr => ∃ k : Nat, 1 ≤ k ∧ k ≤ ls.length ∧ i = .int .i64 k ∧ Hid (∀ j, j < k → (nthL ls j).length = (nthL ls 0).length) ∧ Below wq.heap.size wq wr) (fun i _ => ls.length - (intOf i).toNat)
      case atStart => exact ⟨1, Nat.le_refl _, hpos, rfl, (fun j hj => by rw [show j = 0 by omega] : ∀ j, j < 1 → (nthL ls j).length = (nthL ls 0).length), Below.refl _ _⟩
      case round =>
        obtain ⟨k, hk1, hk2, rfl, Hz2, hb2⟩ := hrel
        by_cases hlt : k < ls.length
        · obtain ⟨q1, o1, rfl, r1, c1, hc1, _⟩ := (hL.below hb (Nat.le_refl _)).below hb2 (Nat.le_refl _) k hlt
          obtain ⟨q2, o2, hqq, r2, c2, hc2, _⟩ := (hL.below hb (Nat.le_refl _)).below hb2 (Nat.le_refl _) 0 (by omega)
          cases hqq
          rw [Nat.add_zero] at hc2
          have hki : (k : Int) < (ls.length : Int) := by omega
          have hk0 : (0 : Int) < (ls.length : Int) := by omega
          by_cases heq : (nthL ls k).length = (nthL ls 0).length
          · have Hn : Hid (∀ j, j < k + 1 → (nthL ls j).length = (nthL ls 0).length) := fun j hj => by
              by_cases e : j = k
              · subst e; exact heq
              · exact Hz2.out j (by omega)
            have hne : (((nthL ls k).length : Int) != ((nthL ls 0).length : Int)) = false := by simp [heq]
            clear heq
            go_wp2
            go_quiet (fail)
            go_wp2
            go_roundw
            case rel => exact ⟨k + 1, by omega, by omega, by go_num, Hn, below_drewN hb2 _⟩
            case measure => simp [intOf]; omega
          · have hne : (((nthL ls k).length : Int) != ((nthL ls 0).length : Int)) = true := by simp; omega
            clear heq
            go_wp2
            go_quiet (fail)
            go_wp2
            go_ret2
            exact ⟨rfl, tr hb (below_drewN hb2 _)⟩
        · exfalso
          obtain ⟨j, hj, hj2⟩ := Hex.out
          exact hj2 (Hz2.out j (by omega))

/-! ### Sums -/
theorem lcmI_eq' {a b : Int} (ha : 1 ≤ a) (hb : 1 ≤ b) : a / (Int.gcd a b : Int) * b = lcmI a b := by
  have h := lcmI_eq hb ha
  rw [Int.gcd_comm] at h
  rw [Int.mul_comm, h]
  unfold lcmI
  rw [Int.lcm_comm]
theorem lcmTo_mono {cs : List Int} {ls : List (List Int)} {k n : Nat} (hk : k ≤ n) (h : ∀ j, j < n → 1 ≤ lsum (low (nthL ls j))) : lcmTo cs ls k ≤ lcmTo cs ls n := by
  obtain ⟨a1, a2, a3⟩ := lcmTo_facts (cs := cs) (ls := ls) (k := k) fun j hj _ => h j (by omega)
  obtain ⟨b1, b2, b3⟩ := lcmTo_facts (cs := cs) (ls := ls) (k := n) fun j hj _ => h j hj
  exact Int.le_of_dvd (by omega) (a3 _ fun j hj hp => b2 j (by omega) hp)
theorem lcmTo_dvd {cs : List Int} {ls : List (List Int)} {n j : Nat} (hj : j < n) (hp : 0 < nth cs j) (h : ∀ j, j < n → 1 ≤ lsum (low (nthL ls j))) : lsum (low (nthL ls j)) ∣ lcmTo cs ls n :=
  (lcmTo_facts (cs := cs) (ls := ls) (k := n) fun j hj _ => h j hj).2.1 j hj hp
end Go.Proofs.Ytagodfaclohkmaa
