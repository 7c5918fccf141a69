/-
  What Mix of the reference returns where cases or lists are refused.
-/
import Derived.Test.YtagodfaclohkmaaWa
import Derived.Test.YtagodfaclohkmaaVi
namespace Go.Proofs.Ytagodfaclohkmaa
open Go.RowKit

theorem sMix_bad {cs : List Int} {ls : List (List Int)} {z : Int} (h : chkM cs ls = z) (hz : z ≠ 0) : sMix cs ls = ([], z) := by
  unfold sMix; rw [if_pos (by rw [h]; exact hz), h]
theorem chkM_1 {cs : List Int} {ls : List (List Int)} (h : chk1 cs ≠ 0) : chkM cs ls = chk1 cs := by unfold chkM; rw [if_pos h]
theorem chkM_2 {cs : List Int} {ls : List (List Int)} (h : chk1 cs = 0) (h1 : ls.length ≠ cs.length) : chkM cs ls = 2 := by unfold chkM; rw [if_neg (by simpa using h), if_pos h1]
theorem chkM_3 {cs : List Int} {ls : List (List Int)} (h : chk1 cs = 0) (h1 : ls.length = cs.length) (h2 : chkL ls ≠ 0) : chkM cs ls = chkL ls := by unfold chkM; rw [if_neg (by simpa using h), if_neg (by simpa using h1), if_pos h2]
theorem chkM_4 {cs : List Int} {ls : List (List Int)} (h : chk1 cs = 0) (h1 : ls.length = cs.length) (h2 : chkL ls = 0) (h3 : lenBad ls = true) : chkM cs ls = 2 := by unfold chkM; rw [if_neg (by simpa using h), if_neg (by simpa using h1), if_neg (by simpa using h2), if_pos h3]
theorem chkL_bad {ls : List (List Int)} (h : chkL ls ≠ 0) : ∃ k, k < ls.length ∧ chk1 (nthL ls k) ≠ 0 := by
  refine Classical.byContradiction fun hn => h (chkL_all fun k hk => Classical.byContradiction fun h1 => hn ⟨k, hk, h1⟩)
theorem lenBad_ex {ls : List (List Int)} (h : lenBad ls = true) : ∃ k, k < ls.length ∧ (nthL ls k).length ≠ (nthL ls 0).length := by
  unfold lenBad at h
  rw [List.any_eq_true] at h
  obtain ⟨j, hj, h1⟩ := h
  exact ⟨j, by simpa using hj, by simpa using h1⟩

theorem Hx_le {ls : List (List Int)} (h : Hid (∀ k, k < ls.length → (nthL ls k).length ≤ 1000000)) {k : Nat} (hk : k < ls.length) : (nthL ls k).length ≤ 1000000 := h.out k hk

set_option maxRecDepth 100000 in
set_option maxHeartbeats 4000000 in
theorem refMix_e1 (p : Option Addr) (cs : List Int) (c : Nat) (q : Option Addr) (ls : List (List Int)) (cl : Nat) (w : World) (hl : cs.length ≤ 1000000) (_hll : ls.length ≤ 1000000) (hR : Reads w p cs) (h : chk1 cs ≠ 0 ∨ (chk1 cs = 0 ∧ ls.length ≠ cs.length)) :
    Calls Try.prog 52 #[.slice p cs.length c, .slice q ls.length cl] w fun e w' => e = .returned (.tuple #[.slice none 0 0, .int .i64 (chkM cs ls)]) ∧ Below w.heap.size w w' := by
  rcases h with h | ⟨h0, h1⟩
  · rw [chkM_1 h]
    obtain ⟨z, hz⟩ : ∃ z, chk1 cs = z := ⟨_, rfl⟩
    have hk := refCheck_any p cs c w (by omega) hR
    rw [hz] at h hk ⊢
    have hb' : (z != 0) = true := by simpa using h
    clear h hz
    go_enter Try.func52, Try.ntmps52
    go_wp2_with fail
    go_call hk as e w1 ⟨rfl, hb1⟩
    go_wp2
    go_ret2
    exact ⟨rfl, hb1⟩
  · rw [chkM_2 h0 h1]
    have hk := refCheck_any p cs c w (by omega) hR
    rw [h0] at hk
    have hb' : ((ls.length : Int) != (cs.length : Int)) = true := by simp; omega
    clear h0 h1
    go_enter Try.func52, Try.ntmps52
    go_wp2_with fail
    go_call hk as e w1 ⟨rfl, hb1⟩
    go_wp2
    go_ret2
    exact ⟨rfl, hb1⟩

set_option maxRecDepth 100000 in
set_option maxHeartbeats 4000000 in
theorem refMix_e3 (p : Option Addr) (cs : List Int) (c : Nat) (q : Option Addr) (ls : List (List Int)) (cl : Nat) (w : World) (hl : cs.length ≤ 1000000) (hll : ls.length ≤ 1000000) (hx : Hid (∀ k, k < ls.length → (nthL ls k).length ≤ 1000000)) (hR : Reads w p cs) (hL : ReadsL w q ls) (h0 : chk1 cs = 0) (h1 : ls.length = cs.length) (h2 : chkL ls ≠ 0) :
    Calls Try.prog 52 #[.slice p cs.length c, .slice q ls.length cl] w fun e w' => e = .returned (.tuple #[.slice none 0 0, .int .i64 (chkM cs ls)]) ∧ Below w.heap.size w w' := by
  rw [chkM_3 h0 h1 h2]
  obtain ⟨z, hz⟩ : ∃ z, chkL ls = z := ⟨_, rfl⟩
  have Hat : Hid (∀ k, k < ls.length → (∀ i, i < k → chk1 (nthL ls i) = 0) → chk1 (nthL ls k) ≠ 0 → chk1 (nthL ls k) = z) := fun k hk ha hb => by rw [← hz]; exact (chkL_at hk ha hb).symm
  have Hex := Lib.hid (chkL_bad h2)
  rw [hz]
  have hk := refCheck_any p cs c w (by omega) hR
  rw [h0] at hk
  have hb' : ((ls.length : Int) != (cs.length : Int)) = false := by simp [h1]
  clear h0 h1 h2 hz
  go_enter Try.func52, Try.ntmps52
  go_wp2_with fail
  go_call hk as e w1 ⟨rfl, hB1⟩
  go_wp2
  go_loopw [7] (fun i wr => ∃ k : Nat, k ≤ ls.length ∧ i = .int .i64 k ∧ Hid (∀ j, j < k → chk1 (nthL ls j) = 0) ∧ Below w.heap.size w wr) (fun i _ => ls.length - (intOf i).toNat)
  case atStart => exact ⟨0, Nat.zero_le _, rfl, (fun j hj => by omega : ∀ j, j < 0 → chk1 (nthL ls j) = 0), hB1⟩
  case round =>
    obtain ⟨k, hk', rfl, Hz, hb⟩ := hrel
    by_cases hlt : k < ls.length
    · obtain ⟨q1, o1, rfl, r1, c1, hc1, hr1⟩ := hL.below hb (Nat.le_refl _) k hlt
      have hki : (k : Int) < (ls.length : Int) := by omega
      have hxk := Hx_le hx hlt
      have hck := refCheck_any r1 (nthL ls k) c1 wr (by omega) hr1
      by_cases hz : chk1 (nthL ls k) = 0
      · have Hn : Hid (∀ j, j < k + 1 → chk1 (nthL ls j) = 0) := fun j hj => by
          by_cases e : j = k
          · subst e; exact hz
          · exact Hz.out j (by omega)
        rw [hz] at hck
        clear hz hxk
        go_wp2_with fail
        go_call hck as e w2 ⟨rfl, hb2⟩
        go_wp2
        go_roundw
        case rel => exact ⟨k + 1, by omega, by go_num, Hn, tr hb hb2⟩
        case measure => simp [intOf]; omega
      · have hzz := Hat.out k hlt Hz.out hz
        rw [hzz] at hck hz
        have hne : (z != 0) = true := by simpa using hz
        clear hz hxk hzz
        go_wp2_with fail
        go_call hck as e w2 ⟨rfl, hb2⟩
        go_wp2
        go_ret2
        exact ⟨rfl, tr hb hb2⟩
    · exfalso
      obtain ⟨j, hj, hj2⟩ := Hex.out
      exact hj2 (Hz.out j (by omega))
end Go.Proofs.Ytagodfaclohkmaa
