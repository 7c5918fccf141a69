/-
  What Mix of package odds returns where nothing is refused.
-/
import Derived.Test.YtnpnnfbmnlgioaaN
namespace Go.Proofs.Ytnpnnfbmnlgioaa
open Go.RowKit Go.Maps

set_option maxHeartbeats 400000 in
theorem mixLen_any (p : Option Addr) (n c : Nat) (a : Addr) (q : Nat) (o m cl : Nat) (r : Option Addr) (n0 c0 : Nat) (w : World) (_hn : n ≤ 1000000000000000) (_hn0 : n0 ≤ 1000000000000000) (hm : 1 ≤ m) (ha : w.cell? a = some (.slice (some ⟨q, o, none⟩) m cl)) (h0 : w.cell? ⟨q, o, none⟩ = some (.slice r n0 c0)) (he : n = n0) :
    Calls Try.prog 63 #[.slice p n c, .pointer (some a)] w fun e w' => e = .returned (.bool false) ∧ w = w' := by
  subst he
  have hm' : (0 : Int) < (m : Int) := by omega
  go_enter Try.func63, Try.ntmps63
  go_wp2
  go_ret
  exact ⟨rfl, rfl⟩

set_option maxHeartbeats 1000000 in
theorem indexFunc_mix (a : Addr) (q o cl : Nat) (ls : List (List Int)) (c : Nat) (w : World) (n : Nat) (hn : n ≤ 1000000000000000) (hl : ls.length ≤ 1000000000000000) (ha : w.cell? a = some (.slice (some ⟨q, o, none⟩) ls.length cl)) (hL : ReadsL w (some ⟨q, o, none⟩) ls) (hv : ∀ j, j < ls.length → (nthL ls j).length = n) :
    Calls Try.prog 74 #[.slice (some ⟨q, o, none⟩) ls.length c, .func (.func 63) #[] #[.pointer (some a)]] w fun e w' => e = .returned (.int .i64 (-1)) ∧ w = w' := by
  have Hv := Lib.hid hv
  clear hv
  go_enter Try.func74, Try.ntmps74
  go_wp2
  go_loop [8] (fun i => ∃ k : Nat, k ≤ ls.length ∧ i = .int .i64 k) (fun i => ls.length - (intOf i).toNat)
  case atStart => exact ⟨0, Nat.zero_le _, rfl⟩
  case round =>
    obtain ⟨k, hk, rfl⟩ := hrel
    by_cases hlt : k < ls.length
    · obtain ⟨q1, o1, e1, r1, c1, hc1, _⟩ := hL k hlt
      cases e1
      obtain ⟨q2, o2, e2, r2, c2, hc2, _⟩ := hL 0 (by omega)
      cases e2
      rw [Nat.add_zero] at hc2
      have n1 := Hv.out k hlt
      have n2 := Hv.out 0 (by omega)
      rw [n1] at hc1
      rw [n2] at hc2
      clear n1 n2
      go_wp2_with fail
      go_call (mixLen_any r1 n c1 a q o ls.length cl r2 n c2 w hn hn (by omega) ha hc2 rfl) as e w' ⟨rfl, rfl⟩
      go_wp2
      go_round
      case rel => exact ⟨k + 1, by omega, by go_num⟩
      case measure => simp [intOf]; omega
    · go_wp2
      go_ret
      exact ⟨rfl, rfl⟩

set_option maxHeartbeats 400000 in
theorem containsFunc_mix (a : Addr) (q o cl : Nat) (ls : List (List Int)) (c : Nat) (w : World) (n : Nat) (hn : n ≤ 1000000000000000) (hl : ls.length ≤ 1000000000000000) (ha : w.cell? a = some (.slice (some ⟨q, o, none⟩) ls.length cl)) (hL : ReadsL w (some ⟨q, o, none⟩) ls) (hv : ∀ j, j < ls.length → (nthL ls j).length = n) :
    Calls Try.prog 62 #[.slice (some ⟨q, o, none⟩) ls.length c, .func (.func 63) #[] #[.pointer (some a)]] w fun e w' => e = .returned (.bool false) ∧ w = w' := by
  have Hv := Lib.hid hv
  clear hv
  go_enter Try.func62, Try.ntmps62
  go_wp2_with fail
  refine (indexFunc_mix a q o cl ls c w n hn hl ha hL Hv.out).mono ?_
  rintro e w' ⟨rfl, rfl⟩
  go_wp2
  go_ret
  exact ⟨rfl, rfl⟩

set_option maxHeartbeats 1000000 in
theorem checkMix_ok (p : Option Addr) (cs : List Int) (c : Nat) (q o : Nat) (ls : List (List Int)) (cl : Nat) (w : World) (n : Nat) (hn : n ≤ 1000000000000000) (hl : cs.length ≤ 1000000000000000) (hll : ls.length = cs.length) (hR : Reads w p cs) (hL : ReadsL w (some ⟨q, o, none⟩) ls) (h0 : chk1 cs = 0) (h1 : chkL ls = 0) (hv : ∀ j, j < ls.length → (nthL ls j).length = n) :
    Calls Try.prog 40 #[.slice p cs.length c, .slice (some ⟨q, o, none⟩) ls.length cl] w fun e w' => e = .returned (.int .i64 0) ∧ Below w.heap.size w w' := by
  have Hv := Lib.hid hv
  have H0 := Lib.hid h0
  have H1 := Lib.hid h1
  have hll' : ((ls.length : Int) != (cs.length : Int)) = false := by simp [hll]
  have Hll := Lib.hid hll
  have hB0 : Below w.heap.size w ((w.alloc (.cells #[.slice (some ⟨q, o, none⟩) ls.length cl] 35)).alloc (.cells #[.slice p cs.length c] 34)) := (below1 _ _).alloc (by simp) _
  clear hv h0 h1 hll
  go_enter Try.func40, Try.ntmps40
  go_wp2_with fail
  go_call (check1 p cs c (w.heap.size + 1) _ (by omega) (by go_simp) (hR.below hB0 (Nat.le_refl _))) as e w1 ⟨rfl, hb1⟩
  rw [H0.out]
  have hB1 : Below w.heap.size w w1 := hB0.trans (hb1.mono (by simp; omega))
  have hc : w1.cell? ⟨w.heap.size, 0, none⟩ = some (.slice (some ⟨q, o, none⟩) ls.length cl) := cell_tr hb1 (by go_simp)
  clear hb1 hB0
  go_wp2_with fail
  go_call (check_any (some ⟨q, o, none⟩) ls cl w1 (by have := Hll.out; omega) (fun k hk => by have := Hv.out k hk; omega) (hL.below hB1 (Nat.le_refl _))) as e w2 ⟨rfl, hb2⟩
  rw [H1.out]
  have hc2 := cell_tr hb2 hc
  have hB2 := tr hB1 hb2
  clear hb2 hc
  go_wp2_with fail
  go_call (containsFunc_mix ⟨w.heap.size, 0, none⟩ q o cl ls cl w2 n hn (by have := Hll.out; omega) hc2 (hL.below hB2 (Nat.le_refl _)) Hv.out) as e w' ⟨rfl, rfl⟩
  go_wp2
  go_ret
  exact ⟨rfl, hB2⟩
end Go.Proofs.Ytnpnnfbmnlgioaa
