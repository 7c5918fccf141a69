/-
  What checkMix of package odds returns: for any cases and lists.
-/
import Derived.Test.YtagodfaclohkmaaQ
import Derived.Test.YtagodfaclohkmaaVm
namespace Go.Proofs.Ytagodfaclohkmaa
open Go.RowKit

/-- Some list has another length than the first one. -/
def lenBad (ls : List (List Int)) : Bool := (List.range ls.length).any fun j => decide ((nthL ls j).length ≠ (nthL ls 0).length)
theorem lenBad_false {ls : List (List Int)} (h : lenBad ls = false) {j : Nat} (hj : j < ls.length) : (nthL ls j).length = (nthL ls 0).length := by
  unfold lenBad at h
  rw [List.any_eq_false] at h
  have := h j (by simpa using hj)
  simpa using this
theorem lenBad_at {ls : List (List Int)} {j : Nat} (hj : j < ls.length) (h : (nthL ls j).length ≠ (nthL ls 0).length) : lenBad ls = true := by
  unfold lenBad
  rw [List.any_eq_true]
  exact ⟨j, by simpa using hj, by simpa using h⟩
theorem lenBad_all {ls : List (List Int)} (h : ∀ j, j < ls.length → (nthL ls j).length = (nthL ls 0).length) : lenBad ls = false := by
  unfold lenBad
  rw [List.any_eq_false]
  intro j hj
  have := h j (by simpa using hj)
  simp [this]
/-- The error of cases and their lists. -/
def chkM (cs : List Int) (ls : List (List Int)) : Int := if chk1 cs ≠ 0 then chk1 cs else if ls.length ≠ cs.length then 2 else if chkL ls ≠ 0 then chkL ls else if lenBad ls = true then 2 else 0

set_option maxHeartbeats 400000 in
theorem mixLen_gen (p : Option Addr) (n c : Nat) (a : Addr) (q : Nat) (o m cl : Nat) (r : Option Addr) (n0 c0 : Nat) (w : World) (_hn : n ≤ 1000000000000000) (_hn0 : n0 ≤ 1000000000000000) (hm : 1 ≤ m) (ha : w.cell? a = some (.slice (some ⟨q, o, none⟩) m cl)) (h0 : w.cell? ⟨q, o, none⟩ = some (.slice r n0 c0)) (B : Bool) (hB : ((n : Int) != (n0 : Int)) = B) :
    Calls Try.prog 99 #[.slice p n c, .pointer (some a)] w fun e w' => e = .returned (.bool B) ∧ w = w' := by
  have hm' : (0 : Int) < (m : Int) := by omega
  go_enter Try.func99, Try.ntmps99
  go_wp2
  go_ret
  exact ⟨rfl, rfl⟩

set_option maxHeartbeats 1000000 in
theorem indexFunc_mixBad (a : Addr) (q o cl : Nat) (ls : List (List Int)) (c : Nat) (w : World) (hx : ∀ k, k < ls.length → (nthL ls k).length ≤ 1000000000000000) (hl : ls.length ≤ 1000000000000000) (ha : w.cell? a = some (.slice (some ⟨q, o, none⟩) ls.length cl)) (hL : ReadsL w (some ⟨q, o, none⟩) ls) (hv : lenBad ls = true) :
    Calls Try.prog 104 #[.slice (some ⟨q, o, none⟩) ls.length c, .func (.func 99) #[] #[.pointer (some a)]] w fun e w' => (∃ i : Nat, i ≤ 1000000000000000 ∧ e = .returned (.int .i64 i)) ∧ w = w' := by
  have Hv := Lib.hid hv
  have Hx := Lib.hid hx
  clear hv hx
  go_enter Try.func104, Try.ntmps104
  go_wp2
  go_loop [8] (fun i => ∃ k : Nat, k ≤ ls.length ∧ i = .int .i64 k ∧ Hid (∀ j, j < k → (nthL ls j).length = (nthL ls 0).length)) (fun i => ls.length - (intOf i).toNat)
  case atStart => exact ⟨0, Nat.zero_le _, rfl, (fun j hj => by omega : ∀ j, j < 0 → (nthL ls j).length = (nthL ls 0).length)⟩
  case round =>
    obtain ⟨k, hk, rfl, Hz⟩ := hrel
    by_cases hlt : k < ls.length
    · obtain ⟨q1, o1, e1, r1, c1, hc1, _⟩ := hL k hlt
      cases e1
      obtain ⟨q2, o2, e2, r2, c2, hc2, _⟩ := hL 0 (by omega)
      cases e2
      rw [Nat.add_zero] at hc2
      have n1 := Hx.out k hlt
      have n2 := Hx.out 0 (by omega)
      by_cases heq : (nthL ls k).length = (nthL ls 0).length
      · have Hn : Hid (∀ j, j < k + 1 → (nthL ls j).length = (nthL ls 0).length) := fun j hj => by
          by_cases e : j = k
          · subst e; exact heq
          · exact Hz.out j (by omega)
        have hb : (((nthL ls k).length : Int) != ((nthL ls 0).length : Int)) = false := by simp [heq]
        clear heq
        go_wp2_with fail
        go_call (mixLen_gen r1 (nthL ls k).length c1 a q o ls.length cl r2 (nthL ls 0).length c2 w n1 n2 (by omega) ha hc2 false hb) as e w' ⟨rfl, rfl⟩
        go_wp2
        go_round
        case rel => exact ⟨k + 1, by omega, by go_num, Hn⟩
        case measure => simp [intOf]; omega
      · have hb : (((nthL ls k).length : Int) != ((nthL ls 0).length : Int)) = true := by simp; omega
        clear heq
        go_wp2_with fail
        go_call (mixLen_gen r1 (nthL ls k).length c1 a q o ls.length cl r2 (nthL ls 0).length c2 w n1 n2 (by omega) ha hc2 true hb) as e w' ⟨rfl, rfl⟩
        go_wp2
        go_ret
        exact ⟨⟨k, by omega, rfl⟩, rfl⟩
    · exfalso
      have h1 := lenBad_all (ls := ls) fun j hj => Hz.out j (by omega)
      rw [Hv.out] at h1
      cases h1

set_option maxHeartbeats 400000 in
theorem containsFunc_mixBad (a : Addr) (q o cl : Nat) (ls : List (List Int)) (c : Nat) (w : World) (hx : ∀ k, k < ls.length → (nthL ls k).length ≤ 1000000000000000) (hl : ls.length ≤ 1000000000000000) (ha : w.cell? a = some (.slice (some ⟨q, o, none⟩) ls.length cl)) (hL : ReadsL w (some ⟨q, o, none⟩) ls) (hv : lenBad ls = true) :
    Calls Try.prog 98 #[.slice (some ⟨q, o, none⟩) ls.length c, .func (.func 99) #[] #[.pointer (some a)]] w fun e w' => e = .returned (.bool true) ∧ w = w' := by
  have Hv := Lib.hid hv
  have Hx := Lib.hid hx
  clear hv hx
  go_enter Try.func98, Try.ntmps98
  go_wp2_with fail
  refine (indexFunc_mixBad a q o cl ls c w Hx.out hl ha hL Hv.out).mono ?_
  rintro e w' ⟨⟨i, hi, rfl⟩, rfl⟩
  have hi0 : (0 : Int) ≤ (i : Int) := by omega
  go_wp2
  go_ret
  exact ⟨rfl, rfl⟩

set_option maxHeartbeats 2000000 in
theorem checkMix_any (p : Option Addr) (cs : List Int) (c : Nat) (q : Option Addr) (ls : List (List Int)) (cl : Nat) (w : World) (hl : cs.length ≤ 1000000) (hll : ls.length ≤ 1000000) (hx : ∀ k, k < ls.length → (nthL ls k).length ≤ 1000000) (hR : Reads w p cs) (hL : ReadsL w q ls) :
    Calls Try.prog 82 #[.slice p cs.length c, .slice q ls.length cl] w fun e w' => e = .returned (.int .i64 (chkM cs ls)) ∧ Below w.heap.size w w' := by
  have Hx := Lib.hid hx
  clear hx
  have hB0 : Below w.heap.size w ((w.alloc (.cells #[.slice q ls.length cl] 54)).alloc (.cells #[.slice p cs.length c] 22)) := (below1 _ _).alloc (by simp) _
  by_cases h0 : chk1 cs = 0
  · have H0 := Lib.hid h0
    by_cases h1 : ls.length = cs.length
    · have hll' : ((ls.length : Int) != (cs.length : Int)) = false := by simp [h1]
      by_cases h2 : chkL ls = 0
      · by_cases h3 : lenBad ls = true
        · have hc : Hid (chkM cs ls = 2) := by show _ = _; unfold chkM; rw [if_neg (by simpa using h0), if_neg (by simpa using h1), if_neg (by simpa using h2), if_pos h3]
          have hpos : 1 ≤ ls.length := by
            have := (chk1_ok h0).2.2.1
            rcases cs with _ | ⟨x, r⟩
            · simp [lsum] at this
            · simp at h1; omega
          obtain ⟨q0, o0, rfl, _⟩ := hL 0 (by omega)
          have H2 := Lib.hid h2
          have H3 := Lib.hid h3
          clear h0 h1 h2 h3
          rw [hc.out]
          go_enter Try.func82, Try.ntmps82
          go_wp2_with fail
          go_call (check1 p cs c (w.heap.size + 1) _ (by omega) (by go_simp) (hR.below hB0 (Nat.le_refl _))) as e w1 ⟨rfl, hb1⟩
          rw [H0.out]
          have hB1 : Below w.heap.size w w1 := hB0.trans (hb1.mono (by simp; omega))
          have hcc : w1.cell? ⟨w.heap.size, 0, none⟩ = some (.slice (some ⟨q0, o0, none⟩) ls.length cl) := cell_tr hb1 (by go_simp)
          clear hb1 hB0
          go_wp2_with fail
          go_call (check_any (some ⟨q0, o0, none⟩) ls cl w1 (by omega) (fun k hk => by have := Hx.out k hk; omega) (hL.below hB1 (Nat.le_refl _))) as e w2 ⟨rfl, hb2⟩
          rw [H2.out]
          have hc2 := cell_tr hb2 hcc
          have hB2 := tr hB1 hb2
          clear hb2 hcc
          go_wp2_with fail
          go_call (containsFunc_mixBad ⟨w.heap.size, 0, none⟩ q0 o0 cl ls cl w2 (fun k hk => by have := Hx.out k hk; omega) (by omega) hc2 (hL.below hB2 (Nat.le_refl _)) H3.out) as e w' ⟨rfl, rfl⟩
          go_wp2
          go_ret
          exact ⟨rfl, hB2⟩
        · have h3' : lenBad ls = false := by simpa using h3
          have hc : chkM cs ls = 0 := by unfold chkM; rw [if_neg (by simpa using h0), if_neg (by simpa using h1), if_neg (by simpa using h2), if_neg h3]
          have hpos : 1 ≤ ls.length := by
            have := (chk1_ok h0).2.2.1
            rcases cs with _ | ⟨x, r⟩
            · simp [lsum] at this
            · simp at h1; omega
          obtain ⟨q0, o0, rfl, _⟩ := hL 0 (by omega)
          rw [hc]
          exact checkMix_ok p cs c q0 o0 ls cl w (nthL ls 0).length (by have := Hx.out 0 (by omega); omega) (by omega) h1 hR hL h0 h2 (fun j hj => lenBad_false h3' hj)
      · obtain ⟨z, hz⟩ : ∃ z, chkL ls = z := ⟨_, rfl⟩
        have hc : Hid (chkM cs ls = z) := by show _ = _; unfold chkM; rw [if_neg (by simpa using h0), if_neg (by simpa using h1), if_pos h2, hz]
        rw [hz] at h2
        have hb' : (z != 0) = true := by simpa using h2
        have H2 := Lib.hid hz
        clear h0 h1 h2 hz
        rw [hc.out]
        go_enter Try.func82, Try.ntmps82
        go_wp2_with fail
        go_call (check1 p cs c (w.heap.size + 1) _ (by omega) (by go_simp) (hR.below hB0 (Nat.le_refl _))) as e w1 ⟨rfl, hb1⟩
        rw [H0.out]
        have hB1 : Below w.heap.size w w1 := hB0.trans (hb1.mono (by simp; omega))
        have hcc : w1.cell? ⟨w.heap.size, 0, none⟩ = some (.slice q ls.length cl) := cell_tr hb1 (by go_simp)
        clear hb1 hB0
        go_wp2_with fail
        go_call (check_any q ls cl w1 (by omega) (fun k hk => by have := Hx.out k hk; omega) (hL.below hB1 (Nat.le_refl _))) as e w2 ⟨rfl, hb2⟩
        rw [H2.out]
        have hB2 := tr hB1 hb2
        clear hb2 hcc
        go_wp2
        go_ret
        exact ⟨rfl, hB2⟩
    · have hll' : ((ls.length : Int) != (cs.length : Int)) = true := by simp; omega
      have hc : Hid (chkM cs ls = 2) := by show _ = _; unfold chkM; rw [if_neg (by simpa using h0), if_pos h1]
      clear h0 h1
      rw [hc.out]
      go_enter Try.func82, Try.ntmps82
      go_wp2_with fail
      go_call (check1 p cs c (w.heap.size + 1) _ (by omega) (by go_simp) (hR.below hB0 (Nat.le_refl _))) as e w1 ⟨rfl, hb1⟩
      rw [H0.out]
      have hB1 : Below w.heap.size w w1 := hB0.trans (hb1.mono (by simp; omega))
      have hcc : w1.cell? ⟨w.heap.size, 0, none⟩ = some (.slice q ls.length cl) := cell_tr hb1 (by go_simp)
      clear hb1 hB0
      go_wp2
      go_ret
      exact ⟨rfl, hB1⟩
  · obtain ⟨z, hz⟩ : ∃ z, chk1 cs = z := ⟨_, rfl⟩
    have hc : Hid (chkM cs ls = z) := by show _ = _; unfold chkM; rw [if_pos h0, hz]
    rw [hz] at h0
    have hb' : (z != 0) = true := by simpa using h0
    have H0 := Lib.hid hz
    clear h0 hz
    rw [hc.out]
    go_enter Try.func82, Try.ntmps82
    go_wp2_with fail
    go_call (check1 p cs c (w.heap.size + 1) _ (by omega) (by go_simp) (hR.below hB0 (Nat.le_refl _))) as e w1 ⟨rfl, hb1⟩
    rw [H0.out]
    have hB1 : Below w.heap.size w w1 := hB0.trans (hb1.mono (by simp; omega))
    clear hb1 hB0
    go_wp2
    go_ret
    exact ⟨rfl, hB1⟩
end Go.Proofs.Ytagodfaclohkmaa
