/-
  What checkMix of package odds returns: for any cases and lists.
  What Mix of package odds returns: for any cases and lists.
  What Mix of the reference returns where cases or lists are refused.
  What Mix of the reference returns where lists have other lengths; and the arithmetic of its sums.
  What Mix of the reference returns where nothing is refused ahead of the sums.
  What Mix of the reference returns: for any cases and lists.
-/
import Derived.Test.YtnpnnfbmnlgioaaQ
import Derived.Test.YtnpnnfbmnlgioaaVm
import Derived.Test.YtnpnnfbmnlgioaaVi
import Derived.Laws.AppendOwn
import Derived.OwnWalk
namespace Go.Proofs.Ytnpnnfbmnlgioaa
open Go.RowKit

/-- Some list has another length than the first one. -/
def lenBad (ls : List (List Int)) : Bool := (List.range ls.length).any fun j => decide ((nthL ls j).length ≠ (nthL ls 0).length)
theorem lenBad_false {ls : List (List Int)} (h : lenBad ls = false) {j : Nat} (hj : j < ls.length) : (nthL ls j).length = (nthL ls 0).length := by
  unfold lenBad at h
  rw [List.any_eq_false] at h
  have := h j (by simpa using hj)
  simpa using this
theorem lenBad_at {ls : List (List Int)} {j : Nat} (hj : j < ls.length) (h : (nthL ls j).length ≠ (nthL ls 0).length) : lenBad ls = true := by
  unfold lenBad
  rw [List.any_eq_true]
  exact ⟨j, by simpa using hj, by simpa using h⟩
theorem lenBad_all {ls : List (List Int)} (h : ∀ j, j < ls.length → (nthL ls j).length = (nthL ls 0).length) : lenBad ls = false := by
  unfold lenBad
  rw [List.any_eq_false]
  intro j hj
  have := h j (by simpa using hj)
  simp [this]
/-- The error of cases and their lists. -/
def chkM (cs : List Int) (ls : List (List Int)) : Int := if chk1 cs ≠ 0 then chk1 cs else if ls.length ≠ cs.length then 2 else if chkL ls ≠ 0 then chkL ls else if lenBad ls = true then 2 else 0

set_option maxHeartbeats 400000 in
theorem mixLen_gen (p : Option Addr) (n c : Nat) (a : Addr) (q : Nat) (o m cl : Nat) (r : Option Addr) (n0 c0 : Nat) (w : World) (_hn : n ≤ 1000000000000000) (_hn0 : n0 ≤ 1000000000000000) (hm : 1 ≤ m) (ha : w.cell? a = some (.slice (some ⟨q, o, none⟩) m cl)) (h0 : w.cell? ⟨q, o, none⟩ = some (.slice r n0 c0)) (B : Bool) (hB : ((n : Int) != (n0 : Int)) = B) :
    Calls Try.prog 63 #[.slice p n c, .pointer (some a)] w fun e w' => e = .returned (.bool B) ∧ w = w' := by
  have hm' : (0 : Int) < (m : Int) := by omega
  go_enter Try.func63, Try.ntmps63
  go_wp2
  go_ret
  exact ⟨rfl, rfl⟩

set_option maxHeartbeats 1000000 in
theorem indexFunc_mixBad (a : Addr) (q o cl : Nat) (ls : List (List Int)) (c : Nat) (w : World) (hx : ∀ k, k < ls.length → (nthL ls k).length ≤ 1000000000000000) (hl : ls.length ≤ 1000000000000000) (ha : w.cell? a = some (.slice (some ⟨q, o, none⟩) ls.length cl)) (hL : ReadsL w (some ⟨q, o, none⟩) ls) (hv : lenBad ls = true) :
    Calls Try.prog 74 #[.slice (some ⟨q, o, none⟩) ls.length c, .func (.func 63) #[] #[.pointer (some a)]] w fun e w' => (∃ i : Nat, i ≤ 1000000000000000 ∧ e = .returned (.int .i64 i)) ∧ w = w' := by
  have Hv := Lib.hid hv
  have Hx := Lib.hid hx
  clear hv hx
  go_enter Try.func74, Try.ntmps74
  go_wp2
  go_loop [8] (fun i => ∃ k : Nat, k ≤ ls.length ∧ i = .int .i64 k ∧ Hid (∀ j, j < k → (nthL ls j).length = (nthL ls 0).length)) (fun i => ls.length - (intOf i).toNat)
  case atStart => exact ⟨0, Nat.zero_le _, rfl, (fun j hj => by omega : ∀ j, j < 0 → (nthL ls j).length = (nthL ls 0).length)⟩
  case round =>
    obtain ⟨k, hk, rfl, Hz⟩ := hrel
    by_cases hlt : k < ls.length
    · obtain ⟨q1, o1, e1, r1, c1, hc1, _⟩ := hL k hlt
      cases e1
      obtain ⟨q2, o2, e2, r2, c2, hc2, _⟩ := hL 0 (by omega)
      cases e2
      rw [Nat.add_zero] at hc2
      have n1 := Hx.out k hlt
      have n2 := Hx.out 0 (by omega)
      by_cases heq : (nthL ls k).length = (nthL ls 0).length
      · have Hn : Hid (∀ j, j < k + 1 → (nthL ls j).length = (nthL ls 0).length) := fun j hj => by
          by_cases e : j = k
          · subst e; exact heq
          · exact Hz.out j (by omega)
        have hb : (((nthL ls k).length : Int) != ((nthL ls 0).length : Int)) = false := by simp [heq]
        clear heq
        go_wp2_with fail
        go_call (mixLen_gen r1 (nthL ls k).length c1 a q o ls.length cl r2 (nthL ls 0).length c2 w n1 n2 (by omega) ha hc2 false hb) as e w' ⟨rfl, rfl⟩
        go_wp2
        go_round
        case rel => exact ⟨k + 1, by omega, by go_num, Hn⟩
        case measure => simp [intOf]; omega
      · have hb : (((nthL ls k).length : Int) != ((nthL ls 0).length : Int)) = true := by simp; omega
        clear heq
        go_wp2_with fail
        go_call (mixLen_gen r1 (nthL ls k).length c1 a q o ls.length cl r2 (nthL ls 0).length c2 w n1 n2 (by omega) ha hc2 true hb) as e w' ⟨rfl, rfl⟩
        go_wp2
        go_ret
        exact ⟨⟨k, by omega, rfl⟩, rfl⟩
    · exfalso
      have h1 := lenBad_all (ls := ls) fun j hj => Hz.out j (by omega)
      rw [Hv.out] at h1
      cases h1

set_option maxHeartbeats 400000 in
theorem containsFunc_mixBad (a : Addr) (q o cl : Nat) (ls : List (List Int)) (c : Nat) (w : World) (hx : ∀ k, k < ls.length → (nthL ls k).length ≤ 1000000000000000) (hl : ls.length ≤ 1000000000000000) (ha : w.cell? a = some (.slice (some ⟨q, o, none⟩) ls.length cl)) (hL : ReadsL w (some ⟨q, o, none⟩) ls) (hv : lenBad ls = true) :
    Calls Try.prog 62 #[.slice (some ⟨q, o, none⟩) ls.length c, .func (.func 63) #[] #[.pointer (some a)]] w fun e w' => e = .returned (.bool true) ∧ w = w' := by
  have Hv := Lib.hid hv
  have Hx := Lib.hid hx
  clear hv hx
  go_enter Try.func62, Try.ntmps62
  go_wp2_with fail
  refine (indexFunc_mixBad a q o cl ls c w Hx.out hl ha hL Hv.out).mono ?_
  rintro e w' ⟨⟨i, hi, rfl⟩, rfl⟩
  have hi0 : (0 : Int) ≤ (i : Int) := by omega
  go_wp2
  go_ret
  exact ⟨rfl, rfl⟩

set_option maxHeartbeats 2000000 in
theorem checkMix_any (p : Option Addr) (cs : List Int) (c : Nat) (q : Option Addr) (ls : List (List Int)) (cl : Nat) (w : World) (hl : cs.length ≤ 1000000) (hll : ls.length ≤ 1000000) (hx : ∀ k, k < ls.length → (nthL ls k).length ≤ 1000000) (hR : Reads w p cs) (hL : ReadsL w q ls) :
    Calls Try.prog 40 #[.slice p cs.length c, .slice q ls.length cl] w fun e w' => e = .returned (.int .i64 (chkM cs ls)) ∧ Below w.heap.size w w' := by
  have Hx := Lib.hid hx
  clear hx
  have hB0 : Below w.heap.size w ((w.alloc (.cells #[.slice q ls.length cl] 35)).alloc (.cells #[.slice p cs.length c] 34)) := (below1 _ _).alloc (by simp) _
  by_cases h0 : chk1 cs = 0
  · have H0 := Lib.hid h0
    by_cases h1 : ls.length = cs.length
    · have hll' : ((ls.length : Int) != (cs.length : Int)) = false := by simp [h1]
      by_cases h2 : chkL ls = 0
      · by_cases h3 : lenBad ls = true
        · have hc : Hid (chkM cs ls = 2) := by show _ = _; unfold chkM; rw [if_neg (by simpa using h0), if_neg (by simpa using h1), if_neg (by simpa using h2), if_pos h3]
          have hpos : 1 ≤ ls.length := by
            have := (chk1_ok h0).2.2.1
            rcases cs with _ | ⟨x, r⟩
            · simp [lsum] at this
            · simp at h1; omega
          obtain ⟨q0, o0, rfl, _⟩ := hL 0 (by omega)
          have H2 := Lib.hid h2
          have H3 := Lib.hid h3
          clear h0 h1 h2 h3
          rw [hc.out]
          go_enter Try.func40, Try.ntmps40
          go_wp2_with fail
          go_call (check1 p cs c (w.heap.size + 1) _ (by omega) (by go_simp) (hR.below hB0 (Nat.le_refl _))) as e w1 ⟨rfl, hb1⟩
          rw [H0.out]
          have hB1 : Below w.heap.size w w1 := hB0.trans (hb1.mono (by simp; omega))
          have hcc : w1.cell? ⟨w.heap.size, 0, none⟩ = some (.slice (some ⟨q0, o0, none⟩) ls.length cl) := cell_tr hb1 (by go_simp)
          clear hb1 hB0
          go_wp2_with fail
          go_call (check_any (some ⟨q0, o0, none⟩) ls cl w1 (by omega) (fun k hk => by have := Hx.out k hk; omega) (hL.below hB1 (Nat.le_refl _))) as e w2 ⟨rfl, hb2⟩
          rw [H2.out]
          have hc2 := cell_tr hb2 hcc
          have hB2 := tr hB1 hb2
          clear hb2 hcc
          go_wp2_with fail
          go_call (containsFunc_mixBad ⟨w.heap.size, 0, none⟩ q0 o0 cl ls cl w2 (fun k hk => by have := Hx.out k hk; omega) (by omega) hc2 (hL.below hB2 (Nat.le_refl _)) H3.out) as e w' ⟨rfl, rfl⟩
          go_wp2
          go_ret
          exact ⟨rfl, hB2⟩
        · have h3' : lenBad ls = false := by simpa using h3
          have hc : chkM cs ls = 0 := by unfold chkM; rw [if_neg (by simpa using h0), if_neg (by simpa using h1), if_neg (by simpa using h2), if_neg h3]
          have hpos : 1 ≤ ls.length := by
            have := (chk1_ok h0).2.2.1
            rcases cs with _ | ⟨x, r⟩
            · simp [lsum] at this
            · simp at h1; omega
          obtain ⟨q0, o0, rfl, _⟩ := hL 0 (by omega)
          rw [hc]
          exact checkMix_ok p cs c q0 o0 ls cl w (nthL ls 0).length (by have := Hx.out 0 (by omega); omega) (by omega) h1 hR hL h0 h2 (fun j hj => lenBad_false h3' hj)
      · obtain ⟨z, hz⟩ : ∃ z, chkL ls = z := ⟨_, rfl⟩
        have hc : Hid (chkM cs ls = z) := by show _ = _; unfold chkM; rw [if_neg (by simpa using h0), if_neg (by simpa using h1), if_pos h2, hz]
        rw [hz] at h2
        have hb' : (z != 0) = true := by simpa using h2
        have H2 := Lib.hid hz
        clear h0 h1 h2 hz
        rw [hc.out]
        go_enter Try.func40, Try.ntmps40
        go_wp2_with fail
        go_call (check1 p cs c (w.heap.size + 1) _ (by omega) (by go_simp) (hR.below hB0 (Nat.le_refl _))) as e w1 ⟨rfl, hb1⟩
        rw [H0.out]
        have hB1 : Below w.heap.size w w1 := hB0.trans (hb1.mono (by simp; omega))
        have hcc : w1.cell? ⟨w.heap.size, 0, none⟩ = some (.slice q ls.length cl) := cell_tr hb1 (by go_simp)
        clear hb1 hB0
        go_wp2_with fail
        go_call (check_any q ls cl w1 (by omega) (fun k hk => by have := Hx.out k hk; omega) (hL.below hB1 (Nat.le_refl _))) as e w2 ⟨rfl, hb2⟩
        rw [H2.out]
        have hB2 := tr hB1 hb2
        clear hb2 hcc
        go_wp2
        go_ret
        exact ⟨rfl, hB2⟩
    · have hll' : ((ls.length : Int) != (cs.length : Int)) = true := by simp; omega
      have hc : Hid (chkM cs ls = 2) := by show _ = _; unfold chkM; rw [if_neg (by simpa using h0), if_pos h1]
      clear h0 h1
      rw [hc.out]
      go_enter Try.func40, Try.ntmps40
      go_wp2_with fail
      go_call (check1 p cs c (w.heap.size + 1) _ (by omega) (by go_simp) (hR.below hB0 (Nat.le_refl _))) as e w1 ⟨rfl, hb1⟩
      rw [H0.out]
      have hB1 : Below w.heap.size w w1 := hB0.trans (hb1.mono (by simp; omega))
      have hcc : w1.cell? ⟨w.heap.size, 0, none⟩ = some (.slice q ls.length cl) := cell_tr hb1 (by go_simp)
      clear hb1 hB0
      go_wp2
      go_ret
      exact ⟨rfl, hB1⟩
  · obtain ⟨z, hz⟩ : ∃ z, chk1 cs = z := ⟨_, rfl⟩
    have hc : Hid (chkM cs ls = z) := by show _ = _; unfold chkM; rw [if_pos h0, hz]
    rw [hz] at h0
    have hb' : (z != 0) = true := by simpa using h0
    have H0 := Lib.hid hz
    clear h0 hz
    rw [hc.out]
    go_enter Try.func40, Try.ntmps40
    go_wp2_with fail
    go_call (check1 p cs c (w.heap.size + 1) _ (by omega) (by go_simp) (hR.below hB0 (Nat.le_refl _))) as e w1 ⟨rfl, hb1⟩
    rw [H0.out]
    have hB1 : Below w.heap.size w w1 := hB0.trans (hb1.mono (by simp; omega))
    clear hb1 hB0
    go_wp2
    go_ret
    exact ⟨rfl, hB1⟩
end Go.Proofs.Ytnpnnfbmnlgioaa

namespace Go.Proofs.Ytnpnnfbmnlgioaa
open Go.RowKit Go.Maps

theorem chkL_each {ls : List (List Int)} (h : chkL ls = 0) {j : Nat} (hj : j < ls.length) : chk1 (nthL ls j) = 0 := by
  induction ls generalizing j with
  | nil => simp at hj
  | cons x r ih =>
    simp only [chkL] at h
    by_cases h1 : chk1 x = 0
    · rw [if_pos h1] at h
      cases j with
      | zero => exact h1
      | succ j => exact ih h (by simpa using hj)
    · rw [if_neg h1] at h; exact absurd h h1
/-- What Mix returns. -/
def sMix (cs : List Int) (ls : List (List Int)) : List Int × Int :=
  if chkM cs ls ≠ 0 then ([], chkM cs ls) else if ¬ lcmTo (low cs) ls cs.length ≤ 1000000000000000 then ([], 10) else if ¬ lsum (low cs) ≤ 1000000000000000 / lcmTo (low cs) ls cs.length then ([], 10) else (low (mixL (low cs) ls (nthL ls 0).length), 0)

set_option maxHeartbeats 2000000 in
theorem mix_over (p : Option Addr) (c0 : List Int) (c : Nat) (q o : Nat) (ls : List (List Int)) (cl : Nat) (w : World) (hll : ls.length = c0.length) (hR : Reads w p c0) (hL : ReadsL w (some ⟨q, o, none⟩) ls) (h0 : chk1 c0 = 0)
    (hM : ∀ w, Reads w p c0 → ReadsL w (some ⟨q, o, none⟩) ls → Calls Try.prog 40 #[.slice p c0.length c, .slice (some ⟨q, o, none⟩) ls.length cl] w fun e w' => e = .returned (.int .i64 0) ∧ Below w.heap.size w w')
    (cs : List Int) (hcs : cs = low c0) (L : Int) (hLd : L = lcmTo cs ls cs.length) (hbad : ¬ L ≤ 1000000000000000 ∨ (L ≤ 1000000000000000 ∧ 1 ≤ L ∧ ¬ lsum cs ≤ 1000000000000000 / L)) (hvv : ∀ j, j < ls.length → chk1 (nthL ls j) = 0) :
    Calls Try.prog 17 #[.slice p c0.length c, .slice (some ⟨q, o, none⟩) ls.length cl] w fun e w' => e = .returned (.tuple #[.slice none 0 0, .int .i64 10]) ∧ Below w.heap.size w w' := by
  obtain ⟨a1, a2, a3, a4⟩ := chk1_ok h0
  obtain ⟨l1, l2, l3, l4⟩ := low_facts a2 a3
  rw [← hcs] at l2 l3 l4
  have hcl : cs.length = c0.length := by rw [hcs, low_length]
  rw [hcl] at hLd
  have Hvv := Lib.hid hvv
  have Hcs : Hid (c0.map (· / gcdl c0) = cs) := hcs.symm
  have Hcl := Lib.hid hcl
  have Hll := Lib.hid hll
  have HLd := Lib.hid hLd
  clear h0 hcs hcl hll hLd hvv
  go_enter Try.func17, Try.ntmps17
  go_wp2_with fail
  go_call (hM w hR hL) as e w1 ⟨rfl, hb1⟩
  go_wp2_with fail
  go_call (lowest_any p c0 c w1 a1 a2 l1 (hR.below hb1 (Nat.le_refl _))) as e w2 ⟨gc, rfl, hrowc, hb2⟩
  rw [Hcs.out] at hrowc
  have hRc := hrowc.reads
  go_wp2_with fail
  have hT := canBeChosen_any (some ⟨gc, 0, none⟩) cs cs.length (some ⟨q, o, none⟩) ls cl w2 (by rw [Hcl.out]; exact a1) (by rw [Hcl.out]; exact Hll.out) hRc (hL.below (tr hb1 hb2) (Nat.le_refl _)) Hvv.out
  rw [Hcl.out] at hT
  refine hT.mono ?_
  rintro e w3 ⟨b, D, rfl, hbge, hown, hch, hb3⟩
  clear hT
  have hsz12 := tr hb1 hb2
  go_wp2_with fail
  go_call (commonSum_any b c0.length cs ls D w3 hown hch (fun j hj => Hvv.out j (by have := Hll.out; omega))) as e w4 ⟨hcp, hb4⟩
  rcases hbad with hbad | ⟨hL2, hL1, hbad⟩
  · have he := hcp.2 (by rw [← HLd.out]; omega)
    subst he
    clear hcp
    have hB := tr hsz12 (tr hb3 hb4)
    go_wp2
    go_ret2
    exact ⟨rfl, hB⟩
  · have he := hcp.1 (by rw [← HLd.out]; exact hL2)
    rw [← HLd.out] at he
    subst he
    clear hcp
    have hRc4 := hRc.below (tr hb3 hb4) (Nat.le_refl _)
    go_wp2_with fail
    have hT := total_any (some ⟨gc, 0, none⟩) cs cs.length w4 (by rw [Hcl.out]; exact a1) l2 hRc4
    rw [Hcl.out] at hT
    refine hT.mono ?_
    rintro e w5 ⟨rfl, hb5⟩
    clear hT
    have Hbad := Lib.hid hbad
    clear hbad
    go_wp2_with fail
    go_call (product_over (lsum cs) L w5 (by omega) hL1 (by have := Hbad.out; omega)) as e w' ⟨rfl, rfl⟩
    have hB := tr hsz12 (tr hb3 (tr hb4 hb5))
    go_wp2
    go_ret2
    exact ⟨rfl, hB⟩

set_option maxHeartbeats 2000000 in
theorem mix_any (p : Option Addr) (cs : List Int) (c : Nat) (q : Option Addr) (ls : List (List Int)) (cl : Nat) (w : World) (hl : cs.length ≤ 1000000) (hll : ls.length ≤ 1000000) (hx : ∀ k, k < ls.length → (nthL ls k).length ≤ 1000000) (hR : Reads w p cs) (hL : ReadsL w q ls) :
    Calls Try.prog 17 #[.slice p cs.length c, .slice q ls.length cl] w fun e w' => (∃ p' c', e = .returned (.tuple #[.slice p' (sMix cs ls).1.length c', .int .i64 (sMix cs ls).2]) ∧ Reads w' p' (sMix cs ls).1) ∧ Below w.heap.size w w' := by
  by_cases hz : chkM cs ls = 0
  · have hz' := hz
    unfold chkM at hz'
    have h0 : chk1 cs = 0 := by
      by_cases h : chk1 cs = 0
      · exact h
      · rw [if_pos h] at hz'; exact absurd hz' h
    rw [if_neg (by simpa using h0)] at hz'
    have h1 : ls.length = cs.length := by
      by_cases h : ls.length = cs.length
      · exact h
      · rw [if_pos h] at hz'; simp at hz'
    rw [if_neg (by simpa using h1)] at hz'
    have h2 : chkL ls = 0 := by
      by_cases h : chkL ls = 0
      · exact h
      · rw [if_pos h] at hz'; exact absurd hz' h
    rw [if_neg (by simpa using h2)] at hz'
    have h3 : lenBad ls = false := by
      cases h : lenBad ls with
      | false => rfl
      | true => rw [if_pos h] at hz'; simp at hz'
    have hpos : 1 ≤ ls.length := by
      have := (chk1_ok h0).2.2.1
      rcases cs with _ | ⟨x, r⟩
      · simp [lsum] at this
      · simp at h1; omega
    have hvv : ∀ j, j < ls.length → chk1 (nthL ls j) = 0 := fun j hj => chkL_each h2 hj
    obtain ⟨q0, o0, rfl, _⟩ := hL 0 (by omega)
    obtain ⟨a1, a2, a3, a4⟩ := chk1_ok h0
    have hcl : (low cs).length = cs.length := low_length cs
    have hlp := fun j (hj : j < cs.length) => low_facts (chk1_ok (hvv j (by omega))).2.1 (chk1_ok (hvv j (by omega))).2.2.1
    obtain ⟨L1, _, _⟩ := lcmTo_facts (cs := low cs) (ls := ls) (k := cs.length) fun j hj _ => (hlp j hj).2.2.1
    have hM := fun w (h : Reads w p cs) (h' : ReadsL w (some ⟨q0, o0, none⟩) ls) => checkMix_any p cs c (some ⟨q0, o0, none⟩) ls cl w hl hll hx h h'
    rw [hz] at hM
    by_cases hL2 : lcmTo (low cs) ls cs.length ≤ 1000000000000000
    · by_cases hCL : lsum (low cs) ≤ 1000000000000000 / lcmTo (low cs) ls cs.length
      · have e : sMix cs ls = (low (mixL (low cs) ls (nthL ls 0).length), 0) := by unfold sMix; rw [if_neg (by simpa using hz), if_neg (by simpa using hL2), if_neg (by simpa using hCL)]
        rw [e]
        refine (mix_ok p cs c q0 o0 ls cl w (nthL ls 0).length (chk1_ok (hvv 0 (by omega))).1 h1 hR hL h0 h2 (fun j hj => lenBad_false h3 hj) (low cs) rfl (lcmTo (low cs) ls cs.length) (by rw [hcl]) hL2 hCL hpos hvv).mono ?_
        rintro e w' ⟨g, rfl, hr, hb⟩
        refine ⟨⟨some ⟨g, 0, none⟩, (nthL ls 0).length, ?_, hr⟩, hb⟩
        have hlen : (low (mixL (low cs) ls (nthL ls 0).length)).length = (nthL ls 0).length := by rw [low_length]; exact tab_length _ _
        simp only [hlen]
      · have e : sMix cs ls = ([], 10) := by unfold sMix; rw [if_neg (by simpa using hz), if_neg (by simpa using hL2), if_pos hCL]
        rw [e]
        refine (mix_over p cs c q0 o0 ls cl w h1 hR hL h0 hM (low cs) rfl (lcmTo (low cs) ls cs.length) (by rw [hcl]) (.inr ⟨hL2, L1, hCL⟩) hvv).mono ?_
        rintro e w' ⟨rfl, hb⟩
        exact ⟨⟨none, 0, rfl, Reads.nil _ _⟩, hb⟩
    · have e : sMix cs ls = ([], 10) := by unfold sMix; rw [if_neg (by simpa using hz), if_pos hL2]
      rw [e]
      refine (mix_over p cs c q0 o0 ls cl w h1 hR hL h0 hM (low cs) rfl (lcmTo (low cs) ls cs.length) (by rw [hcl]) (.inl hL2) hvv).mono ?_
      rintro e w' ⟨rfl, hb⟩
      exact ⟨⟨none, 0, rfl, Reads.nil _ _⟩, hb⟩
  · have e : sMix cs ls = ([], chkM cs ls) := by unfold sMix; rw [if_pos hz]
    rw [e]
    have hM := checkMix_any p cs c q ls cl w hl hll hx hR hL
    obtain ⟨z, hzz⟩ : ∃ z, chkM cs ls = z := ⟨_, rfl⟩
    rw [hzz] at hz hM ⊢
    have hb' : (z != 0) = true := by simpa using hz
    clear hz hzz e
    go_enter Try.func17, Try.ntmps17
    go_wp2_with fail
    go_call hM as e w1 ⟨rfl, hb1⟩
    go_wp2
    go_ret2
    exact ⟨⟨none, 0, rfl, Reads.nil _ _⟩, hb1⟩
end Go.Proofs.Ytnpnnfbmnlgioaa

namespace Go.Proofs.Ytnpnnfbmnlgioaa
open Go.RowKit

theorem sMix_bad {cs : List Int} {ls : List (List Int)} {z : Int} (h : chkM cs ls = z) (hz : z ≠ 0) : sMix cs ls = ([], z) := by
  unfold sMix; rw [if_pos (by rw [h]; exact hz), h]
theorem chkM_1 {cs : List Int} {ls : List (List Int)} (h : chk1 cs ≠ 0) : chkM cs ls = chk1 cs := by unfold chkM; rw [if_pos h]
theorem chkM_2 {cs : List Int} {ls : List (List Int)} (h : chk1 cs = 0) (h1 : ls.length ≠ cs.length) : chkM cs ls = 2 := by unfold chkM; rw [if_neg (by simpa using h), if_pos h1]
theorem chkM_3 {cs : List Int} {ls : List (List Int)} (h : chk1 cs = 0) (h1 : ls.length = cs.length) (h2 : chkL ls ≠ 0) : chkM cs ls = chkL ls := by unfold chkM; rw [if_neg (by simpa using h), if_neg (by simpa using h1), if_pos h2]
theorem chkM_4 {cs : List Int} {ls : List (List Int)} (h : chk1 cs = 0) (h1 : ls.length = cs.length) (h2 : chkL ls = 0) (h3 : lenBad ls = true) : chkM cs ls = 2 := by unfold chkM; rw [if_neg (by simpa using h), if_neg (by simpa using h1), if_neg (by simpa using h2), if_pos h3]
theorem chkL_bad {ls : List (List Int)} (h : chkL ls ≠ 0) : ∃ k, k < ls.length ∧ chk1 (nthL ls k) ≠ 0 := by
  refine Classical.byContradiction fun hn => h (chkL_all fun k hk => Classical.byContradiction fun h1 => hn ⟨k, hk, h1⟩)
theorem lenBad_ex {ls : List (List Int)} (h : lenBad ls = true) : ∃ k, k < ls.length ∧ (nthL ls k).length ≠ (nthL ls 0).length := by
  unfold lenBad at h
  rw [List.any_eq_true] at h
  obtain ⟨j, hj, h1⟩ := h
  exact ⟨j, by simpa using hj, by simpa using h1⟩

theorem Hx_le {ls : List (List Int)} (h : Hid (∀ k, k < ls.length → (nthL ls k).length ≤ 1000000)) {k : Nat} (hk : k < ls.length) : (nthL ls k).length ≤ 1000000 := h.out k hk

end Go.Proofs.Ytnpnnfbmnlgioaa

namespace Go.Proofs.Ytnpnnfbmnlgioaa
open Go.RowKit

theorem lcmI_eq' {a b : Int} (ha : 1 ≤ a) (hb : 1 ≤ b) : a / (Int.gcd a b : Int) * b = lcmI a b := by
  have h := lcmI_eq hb ha
  rw [Int.gcd_comm] at h
  rw [Int.mul_comm, h]
  unfold lcmI
  rw [Int.lcm_comm]
theorem lcmTo_mono {cs : List Int} {ls : List (List Int)} {k n : Nat} (hk : k ≤ n) (h : ∀ j, j < n → 1 ≤ lsum (low (nthL ls j))) : lcmTo cs ls k ≤ lcmTo cs ls n := by
  obtain ⟨a1, a2, a3⟩ := lcmTo_facts (cs := cs) (ls := ls) (k := k) fun j hj _ => h j (by omega)
  obtain ⟨b1, b2, b3⟩ := lcmTo_facts (cs := cs) (ls := ls) (k := n) fun j hj _ => h j hj
  exact Int.le_of_dvd (by omega) (a3 _ fun j hj hp => b2 j (by omega) hp)
theorem lcmTo_dvd {cs : List Int} {ls : List (List Int)} {n j : Nat} (hj : j < n) (hp : 0 < nth cs j) (h : ∀ j, j < n → 1 ≤ lsum (low (nthL ls j))) : lsum (low (nthL ls j)) ∣ lcmTo cs ls n :=
  (lcmTo_facts (cs := cs) (ls := ls) (k := n) fun j hj _ => h j hj).2.1 j hj hp
end Go.Proofs.Ytnpnnfbmnlgioaa

namespace Go.Proofs.Ytnpnnfbmnlgioaa
open Go.RowKit
set_option linter.unusedVariables false

theorem row_drew {w : World} {B g n : Nat} {xs : List Int} (h : Row w B g n xs) : Row w.drew B g n xs := ⟨h.1, h.2.drew⟩
theorem reads_set {w : World} {q o g m : Nat} {v : Value} {xs : List Int} (hne : q ≠ g) (h : Reads w (some ⟨q, o, none⟩) xs) : Reads (w.setCell ⟨g, m, none⟩ v).drew (some ⟨q, o, none⟩) xs := fun k hk => by
  obtain ⟨q1, o1, e, hc⟩ := h k hk
  cases e
  refine ⟨q, o, rfl, ?_⟩
  show (w.setCell ⟨g, m, none⟩ v).cell? _ = _
  rw [World.cell?_of_block (Below.heap_setCell _ _ _ _ (by show q ≠ g; exact hne))]
  exact hc

end Go.Proofs.Ytnpnnfbmnlgioaa

namespace Go.Proofs.Ytnpnnfbmnlgioaa
open Go.RowKit

end Go.Proofs.Ytnpnnfbmnlgioaa

