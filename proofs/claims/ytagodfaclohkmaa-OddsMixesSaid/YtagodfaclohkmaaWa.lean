/-
  What Mix of package odds returns: for any cases and lists.
-/
import Derived.Test.YtagodfaclohkmaaVy
namespace Go.Proofs.Ytagodfaclohkmaa
open Go.RowKit Go.Maps

theorem chkL_each {ls : List (List Int)} (h : chkL ls = 0) {j : Nat} (hj : j < ls.length) : chk1 (nthL ls j) = 0 := by
  induction ls generalizing j with
  | nil => simp at hj
  | cons x r ih =>
    simp only [chkL] at h
    by_cases h1 : chk1 x = 0
    · rw [if_pos h1] at h
      cases j with
      | zero => exact h1
      | succ j => exact ih h (by simpa using hj)
    · rw [if_neg h1] at h; exact absurd h h1
/-- What Mix returns. -/
def sMix (cs : List Int) (ls : List (List Int)) : List Int × Int :=
  if chkM cs ls ≠ 0 then ([], chkM cs ls) else if ¬ lcmTo (low cs) ls cs.length ≤ 1000000000000000 then ([], 10) else if ¬ lsum (low cs) ≤ 1000000000000000 / lcmTo (low cs) ls cs.length then ([], 10) else (low (mixL (low cs) ls (nthL ls 0).length), 0)

set_option maxHeartbeats 2000000 in
theorem mix_over (p : Option Addr) (c0 : List Int) (c : Nat) (q o : Nat) (ls : List (List Int)) (cl : Nat) (w : World) (hll : ls.length = c0.length) (hR : Reads w p c0) (hL : ReadsL w (some ⟨q, o, none⟩) ls) (h0 : chk1 c0 = 0)
    (hM : ∀ w, Reads w p c0 → ReadsL w (some ⟨q, o, none⟩) ls → Calls Try.prog 82 #[.slice p c0.length c, .slice (some ⟨q, o, none⟩) ls.length cl] w fun e w' => e = .returned (.int .i64 0) ∧ Below w.heap.size w w')
    (cs : List Int) (hcs : cs = low c0) (L : Int) (hLd : L = lcmTo cs ls cs.length) (hbad : ¬ L ≤ 1000000000000000 ∨ (L ≤ 1000000000000000 ∧ 1 ≤ L ∧ ¬ lsum cs ≤ 1000000000000000 / L)) (hvv : ∀ j, j < ls.length → chk1 (nthL ls j) = 0) :
    Calls Try.prog 51 #[.slice p c0.length c, .slice (some ⟨q, o, none⟩) ls.length cl] w fun e w' => e = .returned (.tuple #[.slice none 0 0, .int .i64 10]) ∧ Below w.heap.size w w' := by
  obtain ⟨a1, a2, a3, a4⟩ := chk1_ok h0
  obtain ⟨l1, l2, l3, l4⟩ := low_facts a2 a3
  rw [← hcs] at l2 l3 l4
  have hcl : cs.length = c0.length := by rw [hcs, low_length]
  rw [hcl] at hLd
  have Hvv := Lib.hid hvv
  have Hcs : Hid (c0.map (· / gcdl c0) = cs) := hcs.symm
  have Hcl := Lib.hid hcl
  have Hll := Lib.hid hll
  have HLd := Lib.hid hLd
  clear h0 hcs hcl hll hLd hvv
  go_enter Try.func51, Try.ntmps51
  go_wp2_with fail
  go_call (hM w hR hL) as e w1 ⟨rfl, hb1⟩
  go_wp2_with fail
  go_call (lowest_any p c0 c w1 a1 a2 l1 (hR.below hb1 (Nat.le_refl _))) as e w2 ⟨gc, rfl, hrowc, hb2⟩
  rw [Hcs.out] at hrowc
  have hRc := hrowc.reads
  go_wp2_with fail
  have hT := canBeChosen_any (some ⟨gc, 0, none⟩) cs cs.length (some ⟨q, o, none⟩) ls cl w2 (by rw [Hcl.out]; exact a1) (by rw [Hcl.out]; exact Hll.out) hRc (hL.below (tr hb1 hb2) (Nat.le_refl _)) Hvv.out
  rw [Hcl.out] at hT
  refine hT.mono ?_
  rintro e w3 ⟨b, D, rfl, hbge, hown, hch, hb3⟩
  clear hT
  have hsz12 := tr hb1 hb2
  go_wp2_with fail
  go_call (commonSum_any b c0.length cs ls D w3 hown hch (fun j hj => Hvv.out j (by have := Hll.out; omega))) as e w4 ⟨hcp, hb4⟩
  rcases hbad with hbad | ⟨hL2, hL1, hbad⟩
  · have he := hcp.2 (by rw [← HLd.out]; omega)
    subst he
    clear hcp
    have hB := tr hsz12 (tr hb3 hb4)
    go_wp2
    go_ret2
    exact ⟨rfl, hB⟩
  · have he := hcp.1 (by rw [← HLd.out]; exact hL2)
    rw [← HLd.out] at he
    subst he
    clear hcp
    have hRc4 := hRc.below (tr hb3 hb4) (Nat.le_refl _)
    go_wp2_with fail
    have hT := total_any (some ⟨gc, 0, none⟩) cs cs.length w4 (by rw [Hcl.out]; exact a1) l2 hRc4
    rw [Hcl.out] at hT
    refine hT.mono ?_
    rintro e w5 ⟨rfl, hb5⟩
    clear hT
    have Hbad := Lib.hid hbad
    clear hbad
    go_wp2_with fail
    go_call (product_over (lsum cs) L w5 (by omega) hL1 (by have := Hbad.out; omega)) as e w' ⟨rfl, rfl⟩
    have hB := tr hsz12 (tr hb3 (tr hb4 hb5))
    go_wp2
    go_ret2
    exact ⟨rfl, hB⟩

set_option maxHeartbeats 2000000 in
theorem mix_any (p : Option Addr) (cs : List Int) (c : Nat) (q : Option Addr) (ls : List (List Int)) (cl : Nat) (w : World) (hl : cs.length ≤ 1000000) (hll : ls.length ≤ 1000000) (hx : ∀ k, k < ls.length → (nthL ls k).length ≤ 1000000) (hR : Reads w p cs) (hL : ReadsL w q ls) :
    Calls Try.prog 51 #[.slice p cs.length c, .slice q ls.length cl] w fun e w' => (∃ p' c', e = .returned (.tuple #[.slice p' (sMix cs ls).1.length c', .int .i64 (sMix cs ls).2]) ∧ Reads w' p' (sMix cs ls).1) ∧ Below w.heap.size w w' := by
  by_cases hz : chkM cs ls = 0
  · have hz' := hz
    unfold chkM at hz'
    have h0 : chk1 cs = 0 := by
      by_cases h : chk1 cs = 0
      · exact h
      · rw [if_pos h] at hz'; exact absurd hz' h
    rw [if_neg (by simpa using h0)] at hz'
    have h1 : ls.length = cs.length := by
      by_cases h : ls.length = cs.length
      · exact h
      · rw [if_pos h] at hz'; simp at hz'
    rw [if_neg (by simpa using h1)] at hz'
    have h2 : chkL ls = 0 := by
      by_cases h : chkL ls = 0
      · exact h
      · rw [if_pos h] at hz'; exact absurd hz' h
    rw [if_neg (by simpa using h2)] at hz'
    have h3 : lenBad ls = false := by
      cases h : lenBad ls with
      | false => rfl
      | true => rw [if_pos h] at hz'; simp at hz'
    have hpos : 1 ≤ ls.length := by
      have := (chk1_ok h0).2.2.1
      rcases cs with _ | ⟨x, r⟩
      · simp [lsum] at this
      · simp at h1; omega
    have hvv : ∀ j, j < ls.length → chk1 (nthL ls j) = 0 := fun j hj => chkL_each h2 hj
    obtain ⟨q0, o0, rfl, _⟩ := hL 0 (by omega)
    obtain ⟨a1, a2, a3, a4⟩ := chk1_ok h0
    have hcl : (low cs).length = cs.length := low_length cs
    have hlp := fun j (hj : j < cs.length) => low_facts (chk1_ok (hvv j (by omega))).2.1 (chk1_ok (hvv j (by omega))).2.2.1
    obtain ⟨L1, _, _⟩ := lcmTo_facts (cs := low cs) (ls := ls) (k := cs.length) fun j hj _ => (hlp j hj).2.2.1
    have hM := fun w (h : Reads w p cs) (h' : ReadsL w (some ⟨q0, o0, none⟩) ls) => checkMix_any p cs c (some ⟨q0, o0, none⟩) ls cl w hl hll hx h h'
    rw [hz] at hM
    by_cases hL2 : lcmTo (low cs) ls cs.length ≤ 1000000000000000
    · by_cases hCL : lsum (low cs) ≤ 1000000000000000 / lcmTo (low cs) ls cs.length
      · have e : sMix cs ls = (low (mixL (low cs) ls (nthL ls 0).length), 0) := by unfold sMix; rw [if_neg (by simpa using hz), if_neg (by simpa using hL2), if_neg (by simpa using hCL)]
        rw [e]
        refine (mix_ok p cs c q0 o0 ls cl w (nthL ls 0).length (chk1_ok (hvv 0 (by omega))).1 h1 hR hL h0 h2 (fun j hj => lenBad_false h3 hj) (low cs) rfl (lcmTo (low cs) ls cs.length) (by rw [hcl]) hL2 hCL hpos hvv).mono ?_
        rintro e w' ⟨g, rfl, hr, hb⟩
        refine ⟨⟨some ⟨g, 0, none⟩, (nthL ls 0).length, ?_, hr⟩, hb⟩
        have hlen : (low (mixL (low cs) ls (nthL ls 0).length)).length = (nthL ls 0).length := by rw [low_length]; exact tab_length _ _
        simp only [hlen]
      · have e : sMix cs ls = ([], 10) := by unfold sMix; rw [if_neg (by simpa using hz), if_neg (by simpa using hL2), if_pos hCL]
        rw [e]
        refine (mix_over p cs c q0 o0 ls cl w h1 hR hL h0 hM (low cs) rfl (lcmTo (low cs) ls cs.length) (by rw [hcl]) (.inr ⟨hL2, L1, hCL⟩) hvv).mono ?_
        rintro e w' ⟨rfl, hb⟩
        exact ⟨⟨none, 0, rfl, Reads.nil _ _⟩, hb⟩
    · have e : sMix cs ls = ([], 10) := by unfold sMix; rw [if_neg (by simpa using hz), if_pos hL2]
      rw [e]
      refine (mix_over p cs c q0 o0 ls cl w h1 hR hL h0 hM (low cs) rfl (lcmTo (low cs) ls cs.length) (by rw [hcl]) (.inl hL2) hvv).mono ?_
      rintro e w' ⟨rfl, hb⟩
      exact ⟨⟨none, 0, rfl, Reads.nil _ _⟩, hb⟩
  · have e : sMix cs ls = ([], chkM cs ls) := by unfold sMix; rw [if_pos hz]
    rw [e]
    have hM := checkMix_any p cs c q ls cl w hl hll hx hR hL
    obtain ⟨z, hzz⟩ : ∃ z, chkM cs ls = z := ⟨_, rfl⟩
    rw [hzz] at hz hM ⊢
    have hb' : (z != 0) = true := by simpa using hz
    clear hz hzz e
    go_enter Try.func51, Try.ntmps51
    go_wp2_with fail
    go_call hM as e w1 ⟨rfl, hb1⟩
    go_wp2
    go_ret2
    exact ⟨⟨none, 0, rfl, Reads.nil _ _⟩, hb1⟩
end Go.Proofs.Ytagodfaclohkmaa
