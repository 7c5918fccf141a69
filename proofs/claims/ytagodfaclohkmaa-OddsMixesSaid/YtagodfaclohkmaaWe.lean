/-
  What Mix of the reference returns: for any cases and lists.
-/
import Derived.Test.YtagodfaclohkmaaWd
namespace Go.Proofs.Ytagodfaclohkmaa
open Go.RowKit

theorem refMix_any (p : Option Addr) (cs : List Int) (c : Nat) (q : Option Addr) (ls : List (List Int)) (cl : Nat) (w : World) (hl : cs.length ≤ 1000000) (hll : ls.length ≤ 1000000) (hx : ∀ k, k < ls.length → (nthL ls k).length ≤ 1000000) (hR : Reads w p cs) (hL : ReadsL w q ls) :
    Calls Try.prog 52 #[.slice p cs.length c, .slice q ls.length cl] w fun e w' => (∃ p' c', e = .returned (.tuple #[.slice p' (sMix cs ls).1.length c', .int .i64 (sMix cs ls).2]) ∧ Reads w' p' (sMix cs ls).1) ∧ Below w.heap.size w w' := by
  have bad : ∀ z, chkM cs ls = z → z ≠ 0 → Calls Try.prog 52 #[.slice p cs.length c, .slice q ls.length cl] w (fun e w' => e = .returned (.tuple #[.slice none 0 0, .int .i64 (chkM cs ls)]) ∧ Below w.heap.size w w') → Calls Try.prog 52 #[.slice p cs.length c, .slice q ls.length cl] w fun e w' => (∃ p' c', e = .returned (.tuple #[.slice p' (sMix cs ls).1.length c', .int .i64 (sMix cs ls).2]) ∧ Reads w' p' (sMix cs ls).1) ∧ Below w.heap.size w w' := fun z hz hne h => by
    rw [sMix_bad hz hne]
    rw [hz] at h
    refine h.mono ?_
    rintro e w' ⟨rfl, hb⟩
    exact ⟨⟨none, 0, rfl, Reads.nil _ _⟩, hb⟩
  by_cases h0 : chk1 cs = 0
  · by_cases h1 : ls.length = cs.length
    · by_cases h2 : chkL ls = 0
      · by_cases h3 : lenBad ls = true
        · exact bad 2 (chkM_4 h0 h1 h2 h3) (by decide) (refMix_e4 p cs c q ls cl w hl hll hx hR hL h0 h1 h2 h3)
        · have h3' : lenBad ls = false := by simpa using h3
          obtain ⟨a1, a2, a3, a4⟩ := chk1_ok h0
          have hpos : 1 ≤ cs.length := by
            rcases cs with _ | ⟨x, r⟩
            · simp [lsum] at a3
            · simp
          have hz : chkM cs ls = 0 := by unfold chkM; rw [if_neg (by simpa using h0), if_neg (by simpa using h1), if_neg (by simpa using h2), if_neg h3]
          have hvv : ∀ j, j < cs.length → chk1 (nthL ls j) = 0 := fun j hj => chkL_each h2 (by omega)
          have hlen : ∀ j, j < cs.length → (nthL ls j).length = (nthL ls 0).length := fun j hj => lenBad_false h3' (by omega)
          obtain ⟨q0, o0, rfl, _⟩ := hL 0 (by omega)
          have hlp := fun j (hj : j < cs.length) => (low_facts (chk1_ok (hvv j hj)).2.1 (chk1_ok (hvv j hj)).2.2.1).2.2.1
          obtain ⟨L1, _, _⟩ := lcmTo_facts (cs := low cs) (ls := ls) (k := cs.length) fun j hj _ => hlp j hj
          have hd : lsum (low cs) ≤ 1000000000000000 / lcmTo (low cs) ls cs.length ↔ lsum (low cs) * lcmTo (low cs) ls cs.length ≤ 1000000000000000 := le_div L1
          have e1 : ¬ lcmTo (low cs) ls cs.length ≤ 1000000000000000 → sMix cs ls = ([], 10) := fun h => by unfold sMix; rw [if_neg (by simpa using hz), if_pos h]
          have e2 : lcmTo (low cs) ls cs.length ≤ 1000000000000000 → 1000000000000000 < lsum (low cs) * lcmTo (low cs) ls cs.length → sMix cs ls = ([], 10) := fun h h' => by unfold sMix; rw [if_neg (by simpa using hz), if_neg (by simpa using h), if_pos (fun h9 => by have := hd.1 h9; omega)]
          have e3 : lcmTo (low cs) ls cs.length ≤ 1000000000000000 → lsum (low cs) * lcmTo (low cs) ls cs.length ≤ 1000000000000000 → sMix cs ls = (low (mixL (low cs) ls (nthL ls 0).length), 0) := fun h h' => by unfold sMix; rw [if_neg (by simpa using hz), if_neg (by simpa using h), if_neg (by simpa using hd.2 h')]
          have h := refMix_main p cs c q0 o0 ls cl w cs.length (nthL ls 0).length rfl h1 hpos a1 (chk1_ok (hvv 0 (by omega))).1 hR hL h0 hvv hlen (low cs) rfl (lcmTo (low cs) ls cs.length) rfl (sMix cs ls).1 (sMix cs ls).2
            (fun h h' => by rw [e3 h h']; exact ⟨rfl, rfl⟩)
            (fun k hk hb => by
              have hm := lcmTo_mono (cs := low cs) hk hlp
              rw [e1 (by omega)]; exact ⟨rfl, rfl⟩)
            (fun h => by
              by_cases hL2 : lcmTo (low cs) ls cs.length ≤ 1000000000000000
              · rw [e2 hL2 h]; exact ⟨rfl, rfl⟩
              · rw [e1 hL2]; exact ⟨rfl, rfl⟩)
          rwa [← h1] at h ⊢
      · exact bad _ (chkM_3 h0 h1 h2) h2 (refMix_e3 p cs c q ls cl w hl hll hx hR hL h0 h1 h2)
    · exact bad 2 (chkM_2 h0 h1) (by decide) (refMix_e1 p cs c q ls cl w hl hll hR (.inr ⟨h0, h1⟩))
  · exact bad _ (chkM_1 h0) h0 (refMix_e1 p cs c q ls cl w hl hll hR (.inl h0))
end Go.Proofs.Ytagodfaclohkmaa
