/-
  What Outcomes of the reference returns.
-/
import Derived.Test.YtagodfaclohkmaaVe
namespace Go.Proofs.Ytagodfaclohkmaa
open Go.RowKit

set_option maxRecDepth 100000 in
set_option maxHeartbeats 1500000 in
theorem refOutcomes_any (p : Option Addr) (os : List Int) (c : Nat) (n : Nat) (w : World) (hl : os.length ≤ 1000000000000000) (_hn : n ≤ 1000000000000000) (hR : Reads w p os) :
    Calls Try.prog 62 #[.slice p os.length c, .int .i64 n] w fun e w' => e = .returned (.bool (asc n os)) ∧ Below w.heap.size w w' := by
  obtain ⟨D, hD⟩ : ∃ D, asc n os = D := ⟨_, rfl⟩
  rw [hD]
  have Ht : Hid ((∀ k, k < os.length → badO n os k = false) → D = true) := fun h => by rw [← hD]; exact asc_true h
  have Hf : Hid (∀ k, k < os.length → badO n os k = true → D = false) := fun k hk h => by rw [← hD]; exact asc_false hk h
  clear hD
  go_enter Try.func62, Try.ntmps62
  go_wp2
  go_loopw [5] (fun i wr => ∃ k : Nat, k ≤ os.length ∧ i = .int .i64 k ∧ Hid (∀ i, i < k → badO n os i = false ∧ 0 ≤ nth os i) ∧ Below w.heap.size w wr) (fun i _ => os.length - (intOf i).toNat)
  case atStart => exact ⟨0, Nat.zero_le _, rfl, (fun i hi => by omega), Below.refl _ _⟩
  case round =>
    obtain ⟨k, hk, rfl, Hn, hb⟩ := hrel
    by_cases hlt : k < os.length
    · obtain ⟨q, o, rfl, hcell⟩ := hR.below hb (Nat.le_refl _) k hlt
      have hki : (k : Int) < (os.length : Int) := by omega
      rcases k with _ | m
      · have hp : prevO os 0 = -1 := rfl
        have hcell : wr.cell? ⟨q, o, none⟩ = some (.int .i64 (nth os 0)) := hcell
        by_cases x1 : nth os 0 < 0
        · have Hd : Hid (D = false) := Hf.out 0 hlt (by simp [badO, hp]; omega)
          have d1 : decide (nth os 0 < 0) = true := by simp <;> omega
          have E := Lib.hid d1
          clear hp d1
          go_wp2
          have d1 := E.out
          go_quiet (fail)
          clear d1
          go_wp2
          go_returns
          exact ⟨by rw [Hd.out]; rfl, below_drewN hb _⟩
        · by_cases x2 : (n : Int) ≤ nth os 0
          · have Hd : Hid (D = false) := Hf.out 0 hlt (by simp [badO, hp]; omega)
            have d1 : decide (nth os 0 < 0) = false := by simp <;> omega
            have d2 : decide ((n : Int) ≤ nth os 0) = true := by simp <;> omega
            have E := Lib.hid (And.intro d1 d2)
            clear hp d1 d2
            go_wp2
            obtain ⟨d1, d2⟩ := E.out
            go_quiet (fail)
            clear d1 d2
            go_wp2
            go_returns
            exact ⟨by rw [Hd.out]; rfl, below_drewN hb _⟩
          · have Hn1 : Hid (∀ i, i < 0 + 1 → badO n os i = false ∧ 0 ≤ nth os i) := fun i hi => by
              obtain rfl : i = 0 := by omega
              exact ⟨by simp [badO, hp]; omega, by omega⟩
            have d1 : decide (nth os 0 < 0) = false := by simp <;> omega
            have d2 : decide ((n : Int) ≤ nth os 0) = false := by simp <;> omega
            have E := Lib.hid (And.intro d1 d2)
            clear hp d1 d2
            go_wp2
            obtain ⟨d1, d2⟩ := E.out
            go_quiet (fail)
            clear d1 d2
            go_wp2
            go_roundw
            case rel => exact ⟨0 + 1, by omega, by go_num, Hn1, below_drewN hb _⟩
            case measure => simp [intOf]; omega
      · obtain ⟨q', o', hqq, hcell0⟩ := hR.below hb (Nat.le_refl _) m (by omega)
        cases hqq
        have hp : prevO os (m + 1) = nth os m := prevO_succ os m
        have hpos := (Hn.out m (by omega)).2
        have e1 : IntKind.i64.wrap ((m : Int) + 1 - 1) = (m : Int) := by rw [Int.add_sub_cancel]; exact IntWalk.i64_in _ (by omega)
        have hm1 : ((m : Int) + 1).toNat = m + 1 := by omega
        have hmi : (m : Int) < (os.length : Int) := by omega
        have hki2 : (m : Int) + 1 < (os.length : Int) := by omega
        have hpos2 : (0 : Int) < (m : Int) + 1 := by omega
        have E1 := Lib.hid e1
        clear e1
        by_cases x1 : nth os (m + 1) < 0
        · have Hd : Hid (D = false) := Hf.out (m + 1) hlt (by simp [badO, hp]; omega)
          clear hpos
          have d1 : decide (nth os (m + 1) < 0) = true := by simp <;> omega
          have E := Lib.hid d1
          clear hp d1
          go_wp2
          have d1 := E.out
          go_quiet (fail)
          clear d1
          go_wp2
          go_returns
          exact ⟨by rw [Hd.out]; rfl, below_drewN hb _⟩
        · by_cases x2 : (n : Int) ≤ nth os (m + 1)
          · have Hd : Hid (D = false) := Hf.out (m + 1) hlt (by simp [badO, hp]; omega)
            clear hpos
            have d1 : decide (nth os (m + 1) < 0) = false := by simp <;> omega
            have d2 : decide ((n : Int) ≤ nth os (m + 1)) = true := by simp <;> omega
            have E := Lib.hid (And.intro d1 d2)
            clear hp d1 d2
            go_wp2
            obtain ⟨d1, d2⟩ := E.out
            go_quiet (fail)
            clear d1 d2
            go_wp2
            go_returns
            exact ⟨by rw [Hd.out]; rfl, below_drewN hb _⟩
          · by_cases x3 : nth os (m + 1) ≤ nth os m
            · have Hd : Hid (D = false) := Hf.out (m + 1) hlt (by simp [badO, hp]; omega)
              clear hpos
              have d1 : decide (nth os (m + 1) < 0) = false := by simp <;> omega
              have d2 : decide ((n : Int) ≤ nth os (m + 1)) = false := by simp <;> omega
              have d3 : decide ((0 : Int) < (m : Int) + 1) = true := by simp <;> omega
              have d4 : decide (nth os (m + 1) ≤ nth os m) = true := by simp <;> omega
              have E := Lib.hid (And.intro d1 (And.intro d2 (And.intro d3 d4)))
              clear hp d1 d2 d3 d4
              go_wp2
              obtain ⟨d1, d2, d3, d4⟩ := E.out
              have e1 := E1.out
              go_quiet (fail)
              clear d1 d2 d3 d4 e1
              go_wp2
              go_returns
              exact ⟨by rw [Hd.out]; rfl, below_drewN hb _⟩
            · have Hn1 : Hid (∀ i, i < m + 1 + 1 → badO n os i = false ∧ 0 ≤ nth os i) := fun i hi => by
                by_cases e : i = m + 1
                · subst e; exact ⟨by simp [badO, hp]; omega, by omega⟩
                · exact Hn.out i (by omega)
              clear hpos
              have d1 : decide (nth os (m + 1) < 0) = false := by simp <;> omega
              have d2 : decide ((n : Int) ≤ nth os (m + 1)) = false := by simp <;> omega
              have d3 : decide ((0 : Int) < (m : Int) + 1) = true := by simp <;> omega
              have d4 : decide (nth os (m + 1) ≤ nth os m) = false := by simp <;> omega
              have E := Lib.hid (And.intro d1 (And.intro d2 (And.intro d3 d4)))
              clear hp d1 d2 d3 d4
              go_wp2
              obtain ⟨d1, d2, d3, d4⟩ := E.out
              have e1 := E1.out
              go_quiet (fail)
              clear d1 d2 d3 d4 e1
              go_wp2
              go_roundw
              case rel => exact ⟨m + 1 + 1, by omega, by go_num, Hn1, below_drewN hb _⟩
              case measure => simp [intOf]; omega
    · obtain rfl : k = os.length := by omega
      have Hd : Hid (D = true) := Ht.out (fun i hi => (Hn.out i hi).1)
      go_wp2
      go_returns
      exact ⟨by rw [Hd.out]; rfl, hb⟩
end Go.Proofs.Ytagodfaclohkmaa
