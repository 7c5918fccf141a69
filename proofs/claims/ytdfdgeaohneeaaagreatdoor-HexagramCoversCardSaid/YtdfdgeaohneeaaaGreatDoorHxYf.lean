/-
  The reference of chapter 4: patterns and what they match.
-/
import Derived.Test.YtdfdgeaohneeaaaGreatDoorHxYb
import Derived.Test.YtdfdgeaohneeaaaGreatDoorHxRa
namespace Go.Proofs.YtdfdgeaohneeaaaGreatDoor
open Go Go.RowKit
set_option linter.unusedVariables false

/-- A sign of a pattern. -/
def okC (b : Nat) : Bool := b == 48 || b == 49 || b == 63
theorem cut_ok (b : UInt8) : cutL.contains b = okC b.toNat := by
  have h : ∀ i : Fin 256, cutL.contains (UInt8.ofFin i) = okC i.val := by decide +kernel
  exact h b.toFin
theorem noPat_no {s : ByteArray} (h : ∀ j, j < s.size → okC (byteAt s j) = true) : noPat s = (s.size != 6) := by
  unfold noPat
  have : (s.data.toList.all fun b => cutL.contains b) = true := by
    rw [List.all_eq_true]
    intro b hb
    obtain ⟨i, hi, rfl⟩ := List.getElem_of_mem hb
    rw [cut_ok]
    have h2 := h i (by simpa using hi)
    unfold byteAt at h2
    rwa [List.getD_eq_getElem?_getD, List.getElem?_eq_getElem hi] at h2
  rw [this]
  simp
theorem noPat_yes {s : ByteArray} {j : Nat} (hj : j < s.size) (h : okC (byteAt s j) = false) : noPat s = true := by
  unfold noPat
  have : (s.data.toList.all fun b => cutL.contains b) = false := by
    rw [List.all_eq_false]
    refine ⟨s.data.toList[j]'(by simpa using hj), List.getElem_mem _, ?_⟩
    rw [cut_ok]
    unfold byteAt at h
    rw [List.getD_eq_getElem?_getD, List.getElem?_eq_getElem (by simpa using hj)] at h
    simpa using h
  rw [this]
  simp
theorem okC_not {b : Nat} : okC b = false ↔ b ≠ 48 ∧ b ≠ 49 ∧ b ≠ 63 := by
  unfold okC
  simp [and_assoc]

set_option maxRecDepth 100000 in
set_option maxHeartbeats 1000000 in
theorem refPattern_any (s : ByteArray) (hs : s.size ≤ 9223372036854775807) (w : World) :
    Calls Tryz.prog 46 #[.string s] w fun e w' => e = .returned (.bool (!noPat s)) ∧ w' = w := by
  go_enter Tryz.func46, Tryz.ntmps46
  go_wp2
  go_loop [3] (fun i => ∃ k : Nat, k ≤ s.size ∧ i = .int .i64 k ∧ Hid (∀ j, j < k → okC (byteAt s j) = true)) (fun i => s.size - (intOf i).toNat)
  case atStart => exact ⟨0, by omega, rfl, fun j hj => by omega⟩
  case round =>
    obtain ⟨k, hk, rfl, HN⟩ := hrel
    by_cases hlt : k < s.size
    · have eb := byteAt_eq hlt
      by_cases h48 : s[k].toNat = 48
      · have HO := Lib.hid (show okC (byteAt s k) = true by rw [eb, h48]; rfl)
        have e1 : ((s[k].toNat : Int) != 48) = false := by simp; omega
        have e2 : ((s[k].toNat : Int) == 48) = true := by simp; omega
        clear eb h48
        go_wp2
        go_round
        case rel => exact ⟨k + 1, by omega, by go_num, fun j hj => by
          by_cases e : j = k
          · subst e; exact HO.out
          · exact HN.out j (by omega)⟩
        case measure => simp [intOf]; omega
      · by_cases h49 : s[k].toNat = 49
        · have HO := Lib.hid (show okC (byteAt s k) = true by rw [eb, h49]; rfl)
          have e1 : ((s[k].toNat : Int) != 48) = true := by simp; omega
          have e2 : ((s[k].toNat : Int) == 48) = false := by simp; omega
          have e3 : ((s[k].toNat : Int) != 49) = false := by simp; omega
          have e4 : ((s[k].toNat : Int) == 49) = true := by simp; omega
          clear eb h49 h48
          go_wp2
          go_round
          case rel => exact ⟨k + 1, by omega, by go_num, fun j hj => by
            by_cases e : j = k
            · subst e; exact HO.out
            · exact HN.out j (by omega)⟩
          case measure => simp [intOf]; omega
        · have e1 : ((s[k].toNat : Int) != 48) = true := by simp; omega
          have e2 : ((s[k].toNat : Int) == 48) = false := by simp; omega
          have e3 : ((s[k].toNat : Int) != 49) = true := by simp; omega
          have e4 : ((s[k].toNat : Int) == 49) = false := by simp; omega
          by_cases h63 : s[k].toNat = 63
          · have HO := Lib.hid (show okC (byteAt s k) = true by rw [eb, h63]; rfl)
            have e5 : ((s[k].toNat : Int) != 63) = false := by simp; omega
            have e6 : ((s[k].toNat : Int) == 63) = true := by simp; omega
            clear eb h49 h48 h63
            go_wp2
            go_round
            case rel => exact ⟨k + 1, by omega, by go_num, fun j hj => by
              by_cases e : j = k
              · subst e; exact HO.out
              · exact HN.out j (by omega)⟩
            case measure => simp [intOf]; omega
          · have e5 : ((s[k].toNat : Int) != 63) = true := by simp; omega
            have e6 : ((s[k].toNat : Int) == 63) = false := by simp; omega
            have HO := Lib.hid (noPat_yes hlt (by rw [eb]; exact okC_not.2 ⟨h48, h49, h63⟩))
            clear eb h49 h48 h63
            go_wp2
            go_ret
            exact ⟨by rw [HO.out]; rfl, rfl⟩
    · obtain rfl : k = s.size := by omega
      have HO := Lib.hid (noPat_no HN.out)
      by_cases h6 : s.size = 6
      · have e1 : ((s.size : Int) == 6) = true := by simp; omega
        have HO2 := Lib.hid (show noPat s = false by rw [HO.out]; simp [h6])
        clear h6
        go_wp2
        go_ret
        exact ⟨by rw [HO2.out]; rfl, rfl⟩
      · have e1 : ((s.size : Int) == 6) = false := by simp; omega
        have HO2 := Lib.hid (show noPat s = true by rw [HO.out]; simp [h6])
        clear h6
        go_wp2
        go_ret
        exact ⟨by rw [HO2.out]; rfl, rfl⟩
end Go.Proofs.YtdfdgeaohneeaaaGreatDoor
