/-
  Package hexagram: sets with a line turned; whether a pattern can be greater.
-/
import Derived.Test.YtojlopfjhhiilaaGreatDoorHxG
namespace Go.Proofs.YtojlopfjhhiilaaGreatDoor
open Go Go.RowKit
set_option linter.unusedVariables false

/-- Whether a set lies in another one. -/
def withinB (x y : Int) : Bool := bits BinOp.andNot IntKind.u64 x y == 0
set_option maxHeartbeats 400000 in
theorem within_any (x y : Int) (w : World) :
    Calls Tryz.prog 50 #[.int .u64 x, .int .u64 y] w fun e w' => e = .returned (.bool (withinB x y)) ∧ w = w' := by
  go_enter Tryz.func50, Tryz.ntmps50
  go_wp2
  go_ret
  exact ⟨rfl, rfl⟩
/-- A set with a line turned. -/
def turnedV (s : Int) (l : Nat) : Int := bits BinOp.or IntKind.u64 (bits BinOp.and IntKind.u64 s (nth firmL l) / 2 ^ (2 ^ l)) (IntKind.u64.wrap (bits BinOp.andNot IntKind.u64 s (nth firmL l) * 2 ^ (2 ^ l)))
set_option maxHeartbeats 1000000 in
theorem turnedIn_any (s : Int) (l : Nat) (hl : l < 6) (w : World) (hf : Fst w) :
    Calls Tryz.prog 78 #[.int .u64 s, .int .i64 l] w fun e w' => e = .returned (.int .u64 (turnedV s l)) ∧ ∃ r, w' = w.drewN r := by
  have hc := hf l hl
  obtain ⟨f, hF⟩ : ∃ f, nth firmL l = f := ⟨_, rfl⟩
  unfold turnedV
  rw [hF] at hc ⊢
  clear hF hf
  have : l = 0 ∨ l = 1 ∨ l = 2 ∨ l = 3 ∨ l = 4 ∨ l = 5 := by omega
  rcases this with rfl | rfl | rfl | rfl | rfl | rfl
  all_goals
    go_enter Tryz.func78, Tryz.ntmps78
    go_wp2
    go_quiet (fail)
    go_wp2
    go_quiet (fail)
    go_wp2
    go_ret
    exact ⟨by first | rfl | simp, _, by first | rfl | exact World.drewN_drewN ..⟩

/-- Whether some line more may be as it likes. -/
def growB (p : ByteArray) (own set : Int) (l : Nat) : Bool := byteAt p l != 63 && withinB (turnedV own l) set
def growsB (p : ByteArray) (own set : Int) : Bool := (List.range 6).any (growB p own set)
theorem growsB_yes {p : ByteArray} {own set : Int} {k : Nat} (hk : k < 6) (h : growB p own set k = true) : growsB p own set = true := by
  unfold growsB
  rw [List.any_eq_true]
  exact ⟨k, by simpa using hk, h⟩
theorem growsB_no {p : ByteArray} {own set : Int} (h : ∀ j, j < 6 → growB p own set j = false) : growsB p own set = false := by
  unfold growsB
  rw [List.any_eq_false]
  intro j hj
  rw [h j (by simpa using hj)]
  simp
set_option maxHeartbeats 1000000 in
theorem grows_any (p : ByteArray) (own set : Int) (hp : p.size = 6) (w : World) (hf : Fst w) :
    Calls Tryz.prog 51 #[.string p, .int .u64 own, .int .u64 set] w fun e w' => e = .returned (.bool (growsB p own set)) ∧ ∃ r, w' = w.drewN r := by
  have h6 : 6 ≤ p.size := by omega
  have h7 : p.size ≤ 6 := by omega
  clear hp
  go_enter Tryz.func51, Tryz.ntmps51
  go_wp2
  go_loopw [8] (fun i wr => ∃ k : Nat, k ≤ 6 ∧ i = .int .i64 k ∧ Hid (∀ j, j < k → growB p own set j = false) ∧ ∃ r, wr = w.drewN r) (fun i _ => 6 - (intOf i).toNat)
  case atStart => exact ⟨0, by omega, rfl, fun j hj => by omega, 0, rfl⟩
  case round =>
    obtain ⟨k, hk, rfl, HN, r, rfl⟩ := hrel
    by_cases hlt : k < 6
    · have hkp : k < p.size := by omega
      have eb := byteAt_eq hkp
      by_cases hq : p[k].toNat = 63
      · have e1 : ((p[k].toNat : Int) != 63) = false := by simp; omega
        have e2 : ((p[k].toNat : Int) == 63) = true := by simp; omega
        have HG := Lib.hid (show growB p own set k = false by unfold growB; rw [eb, hq]; rfl)
        clear eb hq
        go_wp2
        go_roundw
        case rel => exact ⟨k + 1, by omega, by go_num, fun j hj => by
          by_cases e : j = k
          · subst e; exact HG.out
          · exact HN.out j (by omega), r, rfl⟩
        case measure => simp [intOf]; omega
      · have e1 : ((p[k].toNat : Int) != 63) = true := by simp; omega
        have e2 : ((p[k].toNat : Int) == 63) = false := by simp; omega
        have EG := Lib.hid (show growB p own set k = withinB (turnedV own k) set by unfold growB; rw [eb]; simp [hq])
        clear eb hq
        cases hw : withinB (turnedV own k) set
        · have HW := Lib.hid hw
          have HG := Lib.hid (EG.out.trans hw)
          clear hw EG
          go_wp2_with fail
          refine (turnedIn_any own k hlt _ (show Fst (w.drewN r) from hf)).mono ?_
          rintro e w' ⟨rfl, r2, rfl⟩
          go_wp2_with fail
          refine (within_any _ _ _).mono ?_
          rintro e w' ⟨rfl, rfl⟩
          rw [HW.out]
          go_wp2
          go_roundw
          case rel => exact ⟨k + 1, by omega, by go_num, fun j hj => by
            by_cases e : j = k
            · subst e; exact HG.out
            · exact HN.out j (by omega), _, rfl⟩
          case measure => simp [intOf]; omega
        · have HW := Lib.hid hw
          have HG := Lib.hid (growsB_yes hlt (EG.out.trans hw))
          clear hw EG
          go_wp2_with fail
          refine (turnedIn_any own k hlt _ (show Fst (w.drewN r) from hf)).mono ?_
          rintro e w' ⟨rfl, r2, rfl⟩
          go_wp2_with fail
          refine (within_any _ _ _).mono ?_
          rintro e w' ⟨rfl, rfl⟩
          rw [HW.out]
          go_wp2
          go_ret
          exact ⟨by rw [HG.out]; rfl, _, rfl⟩
    · obtain rfl : k = 6 := by omega
      have HG := Lib.hid (growsB_no HN.out)
      go_wp2
      go_ret
      exact ⟨by rw [HG.out]; rfl, r, rfl⟩
end Go.Proofs.YtojlopfjhhiilaaGreatDoor
