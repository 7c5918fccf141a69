/-
  Package shield: in how many marks a copy differs from a chart.
-/
import Derived.Test.YthioojappmnnaaaDoorShCn
import Derived.Test.YthioojappmnnaaaDoorShMa
import Derived.Test.YthioojappmnnaaaDoorShS
namespace Go.Proofs.YthioojappmnnaaaDoor
open Go Go.RowKit
set_option linter.unusedVariables false

theorem figsAll {E F : Int → Int} (h : ∀ i : Fin 16, E i.val = F i.val) : ∀ x, Fig x → E x = F x := fun x hx => figs1 (P := fun x => E x = F x) h hx
set_option maxRecDepth 100000 in
set_option maxHeartbeats 4000000 in
theorem ones64_any (x : Int) (hx : Fig x) (w : World) : Calls Tryd.prog 33 #[.int .u64 x] w fun e w' => e = .returned (.int .i64 (onesF x)) ∧ w' = w := by
  have hx0 := hx.1
  have hx1 := hx.2
  go_enter Tryd.func33, Tryd.ntmps33
  go_wp2
  go_ret
  refine ⟨congrArg Ending.returned (congrArg (Value.int IntKind.i64) ?_), rfl⟩
  clear hx0 hx1
  revert x
  exact figsAll (by decide +kernel)
theorem onesCount_any (x : Int) (hx : Fig x) (w : World) : Calls Tryd.prog 29 #[.int .u64 x] w fun e w' => e = .returned (.int .i64 (onesF x)) ∧ w' = w := by
  have hx0 := hx.1
  have hx1 := hx.2
  go_enter Tryd.func29, Tryd.ntmps29
  go_wp2_with fail
  refine (ones64_any x hx _).mono ?_
  rintro e w2 ⟨rfl, rfl⟩
  go_wp2
  go_ret
  exact ⟨rfl, rfl⟩
/-- In how many marks the first places of two charts differ. -/
def difTo (s c : List Int) : Nat → Int
  | 0 => 0
  | k + 1 => difTo s c k + onesF (xorF (nth s k) (nth c k))
theorem onesF_bd (x : Int) : 0 ≤ onesF x ∧ onesF x ≤ 4 := by
  unfold onesF
  split <;> split <;> split <;> split <;> simp
theorem difTo_bd (s c : List Int) (k : Nat) : 0 ≤ difTo s c k ∧ difTo s c k ≤ 4 * k := by
  induction k with
  | zero => exact ⟨by simp [difTo], by simp [difTo]⟩
  | succ k ih =>
    have := onesF_bd (xorF (nth s k) (nth c k))
    unfold difTo
    omega
theorem u64_in' {x : Int} (h0 : 0 ≤ x) (h1 : x < 18446744073709551616) : IntKind.u64.wrap x = x := by
  simp [IntKind.wrap, IntKind.bits, IntKind.signed]
  omega
set_option maxRecDepth 100000 in
set_option maxHeartbeats 4000000 in
theorem differing_any (bs bc : Nat) (s c : List Int) (hS : Hid (s.length = 16)) (hC : Hid (c.length = 16)) (hs : Figs s) (hc : Figs c) (w : World) (hb : Blk w bs 33 (arr s)) (hd : Blk w bc 33 (arr c)) :
    Calls Tryd.prog 21 #[.pointer (some ⟨bs, 0, none⟩), .pointer (some ⟨bc, 0, none⟩)] w fun e w' => e = .returned (.int .i64 (difTo s c 16)) ∧ ∃ r, w' = w.drewN r := by
  have HFs := Lib.hid hs
  have HFc := Lib.hid hc
  have HB := Lib.hid hb
  have HD := Lib.hid hd
  clear hs hc hb hd
  go_enter Tryd.func21, Tryd.ntmps21
  go_wp2_with fail
  go_loopw [5, 9] (fun n i wr => ∃ k : Nat, k ≤ 16 ∧ i = .int .i64 k ∧ n = .int .i64 (difTo s c k) ∧ ∃ r, wr = w.drewN r) (fun _ i _ => 16 - (intOf i).toNat)
  case atStart => exact ⟨0, by omega, rfl, rfl, 0, rfl⟩
  case round =>
    obtain ⟨k, hk, rfl, rfl, r, rfl⟩ := hrel
    by_cases hlt : k < 16
    · have c1 : w.cell? ⟨bs, k, none⟩ = some (.int .i64 (nth s k)) := by rw [HB.out.cell k, arr_get (by rw [hS.out]; exact hlt)]
      have c2 : w.cell? ⟨bc, k, none⟩ = some (.int .i64 (nth c k)) := by rw [HD.out.cell k, arr_get (by rw [hC.out]; exact hlt)]
      have hf := xorF_fig (HFs.out k hlt) (HFc.out k hlt)
      have ES := Lib.hid (show difTo s c (k + 1) = difTo s c k + onesF (xorF (nth s k) (nth c k)) from rfl)
      have hq := difTo_bd s c k
      have ho := onesF_bd (xorF (nth s k) (nth c k))
      have hX : xorF (nth s k) (nth c k) = bits BinOp.xor IntKind.i64 (nth s k) (nth c k) := rfl
      obtain ⟨X, hXX⟩ : ∃ X, xorF (nth s k) (nth c k) = X := ⟨_, rfl⟩
      rw [hXX] at hf ES ho hX
      obtain ⟨u, hu⟩ : ∃ u, nth s k = u := ⟨_, rfl⟩
      obtain ⟨v, hv⟩ : ∃ v, nth c k = v := ⟨_, rfl⟩
      rw [hu, hv] at hX
      rw [hu] at c1
      rw [hv] at c2
      obtain ⟨q, hqq⟩ : ∃ q, difTo s c k = q := ⟨_, rfl⟩
      rw [hqq] at hq ES ⊢
      obtain ⟨o, hoo⟩ : ∃ o, onesF X = o := ⟨_, rfl⟩
      have CO := Lib.hid (fun W => onesCount_any X hf W)
      rw [hoo] at ho ES CO
      have hxw : IntKind.u64.wrap X = X := u64_in' hf.1 (by have := hf.2; omega)
      have hX2 : bits BinOp.xor IntKind.i64 u v = X := hX.symm
      have hwq : IntKind.i64.wrap (q + o) = q + o := wraps_i64_62 _ (by omega) (by omega)
      clear hXX hu hv hqq hoo hX hf
      go_wp2_with fail
      go_quiet (fail)
      go_wp2_with fail
      refine (CO.out _).mono ?_
      rintro e w3 ⟨rfl, rfl⟩
      go_wp2_with fail
      go_roundw
      case rel => exact ⟨k + 1, by omega, by go_num, by rw [ES.out], _, by first | rfl | exact World.drewN_drewN ..⟩
      case measure => simp [intOf]; omega
    · obtain rfl : k = 16 := by omega
      go_wp2_with fail
      go_ret
      exact ⟨rfl, r, rfl⟩
end Go.Proofs.YthioojappmnnaaaDoor
