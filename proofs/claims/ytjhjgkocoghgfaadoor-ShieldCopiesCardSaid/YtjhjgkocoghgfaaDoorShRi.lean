/-
  The reference of chapter 3: in how many marks two charts differ.
-/
import Derived.Test.YtjhjgkocoghgfaaDoorShDf
import Derived.Test.YtjhjgkocoghgfaaDoorShRd
namespace Go.Proofs.YtjhjgkocoghgfaaDoor
open Go Go.RowKit
set_option linter.unusedVariables false

set_option maxRecDepth 100000 in
set_option maxHeartbeats 4000000 in
theorem refOnes_any (x : Int) (hx : Fig x) (w : World) : Calls Tryd.prog 51 #[.int .i64 x] w fun e w' => e = .returned (.int .i64 (onesF x)) ∧ w' = w := by
  have hx0 := hx.1
  have hx1 := hx.2
  go_enter Tryd.func51, Tryd.ntmps51
  go_wp2
  go_ret
  refine ⟨congrArg Ending.returned (congrArg (Value.int IntKind.i64) ?_), rfl⟩
  clear hx0 hx1
  revert x
  exact figsAll (by decide +kernel)
set_option maxRecDepth 100000 in
set_option maxHeartbeats 4000000 in
theorem refDiffers_any (s c : List Int) (hS : Hid (s.length = 16)) (hC : Hid (c.length = 16)) (hs : Figs s) (hc : Figs c) (w : World) :
    Calls Tryd.prog 33 #[.agg (arr s), .agg (arr c)] w fun e w' => e = .returned (.int .i64 (difTo s c 16)) ∧ Below w.heap.size w w' := by
  have HFs := Lib.hid hs
  have HFc := Lib.hid hc
  have HB := Lib.hid (show Blk ((w.alloc (.cells (arr s) 24)).alloc (.cells (arr c) 24)) w.heap.size 24 (arr s) from (Blk.new _ _ _).alloc _)
  have HD := Lib.hid (show Blk ((w.alloc (.cells (arr s) 24)).alloc (.cells (arr c) 24)) (w.heap.size + 1) 24 (arr c) from newAt (by simp))
  have hb0 : Below w.heap.size w ((w.alloc (.cells (arr s) 24)).alloc (.cells (arr c) 24)) := ((Below.refl _ _).alloc (Nat.le_refl _) _).alloc (by simp) _
  clear hs hc
  go_enter Tryd.func33, Tryd.ntmps33
  go_wp2_with fail
  obtain ⟨W, hW⟩ : ∃ W, (w.alloc (.cells (arr s) 24)).alloc (.cells (arr c) 24) = W := ⟨_, rfl⟩
  rw [hW] at HB HD hb0 ⊢
  clear hW
  go_loopw [5, 6] (fun n i wr => ∃ k : Nat, k ≤ 16 ∧ i = .int .i64 k ∧ n = .int .i64 (difTo s c k) ∧ ∃ r, wr = W.drewN r) (fun _ i _ => 16 - (intOf i).toNat)
  case atStart => exact ⟨0, by omega, rfl, rfl, 0, rfl⟩
  case round =>
    obtain ⟨k, hk, rfl, rfl, r, rfl⟩ := hrel
    by_cases hlt : k < 16
    · have c1 : W.cell? ⟨w.heap.size, k, none⟩ = some (.int .i64 (nth s k)) := by rw [HB.out.cell k, arr_get (by rw [hS.out]; exact hlt)]
      have c2 : W.cell? ⟨w.heap.size + 1, k, none⟩ = some (.int .i64 (nth c k)) := by rw [HD.out.cell k, arr_get (by rw [hC.out]; exact hlt)]
      have hf := xorF_fig (HFs.out k hlt) (HFc.out k hlt)
      have ES := Lib.hid (show difTo s c (k + 1) = difTo s c k + onesF (xorF (nth s k) (nth c k)) from rfl)
      have hq := difTo_bd s c k
      have ho := onesF_bd (xorF (nth s k) (nth c k))
      have hX : xorF (nth s k) (nth c k) = bits BinOp.xor IntKind.i64 (nth s k) (nth c k) := rfl
      obtain ⟨X, hXX⟩ : ∃ X, xorF (nth s k) (nth c k) = X := ⟨_, rfl⟩
      rw [hXX] at hf ES ho hX
      obtain ⟨u, hu⟩ : ∃ u, nth s k = u := ⟨_, rfl⟩
      obtain ⟨v, hv⟩ : ∃ v, nth c k = v := ⟨_, rfl⟩
      rw [hu, hv] at hX
      rw [hu] at c1
      rw [hv] at c2
      obtain ⟨q, hqq⟩ : ∃ q, difTo s c k = q := ⟨_, rfl⟩
      rw [hqq] at hq ES ⊢
      obtain ⟨o, hoo⟩ : ∃ o, onesF X = o := ⟨_, rfl⟩
      have CO := Lib.hid (fun W => refOnes_any X hf W)
      rw [hoo] at ho ES CO
      have hX2 : bits BinOp.xor IntKind.i64 u v = X := hX.symm
      have hwq : IntKind.i64.wrap (q + o) = q + o := wraps_i64_62 _ (by omega) (by omega)
      clear hXX hu hv hqq hoo hX hf
      go_wp2_with fail
      go_quiet ((go_at_call 51; exact (CO.out _).mono fun _ _ ⟨h, h'⟩ => ⟨h, _, h'⟩))
      go_wp2_with fail
      go_roundw
      case rel => exact ⟨k + 1, by omega, by go_num, by rw [ES.out], _, by first | rfl | exact World.drewN_drewN ..⟩
      case measure => simp [intOf]; omega
    · obtain rfl : k = 16 := by omega
      go_wp2_with fail
      go_ret
      exact ⟨rfl, below_drewN hb0 r⟩
end Go.Proofs.YtjhjgkocoghgfaaDoor
