/-
  The reference of chapter 3: sets; how many charts have figures of sets.
-/
import Derived.Test.YtjhjgkocoghgfaaDoorShRd
import Derived.Test.YtjhjgkocoghgfaaDoorShMa
import Derived.Test.YtjhjgkocoghgfaaDoorShCn
import Derived.Test.YtjhjgkocoghgfaaDoorShCh
namespace Go.Proofs.YtjhjgkocoghgfaaDoor
open Go Go.RowKit
set_option linter.unusedVariables false

set_option maxRecDepth 100000 in
set_option maxHeartbeats 2000000 in
theorem refSets_any (S : List Int) (hS : Hid (S.length = 16)) (w : World) :
    Calls Tryd.prog 15 #[.agg (arr S)] w fun e w' => e = .returned (.bool (!anyB (outB 0 65535) S)) ∧ Below w.heap.size w w' := by
  have HB := Lib.hid (Blk.new w 39 (arr S))
  have hb0 : Below w.heap.size w (w.alloc (.cells (arr S) 39)) := below1 _ _
  go_enter Tryd.func15, Tryd.ntmps15
  go_wp2_with fail
  obtain ⟨W, hW⟩ : ∃ W, w.alloc (.cells (arr S) 39) = W := ⟨_, rfl⟩
  rw [hW] at HB hb0 ⊢
  clear hW
  go_loopw [3] (fun i wr => ∃ k : Nat, k ≤ 16 ∧ i = .int .i64 k ∧ Hid (∀ j, j < k → outB 0 65535 (nth S j) = false) ∧ ∃ r, wr = W.drewN r) (fun i _ => 16 - (intOf i).toNat)
  case atStart => exact ⟨0, by omega, rfl, (fun j hj => by omega), 0, rfl⟩
  case round =>
    obtain ⟨k, hk, rfl, HN, r, rfl⟩ := hrel
    by_cases hlt : k < 16
    · have hc : W.cell? ⟨w.heap.size, k, none⟩ = some (.int .i64 (nth S k)) := by rw [HB.out.cell k, arr_get (by rw [hS.out]; exact hlt)]
      obtain ⟨v, hv⟩ : ∃ v, nth S k = v := ⟨_, rfl⟩
      have HV := Lib.hid hv
      rw [hv] at hc
      clear hv
      by_cases h1 : v < 0
      · have E := Lib.hid (anyB_true (f := outB 0 65535) (xs := S) (k := k) (by rw [hS.out]; exact hlt) (by rw [HV.out]; simp [outB]; omega))
        go_wp2_with fail
        go_ret
        exact ⟨by rw [E.out]; rfl, below_drewN hb0 r⟩
      · by_cases h2 : 65535 < v
        · have E := Lib.hid (anyB_true (f := outB 0 65535) (xs := S) (k := k) (by rw [hS.out]; exact hlt) (by rw [HV.out]; simp [outB]; omega))
          go_wp2_with fail
          go_ret
          exact ⟨by rw [E.out]; rfl, below_drewN hb0 r⟩
        · have HT := Lib.hid (show outB 0 65535 (nth S k) = false by rw [HV.out]; simp [outB]; omega)
          go_wp2_with fail
          go_roundw
          case rel => exact ⟨k + 1, by omega, by go_num, (fun j hj => by rcases (by omega : j < k ∨ j = k) with h | rfl; exact HN.out j h; exact HT.out), r, rfl⟩
          case measure => simp [intOf]; omega
    · obtain rfl : k = 16 := by omega
      have E := Lib.hid (anyB_false (f := outB 0 65535) (xs := S) (fun j hj => HN.out j (by rw [hS.out] at hj; exact hj)))
      go_wp2_with fail
      go_ret
      exact ⟨by rw [E.out]; rfl, below_drewN hb0 r⟩
end Go.Proofs.YtjhjgkocoghgfaaDoor
