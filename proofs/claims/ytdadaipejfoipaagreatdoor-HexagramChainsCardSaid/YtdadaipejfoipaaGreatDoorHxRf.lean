/-
  The reference of chapter 4: the chain of a hexagram.
-/
import Derived.Test.YtdadaipejfoipaaGreatDoorHxRe
namespace Go.Proofs.YtdadaipejfoipaaGreatDoor
open Go Go.RowKit
set_option linter.unusedVariables false

set_option maxRecDepth 100000 in
set_option maxHeartbeats 2000000 in
theorem refChain_any (h : Int) (hx : Hex h) (w : World) :
    Calls Tryz.prog 20 #[.int .i64 h] w fun e w' => (∃ q c, e = .returned (.tuple #[.slice q (chainL h).length c, .int .i64 (chainB h)]) ∧ Reads w' q (chainL h)) ∧ Below w.heap.size w w' := by
  obtain ⟨i0, hi, hz0, hz1, hz2⟩ := info_parts info_int
  have h0 : chkH [h] = 0 := chkH_of fun k hk => by
    obtain rfl : k = 0 := by simp at hk; omega
    exact hx
  have E1 := Lib.hid (show chainL h = chL h (chN h) by unfold chainL; rw [if_pos h0])
  have E2 := Lib.hid (show chainB h = chB h (chN h) by unfold chainB; rw [if_pos h0])
  have H4 := Lib.hid (chB_four hx)
  have HH := Lib.hid hx
  clear h0 hx
  have ho : (w.alloc (.cells #[] 3)).ownsRow w.heap.size 3 1 (.slice (some ⟨w.heap.size, 0, none⟩) 0 0) 0 ((chL h 0).map (Value.int .i64)) :=
    ⟨rfl, Or.inr ⟨w.heap.size, 0, #[], rfl, Nat.le_refl _, heap_alloc_new w _, Nat.le_refl _, by unfold maxLen; omega, rfl, rfl⟩⟩
  have hb2 : Below w.heap.size w (w.alloc (.cells #[] 3)) := below1 _ _
  go_enter Tryz.func20, Tryz.ntmps20
  go_wp2_with fail
  go_loopw [0, 4] (fun v l wr => ∃ k : Nat, k ≤ 4 ∧ v = .int .i64 (chI h k) ∧ Hid (∀ j, j < k → chB h j < 0) ∧ wr.ownsRow w.heap.size 3 1 l k ((chL h k).map (Value.int .i64)) ∧ Below w.heap.size w wr) (fun v l wr => 5 - (match l with | .slice _ n _ => n | _ => 0))
  case atStart => exact ⟨0, by omega, rfl, Lib.hid fun j hj => absurd hj (by omega), ho, hb2⟩
  case round =>
    obtain ⟨k, hk, rfl, HN, hown, hB⟩ := hrel
    clear ho hb2
    have hlo := chB_lo h k
    have Hl0 : Hid ((chL h k).length = k) := upto_length _ _
    obtain ⟨q, c, e, hrd0⟩ := Got.of_owns hown
    rw [Hl0.out] at e
    subst e
    go_wp2_with fail
    refine (refPlace_any q (chL h k) k c (chI h k) Hl0 (by omega) _ hrd0).mono ?_
    rintro e wp ⟨rfl, rfl⟩
    have HP := Lib.hid (show idxI (chL h k) (chI h k) = chB h k from rfl)
    rw [HP.out]
    by_cases hq : chB h k < 0
    · have hk4 : k < 4 := by
        rcases Nat.lt_or_ge k 4 with h1 | h1
        · exact h1
        · obtain rfl : k = 4 := by omega
          have := H4.out
          omega
      have hsz := hB.size
      go_wp2_with (at_builtin; refine wpList_append_own _ rfl _ _ 36 rfl w.heap.size 3 i0 (.int .i64 0) 1 8 Tryz.underlying36 hi hz0 hz1 hz2 rfl (by decide) _ k _ rfl (hown.alloc _) ⟨wp.heap.size, 0, none⟩ 1 1 [.int .i64 (chI h k)] rfl rfl (news_at _ _ rfl) (one_int _) (by unfold maxLen; omega) (by omega) (by simp; omega) ?_)
      intro v2 w6 hown3 hg _
      have hB3 : Below w.heap.size w w6 := (hB.alloc hB.size _).grown hg (by simp; omega) (owns_base hown)
      have hown4 : w6.ownsRow w.heap.size 3 1 v2 (k + 1) ((chL h (k + 1)).map (Value.int .i64)) := by
        unfold chL at hown3 ⊢
        rw [upto_succ]
        simpa using hown3
      have HO := Lib.hid hown4
      have Hl : Hid ((chL h (k + 1)).length = k + 1) := upto_length _ _
      obtain ⟨q2, c2, e2, hrd⟩ := Got.of_owns hown4
      rw [Hl.out] at e2
      subst e2
      clear hg hown hown3 hB hown4 hrd0
      have hsz6 := hB3.size
      go_wp2_with fail
      refine (refOp_any (chI h k) (chI_hex HH.out k) 3 (by omega) (by omega) _).mono ?_
      rintro e w7 ⟨rfl, hb7⟩
      have HO2 := Lib.hid (owns_below HO.out hb7)
      have hB4 := tr hB3 hb7
      clear hb7 hB3 hrd HO
      go_wp2
      go_roundw
      case rel => exact ⟨k + 1, by omega, rfl, Lib.hid fun j hj => by
        by_cases e : j = k
        · subst e; exact hq
        · exact HN.out j (by omega), HO2.out, hB4⟩
      case measure => simp; omega
    · have Hn := Lib.hid (chN_is hk HN.out (by omega))
      have E3 := Lib.hid (show (chainL h).length = k by rw [E1.out, Hn.out, Hl0.out])
      have E4 := Lib.hid (show chainB h = chB h k by rw [E2.out, Hn.out])
      have E5 := Lib.hid (show chainL h = chL h k by rw [E1.out, Hn.out])
      clear hown hlo
      go_wp2_with fail
      refine (refPlace_any q (chL h k) k c (chI h k) Hl0 (by omega) _ hrd0).mono ?_
      rintro e wq ⟨rfl, rfl⟩
      rw [HP.out]
      go_wp2
      refine bodyPost_ret (v := .tuple #[.slice q k c, .int .i64 (chB h k)]) (by simp [results, Tryz.results20, go_sem]) rfl ⟨⟨q, c, by rw [E3.out, E4.out], by rw [E5.out]; exact hrd0⟩, hB⟩
end Go.Proofs.YtdadaipejfoipaaGreatDoor
