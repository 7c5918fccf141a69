/-
  What own of the statements returns: a new list, in a block of its own.
-/
import Derived.Test.YtnpnnfbmnlgioaaT
namespace Go.Proofs.Ytnpnnfbmnlgioaa
open Go.RowKit

set_option maxRecDepth 100000 in
set_option maxHeartbeats 1000000 in
theorem own_new (p : Option Addr) (xs : List Int) (c : Nat) (w : World) (hl : xs.length ≤ 1000000000000) (hC : Came w p xs c) :
    Calls Try.prog 16 #[.slice p xs.length c] w fun e w' => (∃ p' c', e = .returned (.slice p' xs.length c') ∧ Reads w' p' xs ∧ ∀ q o, p' = some ⟨q, o, none⟩ → w.heap.size ≤ q) ∧ Below w.heap.size w w' := by
  have hB : Below w.heap.size w (w.alloc (.cells #[] 3)) := Below.alloc (Below.refl _ _) (Nat.le_refl _) _
  have hC1 := hC.below hB (Nat.le_refl _)
  have hO := empty_owns w
  obtain ⟨i0, hi, hz0, hz1, hz2⟩ := info_parts info_int
  cases p with
  | none =>
    obtain ⟨hx, rfl⟩ := hC.1 rfl
    subst hx
    clear hC hC1
    go_enter Try.func16, Try.ntmps16
    go_wp2_with (at_builtin; refine wpList_append_own_none rfl _ _ 34 rfl w.heap.size 3 i0 1 Try.underlying34 hi _ 0 [] rfl hO rfl ?_)
    go_ret
    exact ⟨⟨_, 0, rfl, Reads.nil _ _, fun q o e => by cases e; exact Nat.le_refl _⟩, hB⟩
  | some ad =>
    have hcells : ∀ j u, (xs.map (Value.int .i64))[j]? = some u → (w.alloc (.cells #[] 3)).cell? (ad.add j) = some u := fun j u hj => by
      rw [List.getElem?_map] at hj
      by_cases hlt : j < xs.length
      · obtain ⟨q, o, hq, hc⟩ := hC1.2.1 j hlt
        cases hq
        rw [List.getElem?_eq_getElem hlt] at hj
        cases hj
        rw [Go.WideShapes.add_plain, hc, nth_eq hlt]
      · rw [List.getElem?_eq_none (by omega)] at hj
        cases hj
    have hone : ∀ u ∈ xs.map (Value.int .i64), u.oneCell' = true := fun u hu => by
      obtain ⟨x, _, rfl⟩ := List.mem_map.1 hu
      rfl
    clear hC hC1
    go_enter Try.func16, Try.ntmps16
    go_wp2_with (at_builtin; refine wpList_append_own _ rfl _ _ 34 rfl w.heap.size 3 i0 (.int .i64 0) 1 8 Try.underlying34 hi hz0 hz1 hz2 rfl (by decide) _ 0 [] rfl hO ad xs.length c (xs.map (Value.int .i64)) rfl (by simp) hcells hone (by unfold maxLen; omega) (by omega) (by simp) ?_)
    intro v' w1 hO1 hg _
    go_wp2
    go_ret
    have hG : Got w1 v' xs := Got.of_owns hO1
    obtain ⟨p', c', rfl, hr⟩ := hG
    exact ⟨⟨p', c', rfl, hr, fun q o e => (hO1.lt q (by rw [e]; rfl)).1⟩, hB.grown hg (by simp) (fun k hk => by simp [Value.ownBlock] at hk; omega)⟩

end Go.Proofs.Ytnpnnfbmnlgioaa
