/-
  What own of the statements returns: a new list that reads the same. And how a list that came in is opened.
-/
import Derived.Test.YtnpnnfbmnlgioaaRows
import Derived.Test.YtnpnnfbmnlgioaaLib
import Derived.Laws.AppendOwn
import Derived.Laws.AppendOwnNone
import Derived.OwnWalk
import Derived.OpenShut
namespace Go.Proofs.Ytnpnnfbmnlgioaa
open Go.RowKit

theorem heap_alloc_new (w : World) (o : Obj) : (w.alloc o).heap[w.heap.size]? = some o := by simp only [World.alloc, Array.getElem?_push_size]
/-- What is known of a list that came in. -/
def Came (w : World) (p : Option Addr) (xs : List Int) (c : Nat) : Prop :=
  (p = none → xs = [] ∧ c = 0) ∧ Reads w p xs ∧ ∀ k, k < xs.length → -9223372036854775808 ≤ nth xs k ∧ nth xs k ≤ 9223372036854775807
theorem Came.below {w w' : World} {p : Option Addr} {xs : List Int} {c : Nat} (h : Came w p xs c) {B : Nat} (hb : Below B w w') (hB : w.heap.size ≤ B) : Came w' p xs c := ⟨h.1, h.2.1.below hb hB, h.2.2⟩

theorem empty_owns (w : World) : (w.alloc (.cells #[] 3)).ownsRow w.heap.size 3 1 (.slice (some ⟨w.heap.size, 0, none⟩) 0 0) 0 [] :=
  ⟨rfl, Or.inr ⟨w.heap.size, 0, #[], rfl, Nat.le_refl _, heap_alloc_new w _, Nat.le_refl _, by simp [maxLen], rfl, rfl⟩⟩
theorem info_int : (Try.prog.info? 3).map (fun i => (i.zero, i.size, i.bytes)) = some (some (.int .i64 0), 1, 8) := by kernel_rfl

set_option maxRecDepth 100000 in
set_option maxHeartbeats 1000000 in
theorem own_any (p : Option Addr) (xs : List Int) (c : Nat) (w : World) (hl : xs.length ≤ 1000000000000) (hC : Came w p xs c) :
    Calls Try.prog 16 #[.slice p xs.length c] w fun e w' => (∃ p' c', e = .returned (.slice p' xs.length c') ∧ Reads w' p' xs) ∧ Below w.heap.size w w' := by
  have hB : Below w.heap.size w (w.alloc (.cells #[] 3)) := Below.alloc (Below.refl _ _) (Nat.le_refl _) _
  have hC1 := hC.below hB (Nat.le_refl _)
  have hO := empty_owns w
  obtain ⟨i0, hi, hz0, hz1, hz2⟩ := info_parts info_int
  cases p with
  | none =>
    obtain ⟨hx, rfl⟩ := hC.1 rfl
    subst hx
    clear hC hC1
    go_enter Try.func16, Try.ntmps16
    go_wp2_with (at_builtin; refine wpList_append_own_none rfl _ _ 34 rfl w.heap.size 3 i0 1 Try.underlying34 hi _ 0 [] rfl hO rfl ?_)
    go_ret
    exact ⟨⟨_, 0, rfl, Reads.nil _ _⟩, hB⟩
  | some ad =>
    have hcells : ∀ j u, (xs.map (Value.int .i64))[j]? = some u → (w.alloc (.cells #[] 3)).cell? (ad.add j) = some u := fun j u hj => by
      rw [List.getElem?_map] at hj
      by_cases hlt : j < xs.length
      · obtain ⟨q, o, hq, hc⟩ := hC1.2.1 j hlt
        cases hq
        rw [List.getElem?_eq_getElem hlt] at hj
        cases hj
        rw [Go.WideShapes.add_plain, hc, nth_eq hlt]
      · rw [List.getElem?_eq_none (by omega)] at hj
        cases hj
    have hone : ∀ u ∈ xs.map (Value.int .i64), u.oneCell' = true := fun u hu => by
      obtain ⟨x, _, rfl⟩ := List.mem_map.1 hu
      rfl
    clear hC hC1
    go_enter Try.func16, Try.ntmps16
    go_wp2_with (at_builtin; refine wpList_append_own _ rfl _ _ 34 rfl w.heap.size 3 i0 (.int .i64 0) 1 8 Try.underlying34 hi hz0 hz1 hz2 rfl (by decide) _ 0 [] rfl hO ad xs.length c (xs.map (Value.int .i64)) rfl (by simp) hcells hone (by unfold maxLen; omega) (by omega) (by simp) ?_)
    intro v' w1 hO1 hg _
    go_wp2
    go_ret
    have hG : Got w1 v' xs := Got.of_owns hO1
    obtain ⟨p', c', rfl, hr⟩ := hG
    exact ⟨⟨p', c', rfl, hr⟩, hB.grown hg (by simp) (fun k hk => by simp [Value.ownBlock] at hk; omega)⟩

theorem cells_int : Try.prog.cellsOf 3 = 1 := by kernel_rfl
set_option maxRecDepth 100000 in
/-- A list of ints that came in, opened. -/
theorem came_open {H : Type} {enc : TypeId × Value → H} {W : World} {v : Value} {d : DataW H} {ps : List MemPlace} {j : Nat} (hv : Value.okWide Try.prog W .any j 34 v) (h : DataW.Trod enc Try.prog W 0 (fun _ => true) true 34 v d ps) :
    ∃ p xs c, v = .slice p xs.length c ∧ Came W p xs c ∧ c ≤ maxLen := by
  obtain ⟨a0, len0, cap0, rfl⟩ := Go.WideShapes.okWide_slice Try.underlying34 hv
  obtain ⟨fuel, hf⟩ := h
  rcases Go.ChangeShapes.open_ints Try.underlying34 Try.underlying3 cells_int hf with ⟨hcs, _⟩ | ⟨x, l, c, zs, hcs, _, hl, hm, hz, _, hcell, hwz⟩
  · simp [Value.cells] at hcs
    obtain ⟨rfl, rfl, rfl⟩ := hcs
    exact ⟨none, [], 0, rfl, ⟨fun _ => ⟨rfl, rfl⟩, Reads.nil _ _, fun k hk => by simp at hk⟩, by simp⟩
  · simp [Value.cells] at hcs
    obtain ⟨rfl, rfl, rfl⟩ := hcs
    have hz' : zs.length = cap0 := by simpa using hz
    have hlen : (zs.take len0).length = len0 := by rw [List.length_take]; omega
    have hnth : ∀ k, k < len0 → nth (zs.take len0) k = zs.getD k 0 := fun k hk => by
      have hk2 : k < zs.length := by omega
      rw [nth_eq (by omega)]
      simp [List.getD, hk2]
    refine ⟨some x, zs.take len0, cap0, by rw [hlen], ⟨(fun h => by cases h), fun k hk => ?_, fun k hk => ?_⟩, hm⟩
    · rw [hlen] at hk
      obtain ⟨q, o, rfl, hc⟩ := ints_at hcell (by omega)
      refine ⟨q, o, rfl, ?_⟩
      rw [hnth k hk]
      exact hc k (by omega)
    · rw [hlen] at hk
      rw [hnth k hk]
      have hmem : zs.getD k 0 ∈ zs := by
        have hk2 : k < zs.length := by omega
        simp [List.getD, hk2]
      have := hwz _ hmem
      generalize zs.getD k 0 = g at this ⊢
      simp [Lit.wf, IntKind.min, IntKind.max, IntKind.signed, IntKind.bits] at this
      omega
end Go.Proofs.Ytnpnnfbmnlgioaa
