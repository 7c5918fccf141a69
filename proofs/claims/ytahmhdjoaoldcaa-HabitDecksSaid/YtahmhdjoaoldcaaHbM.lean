/-
  Lists of ints that came in: opened, and copied by append.
-/
import Derived.Test.YtahmhdjoaoldcaaHbA
import Derived.ProofKit
import Derived.RangeFuncBox
import Derived.Laws.AppendOwnNone
import Derived.OpenShut
import Derived.Maps.AppendAt
namespace Go.Proofs.Ytahmhdjoaoldcaa
open Go Go.ChangeShapes Go.WideShapes Go.ChangeAt Go.RowKit
set_option linter.unusedVariables false

/-- What is known of a list that came in. -/
def Came (w : World) (p : Option Addr) (xs : List Int) (c : Nat) : Prop :=
  (p = none → xs = [] ∧ c = 0) ∧ Reads w p xs ∧ ∀ k, k < xs.length → -9223372036854775808 ≤ nth xs k ∧ nth xs k ≤ 9223372036854775807
theorem Came.below {w w' : World} {p : Option Addr} {xs : List Int} {c : Nat} (h : Came w p xs c) {B : Nat} (hb : Below B w w') (hB : w.heap.size ≤ B) : Came w' p xs c := ⟨h.1, h.2.1.below hb hB, h.2.2⟩
theorem below1 (w : World) (o : Obj) : Below w.heap.size w (w.alloc o) := (Below.refl _ _).alloc (Nat.le_refl _) _
theorem heap_alloc_new (w : World) (o : Obj) : (w.alloc o).heap[w.heap.size]? = some o := World.alloc_heap_new w o
theorem owns_base {w : World} {base : Nat} {e : TypeId} {size : Nat} {v : Value} {n : Nat} {xs : List Value} (h : w.ownsRow base e size v n xs) : ∀ k, v.ownBlock = some k → base ≤ k := fun k hk => by
  rcases h.2 with ⟨rfl, _⟩ | ⟨g, cap, cur, rfl, hg, _, _⟩
  · simp [Value.ownBlock] at hk
  · simp [Value.ownBlock] at hk; omega
theorem none_ownsI (w : World) : (w.alloc (.cells #[] 3)).ownsRow w.heap.size 3 1 (.slice (some ⟨w.heap.size, 0, none⟩) 0 0) 0 [] :=
  ⟨rfl, Or.inr ⟨w.heap.size, 0, #[], rfl, Nat.le_refl _, heap_alloc_new w _, Nat.le_refl _, by simp [maxLen], rfl, rfl⟩⟩

theorem owns_cap {w : World} {B e : Nat} {v : Value} {n : Nat} {xs : List Value} (h : w.ownsRow B e 1 v n xs) : ∀ p m c, v = .slice p m c → n ≤ c ∧ c ≤ 9223372036854775807 := fun p m c hv => by
  rcases h.2 with ⟨rfl, h0⟩ | ⟨g, cap, cur, rfl, _, _, h1, h2, _⟩
  · cases hv; omega
  · cases hv; exact ⟨h1, h2⟩
theorem wpList_append_cameI {w : World} {ops : Array Oper} {rest : List Oper} {o : Oper} {a : Act} {Q : Exit → Act → World → Prop} (hgd : o.guard = none) (s x : Operand)
    (ho : o.op = .call { callee := .builtin .append, args := #[s, x], argTypes := #[22, 22] }) (B : Nat) (v : Value) (hs : a.eval s = v) (hown : w.ownsRow B 3 1 v 0 [])
    (p : Option Addr) (rows : List Int) (c : Nat) (hx : a.eval x = .slice p rows.length c) (hC : Came w p rows c) (hm : rows.length ≤ 1000000) (hB : B ≤ w.heap.size)
    (h : ∀ v' w', w'.ownsRow B 3 1 v' rows.length (rows.map (Value.int .i64)) → w.grownBy w' v.ownBlock → wpList Try.prog ops Q rest (a.put o.dst v') w') : wpList Try.prog ops Q (o :: rest) a w := by
  obtain ⟨i0, hi, hz0, hz1, hz2⟩ := info_parts (show (Try.prog.info? 3).map (fun i => (i.zero, i.size, i.bytes)) = some (some (.int .i64 0), 1, 8) by kernel_rfl)
  cases p with
  | none =>
    obtain ⟨rfl, rfl⟩ := hC.1 rfl
    refine wpList_append_own_none hgd s x 22 ho B 3 i0 1 Try.underlying22 hi v 0 [] hs hown hx ?_
    exact h v w hown (World.grownBy.refl w _)
  | some ad =>
    have hcells : ∀ j u, (rows.map (Value.int .i64))[j]? = some u → w.cell? (ad.add j) = some u := fun j u hj => by
      rw [List.getElem?_map] at hj
      by_cases hlt : j < rows.length
      · obtain ⟨q, o, hq, hc⟩ := hC.2.1 j hlt
        cases hq
        rw [List.getElem?_eq_getElem hlt] at hj
        cases hj
        rw [Go.WideShapes.add_plain, hc, nth_eq hlt]
      · rw [List.getElem?_eq_none (by omega)] at hj
        cases hj
    have hone : ∀ u ∈ rows.map (Value.int .i64), u.oneCell' = true := fun u hu => by
      obtain ⟨x, _, rfl⟩ := List.mem_map.1 hu
      rfl
    refine wpList_append_own w hgd s x 22 ho B 3 i0 (.int .i64 0) 1 8 Try.underlying22 hi hz0 hz1 hz2 rfl (by decide) v 0 [] hs hown ad rows.length c (rows.map (Value.int .i64)) hx (by simp) hcells hone (by unfold maxLen; omega) (by omega) hB ?_
    intro v' w' h1 h2 _
    exact h v' w' (by simpa using h1) h2

theorem cells_i2 : Try.prog.cellsOf 3 = 1 := by kernel_rfl
set_option maxRecDepth 100000 in
/-- A list of ints that came in, opened. -/
theorem came_openI {H : Type} {enc : TypeId × Value → H} {W : World} {v : Value} {d : DataW H} {ps : List MemPlace} {j : Nat} (hv : Value.okWide Try.prog W .any j 22 v) (h : DataW.Trod enc Try.prog W 0 (fun _ => true) true 22 v d ps) :
    ∃ p xs c, v = .slice p xs.length c ∧ Came W p xs c ∧ xs.length ≤ c := by
  obtain ⟨a0, len0, cap0, rfl⟩ := Go.WideShapes.okWide_slice Try.underlying22 hv
  obtain ⟨fuel, hf⟩ := h
  rcases Go.ChangeShapes.open_ints Try.underlying22 Try.underlying3 cells_i2 hf with ⟨hcs, _⟩ | ⟨x, l, c, zs, hcs, _, hl, hm, hz, _, hcell, hwz⟩
  · simp [Value.cells] at hcs
    obtain ⟨rfl, rfl, rfl⟩ := hcs
    exact ⟨none, [], 0, rfl, ⟨fun _ => ⟨rfl, rfl⟩, Reads.nil _ _, fun k hk => by simp at hk⟩, by simp⟩
  · simp [Value.cells] at hcs
    obtain ⟨rfl, rfl, rfl⟩ := hcs
    have hz' : zs.length = cap0 := by simpa using hz
    have hlen : (zs.take len0).length = len0 := by rw [List.length_take]; omega
    have hnth : ∀ k, k < len0 → nth (zs.take len0) k = zs.getD k 0 := fun k hk => by
      have hk2 : k < zs.length := by omega
      rw [nth_eq (by omega)]
      simp [List.getD, hk2]
    refine ⟨some x, zs.take len0, cap0, by rw [hlen], ⟨(fun h => by cases h), fun k hk => ?_, fun k hk => ?_⟩, by rw [hlen]; exact hl⟩
    · rw [hlen] at hk
      obtain ⟨q, o, rfl, hc⟩ := ints_at hcell (by omega)
      refine ⟨q, o, rfl, ?_⟩
      rw [hnth k hk]
      exact hc k (by omega)
    · rw [hlen] at hk
      rw [hnth k hk]
      have hmem : zs.getD k 0 ∈ zs := by
        have hk2 : k < zs.length := by omega
        simp [List.getD, hk2]
      have := hwz _ hmem
      generalize zs.getD k 0 = g at this ⊢
      simp [Lit.wf, IntKind.min, IntKind.max, IntKind.signed, IntKind.bits] at this
      omega

set_option maxRecDepth 100000 in
set_option maxHeartbeats 1000000 in
theorem ints_any (p : Option Addr) (xs : List Int) (c : Nat) (w : World) (hC : Came w p xs c) (hm : xs.length ≤ 1000000) :
    Calls Try.prog 6 #[.slice p xs.length c] w fun e w' => (∃ q c', e = .returned (.slice q xs.length c') ∧ Reads w' q xs ∧ xs.length ≤ c' ∧ c' ≤ 9223372036854775807) ∧ Below w.heap.size w w' := by
  have hC2 : Came (w.alloc (.cells #[] 3)) p xs c := hC.below (below1 w _) (Nat.le_refl _)
  have ho := none_ownsI w
  have hb2 : Below w.heap.size w (w.alloc (.cells #[] 3)) := below1 _ _
  go_enter Try.func6, Try.ntmps6
  go_wp2_with (at_builtin; refine wpList_append_cameI rfl _ _ rfl w.heap.size _ rfl ho p xs c rfl hC2 hm (by simp) ?_)
  intro v' w' hown hg
  have hb3 : Below w.heap.size w w' := hb2.grown hg (by simp) (owns_base ho)
  have hvc := owns_cap hown
  obtain ⟨q, c2, rfl, hr⟩ := Got.of_owns hown
  obtain ⟨hc1, hc2⟩ := hvc _ _ _ rfl
  go_wp2
  go_ret
  exact ⟨⟨q, c2, rfl, hr, hc1, hc2⟩, hb3⟩
end Go.Proofs.Ytahmhdjoaoldcaa
