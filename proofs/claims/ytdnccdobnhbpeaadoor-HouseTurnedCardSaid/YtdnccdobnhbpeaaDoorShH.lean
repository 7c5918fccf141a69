/-
  A law for the walk: two arrays of ints, compared.
  Package shield: the way of a line.
-/
import Derived.Test.YtdnccdobnhbpeaaDoorShF
import Derived.Laws.StructEq
import Derived.Test.YtdnccdobnhbpeaaDoorShG
import Derived.Deep.MidRow
namespace Go.Proofs.YtdnccdobnhbpeaaDoor
open Go Go.RowKit
set_option linter.unusedVariables false

theorem run_equalIn_ints {P : Program} (w : World) (d : Nat) (t e : TypeId) (n : Nat) (ht : P.underlying t = some (.array n e)) (he : P.underlying e = some (.int .i64)) (hs : (P.info? e).map (·.size) = some 1)
    (a b : List Int) (ha : a.length = n) (hb : b.length = n) :
    (Op.equalIn (d + 2) t (.agg (arr a)) (.agg (arr b))).run P w = .ok (decide (a = b)) w := by
  obtain ⟨i, hi, hi1⟩ : ∃ i, P.info? e = some i ∧ i.size = 1 := by
    cases h : P.info? e with
    | none => simp [h] at hs
    | some i => exact ⟨i, rfl, by simpa [h] using hs⟩
  have hpart : ∀ (xs : List Int) k, k < xs.length → (part e (arr xs) (k * 1)).run P w = .ok (.int .i64 (nth xs k)) w := fun xs k hk => by
    simp [part, isAgg, run_underlying he, Sem.run_bind, arr_get hk]
  have hn : (sizeOf e).run P w = .ok 1 w := by simp [sizeOf, typeInfo, hi, hi1]
  rw [show d + 2 = (d + 1) + 1 from rfl, Op.equalIn]
  simp only [Sem.run_bind, run_underlying ht, Result.andThen_ok, hn]
  simp only [Std.Legacy.Range.forIn_eq_forIn_range', Std.Legacy.Range.size, Nat.sub_zero, Nat.add_sub_cancel, Nat.div_one]
  have eqi : ∀ x y : Int, (Op.equalIn (d + 1) e (.int .i64 x) (.int .i64 y)).run P w = .ok (x == y) w := fun x y => by
    simp [Op.equalIn, run_underlying he]
  have key : ∀ l : List Nat, (∀ j ∈ l, j < n) → Sem.run P (forIn l ((none, ()) : Option Bool × Unit) fun i __s => do
            let __do_lift ← part e (arr a) (i * 1)
            let __do_lift_1 ← part e (arr b) (i * 1)
            let __do_lift ← Op.equalIn (d + 1) e __do_lift __do_lift_1
            if (!__do_lift) = true then pure (ForInStep.done (some false, ())) else pure (ForInStep.yield (none, ()))) w =
      .ok (if ∀ j ∈ l, nth a j = nth b j then (none, ()) else (some false, ())) w := by
    intro l
    induction l with
    | nil => intro _; simp
    | cons j l ih =>
      intro hj
      have ih2 := ih fun k hk => hj k (by simp [hk])
      have hjn := hj j (by simp)
      simp only [List.forIn_cons, Sem.run_bind, hpart a j (by omega), hpart b j (by omega), Result.andThen_ok, eqi]
      by_cases hq : nth a j = nth b j
      · simp only [hq, BEq.rfl, Bool.not_true, Bool.false_eq_true, if_false, Sem.run_pure, Result.andThen_ok]
        rw [ih2]
        simp [hq]
      · simp [hq]
  rw [key _ (fun j hj => by simp [List.mem_range'_1] at hj; omega)]
  by_cases hq : a = b
  · subst hq
    simp
  · have : ¬ ∀ j ∈ List.range' 0 n, nth a j = nth b j := fun h => hq (List.ext_getElem (ha.trans hb.symm) fun i h1 h2 => by
      have := h i (by simp [List.mem_range'_1]; omega)
      rwa [nth_eq h1, nth_eq h2] at this)
    rw [if_neg this]
    simp [hq]

theorem neq_ints {P : Program} (t e : TypeId) (n : Nat) (ht : P.underlying t = some (.array n e)) (he : P.underlying e = some (.int .i64)) (hs : (P.info? e).map (·.size) = some 1)
    (a b : List Int) (ha : a.length = n) (hb : b.length = n) (w : World) :
    (binOp .neq t (.agg (arr a)) (.agg (arr b))).run P w = .ok (.bool (!decide (a = b))) w := by
  rw [run_neq_struct, run_equalIn_ints w 9998 t e n ht he hs a b ha hb]
  rfl
theorem eql_ints {P : Program} (t e : TypeId) (n : Nat) (ht : P.underlying t = some (.array n e)) (he : P.underlying e = some (.int .i64)) (hs : (P.info? e).map (·.size) = some 1)
    (a b : List Int) (ha : a.length = n) (hb : b.length = n) (w : World) :
    (binOp .eql t (.agg (arr a)) (.agg (arr b))).run P w = .ok (.bool (decide (a = b))) w := by
  rw [run_eql_struct, run_equalIn_ints w 9998 t e n ht he hs a b ha hb]
  rfl
end Go.Proofs.YtdnccdobnhbpeaaDoor

namespace Go.Proofs.YtdnccdobnhbpeaaDoor
open Go Go.RowKit
set_option linter.unusedVariables false

theorem Blk.range {w : World} {g : Nat} {t : TypeId} {xs : List Int} (h : Blk w g t (arr xs)) : w.rangeAt g 0 (xs.map (Value.int .i64)) := fun j v hj => by
  rw [Nat.zero_add, h.cell]
  simpa [arr] using hj
theorem range_tr {w w' : World} (hb : Below w.heap.size w w') {g o : Nat} {cs : List Value} (h : w.rangeAt g o cs) : w'.rangeAt g o cs := fun j v hj => cell_tr hb (h j v hj)
/-- The mothers of a chart. -/
def moth (s : List Int) : List Int := [nth s 0, nth s 1, nth s 2, nth s 3]
/-- Where the way goes on from a place. -/
def nx (s : List Int) (line : Int) (p : Nat) : Nat := if bitB (nth s (parA p)) line = true then parA p else parB p
def plc (s : List Int) (line : Int) : Nat → Nat
  | 0 => 14
  | k + 1 => nx s line (plc s line k)
/-- The first k + 1 places of the way. -/
def wayTo (s : List Int) (line : Int) : Nat → List Int
  | 0 => [14]
  | k + 1 => wayTo s line k ++ [(plc s line (k + 1) : Int)]
theorem wayTo_len (s : List Int) (line : Int) (k : Nat) : (wayTo s line k).length = k + 1 := by
  induction k with
  | zero => rfl
  | succ k ih => simp [wayTo, ih]
theorem nx_or (s : List Int) (line : Int) (p : Nat) : nx s line p = parA p ∨ nx s line p = parB p := by unfold nx; split <;> simp
theorem plc_one (s : List Int) (line : Int) : plc s line 1 = 12 ∨ plc s line 1 = 13 := nx_or s line 14
theorem plc_two (s : List Int) (line : Int) : plc s line 2 = 8 ∨ plc s line 2 = 9 ∨ plc s line 2 = 10 ∨ plc s line 2 = 11 := by
  show nx s line (plc s line 1) = 8 ∨ nx s line (plc s line 1) = 9 ∨ nx s line (plc s line 1) = 10 ∨ nx s line (plc s line 1) = 11
  rcases plc_one s line with h | h <;> rw [h]
  · rcases nx_or s line 12 with h | h <;> rw [h] <;> decide
  · rcases nx_or s line 13 with h | h <;> rw [h] <;> decide
theorem plc_three (s : List Int) (line : Int) : plc s line 3 < 8 := by
  show nx s line (plc s line 2) < 8
  rcases plc_two s line with h | h | h | h <;> rw [h]
  · rcases nx_or s line 8 with h | h <;> rw [h] <;> decide
  · rcases nx_or s line 9 with h | h <;> rw [h] <;> decide
  · rcases nx_or s line 10 with h | h <;> rw [h] <;> decide
  · rcases nx_or s line 11 with h | h <;> rw [h] <;> decide
theorem plc_cases (s : List Int) (line : Int) {k : Nat} (hk : k < 3) : plc s line k = 8 ∨ plc s line k = 9 ∨ plc s line k = 10 ∨ plc s line k = 11 ∨ plc s line k = 12 ∨ plc s line k = 13 ∨ plc s line k = 14 := by
  have : k = 0 ∨ k = 1 ∨ k = 2 := by omega
  rcases this with rfl | rfl | rfl
  · simp [plc]
  · have := plc_one s line; omega
  · have := plc_two s line; omega
theorem plc_ge (s : List Int) (line : Int) {k : Nat} (hk : k ≤ 3) (h8 : 8 ≤ plc s line k) : k < 3 := by
  by_cases e : k = 3
  · subst e; have := plc_three s line; omega
  · omega
theorem plc_lt (s : List Int) (line : Int) {k : Nat} (hk : k ≤ 3) (h8 : plc s line k < 8) : k = 3 := by
  by_cases e : k = 3
  · exact e
  · have := plc_cases s line (show k < 3 by omega); omega
theorem one_owns (W : World) (x : Int) {B : Nat} (hB : B ≤ W.heap.size) : (W.alloc (.cells #[.int .i64 x] 3)).ownsRow B 3 1 (.slice (some ⟨W.heap.size, 0, none⟩) 1 1) 1 ([x].map (Value.int .i64)) :=
  ⟨rfl, Or.inr ⟨W.heap.size, 1, #[.int .i64 x], rfl, hB, heap_alloc_new W _, Nat.le_refl _, by simp [maxLen], rfl, rfl⟩⟩
/-- What Way returns. -/
def wayE (s : List Int) (line : Int) : Int := if chkF s ≠ 0 then 2 else if outB 0 3 line = true then 3 else if dP (moth s) 16 ≠ s then 30 else if bitB (nth s 14) line = false then 7 else 0
def wayV (s : List Int) (line : Int) : List Int := if wayE s line = 0 then wayTo s line 3 else []

end Go.Proofs.YtdnccdobnhbpeaaDoor

