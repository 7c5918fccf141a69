/-
  A law for the walk: two arrays of ints, compared.
-/
import Derived.Test.YtahmhdjoaoldcaaDoorShF
import Derived.Laws.StructEq
namespace Go.Proofs.YtahmhdjoaoldcaaDoor
open Go Go.RowKit
set_option linter.unusedVariables false

theorem run_equalIn_ints {P : Program} (w : World) (d : Nat) (t e : TypeId) (n : Nat) (ht : P.underlying t = some (.array n e)) (he : P.underlying e = some (.int .i64)) (hs : (P.info? e).map (·.size) = some 1)
    (a b : List Int) (ha : a.length = n) (hb : b.length = n) :
    (Op.equalIn (d + 2) t (.agg (arr a)) (.agg (arr b))).run P w = .ok (decide (a = b)) w := by
  obtain ⟨i, hi, hi1⟩ : ∃ i, P.info? e = some i ∧ i.size = 1 := by
    cases h : P.info? e with
    | none => simp [h] at hs
    | some i => exact ⟨i, rfl, by simpa [h] using hs⟩
  have hpart : ∀ (xs : List Int) k, k < xs.length → (part e (arr xs) (k * 1)).run P w = .ok (.int .i64 (nth xs k)) w := fun xs k hk => by
    simp [part, isAgg, run_underlying he, Sem.run_bind, arr_get hk]
  have hn : (sizeOf e).run P w = .ok 1 w := by simp [sizeOf, typeInfo, hi, hi1]
  rw [show d + 2 = (d + 1) + 1 from rfl, Op.equalIn]
  simp only [Sem.run_bind, run_underlying ht, Result.andThen_ok, hn]
  simp only [Std.Legacy.Range.forIn_eq_forIn_range', Std.Legacy.Range.size, Nat.sub_zero, Nat.add_sub_cancel, Nat.div_one]
  have eqi : ∀ x y : Int, (Op.equalIn (d + 1) e (.int .i64 x) (.int .i64 y)).run P w = .ok (x == y) w := fun x y => by
    simp [Op.equalIn, run_underlying he]
  have key : ∀ l : List Nat, (∀ j ∈ l, j < n) → Sem.run P (forIn l ((none, ()) : Option Bool × Unit) fun i __s => do
            let __do_lift ← part e (arr a) (i * 1)
            let __do_lift_1 ← part e (arr b) (i * 1)
            let __do_lift ← Op.equalIn (d + 1) e __do_lift __do_lift_1
            if (!__do_lift) = true then pure (ForInStep.done (some false, ())) else pure (ForInStep.yield (none, ()))) w =
      .ok (if ∀ j ∈ l, nth a j = nth b j then (none, ()) else (some false, ())) w := by
    intro l
    induction l with
    | nil => intro _; simp
    | cons j l ih =>
      intro hj
      have ih2 := ih fun k hk => hj k (by simp [hk])
      have hjn := hj j (by simp)
      simp only [List.forIn_cons, Sem.run_bind, hpart a j (by omega), hpart b j (by omega), Result.andThen_ok, eqi]
      by_cases hq : nth a j = nth b j
      · simp only [hq, BEq.rfl, Bool.not_true, Bool.false_eq_true, if_false, Sem.run_pure, Result.andThen_ok]
        rw [ih2]
        simp [hq]
      · simp [hq]
  rw [key _ (fun j hj => by simp [List.mem_range'_1] at hj; omega)]
  by_cases hq : a = b
  · subst hq
    simp
  · have : ¬ ∀ j ∈ List.range' 0 n, nth a j = nth b j := fun h => hq (List.ext_getElem (ha.trans hb.symm) fun i h1 h2 => by
      have := h i (by simp [List.mem_range'_1]; omega)
      rwa [nth_eq h1, nth_eq h2] at this)
    rw [if_neg this]
    simp [hq]

theorem neq_ints {P : Program} (t e : TypeId) (n : Nat) (ht : P.underlying t = some (.array n e)) (he : P.underlying e = some (.int .i64)) (hs : (P.info? e).map (·.size) = some 1)
    (a b : List Int) (ha : a.length = n) (hb : b.length = n) (w : World) :
    (binOp .neq t (.agg (arr a)) (.agg (arr b))).run P w = .ok (.bool (!decide (a = b))) w := by
  rw [run_neq_struct, run_equalIn_ints w 9998 t e n ht he hs a b ha hb]
  rfl
theorem eql_ints {P : Program} (t e : TypeId) (n : Nat) (ht : P.underlying t = some (.array n e)) (he : P.underlying e = some (.int .i64)) (hs : (P.info? e).map (·.size) = some 1)
    (a b : List Int) (ha : a.length = n) (hb : b.length = n) (w : World) :
    (binOp .eql t (.agg (arr a)) (.agg (arr b))).run P w = .ok (.bool (decide (a = b))) w := by
  rw [run_eql_struct, run_equalIn_ints w 9998 t e n ht he hs a b ha hb]
  rfl
end Go.Proofs.YtahmhdjoaoldcaaDoor
