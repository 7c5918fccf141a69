/-
  Regions whose order is drawn, by an invariant that says what is done: a step for each operation, not for each order.
-/
import Derived.OrdersIn
import Derived.Orders
import Derived.BigQuiet
namespace Go.Proofs.YtdnccdobnhbpeaaDoor
open Go
set_option linter.unusedVariables false
set_option linter.unusedSimpArgs false

/-- The operations that are done, as bits of a number. -/
def bitsA (N b : Nat) : Array Bool := ((List.range N).map b.testBit).toArray
theorem bitsA_zero (N : Nat) : bitsA N 0 = Array.replicate N false := by
  apply Array.ext
  · simp [bitsA]
  · intro i h1 h2
    simp [bitsA]
theorem bitsA_set {N b i : Nat} (hi : i < N) : (bitsA N b).setIfInBounds i true = bitsA N (b ||| 2 ^ i) := by
  apply Array.ext
  · simp [bitsA]
  · intro j h1 h2
    have hj : j < N := by simpa [bitsA] using h2
    simp only [bitsA, List.getElem_toArray, List.getElem_map, List.getElem_range, Nat.testBit_or, Nat.testBit_two_pow, Array.getElem_setIfInBounds]
    by_cases e : i = j <;> simp [e]
/-- How many are not done. -/
def leftN (b : Nat) : Nat → Nat
  | 0 => 0
  | k + 1 => leftN b k + if b.testBit k = true then 0 else 1
theorem leftN_le (b k : Nat) : leftN b k ≤ k := by
  induction k with
  | zero => exact Nat.le_refl _
  | succ k ih => unfold leftN; split <;> omega
theorem leftN_set {b i : Nat} (h : b.testBit i = false) (k : Nat) : leftN (b ||| 2 ^ i) k + (if i < k then 1 else 0) = leftN b k := by
  induction k with
  | zero => rfl
  | succ k ih =>
    unfold leftN
    rw [Nat.testBit_or, Nat.testBit_two_pow]
    by_cases e : i = k
    · subst e
      simp at ih
      simp [h]
      exact ih
    · have : (i < k + 1) = (i < k) := by simp; omega
      simp only [this, e, decide_false, Bool.or_false]
      omega
theorem leftN_none {b : Nat} (k : Nat) (h : leftN b k = 0) : ∀ i, i < k → b.testBit i = true := by
  induction k with
  | zero => intro i hi; omega
  | succ k ih =>
    unfold leftN at h
    intro i hi
    by_cases e : i = k
    · subst e
      by_cases hb : b.testBit i = true
      · exact hb
      · rw [if_neg hb] at h; omega
    · exact ih (by omega) i (by omega)
theorem or_lt {N b i : Nat} (hb : b < 2 ^ N) (hi : i < N) : b ||| 2 ^ i < 2 ^ N := Nat.or_lt_two_pow hb (Nat.pow_lt_pow_right (by decide) hi)
theorem all_full {N b : Nat} (hb : b < 2 ^ N) (h : ∀ i, i < N → b.testBit i = true) : b = 2 ^ N - 1 := by
  apply Nat.eq_of_testBit_eq
  intro i
  rw [Nat.testBit_two_pow_sub_one]
  by_cases hi : i < N
  · rw [h i hi]; simp [hi]
  · rw [Nat.testBit_lt_two_pow (Nat.lt_of_lt_of_le hb (Nat.pow_le_pow_right (by decide) (by omega)))]; simp [hi]

/-- What is asked of the text of a region: when an operation is ready all of its list are done; nothing is ready just if all are done. -/
def RegionOk (md : Region.Mode) (ops : Array Oper) (N : Nat) (deps : Nat → List Nat) : Prop :=
  (∀ b, b < 2 ^ N → (Region.ready md ops (bitsA N b)).all (fun i => decide (i < N) && !b.testBit i && (deps i).all b.testBit) = true) ∧
  (∀ b, b < 2 ^ N → (Region.ready md ops (bitsA N b) = [] ↔ b = 2 ^ N - 1))
theorem RegionOk.ready {md : Region.Mode} {ops : Array Oper} {N : Nat} {deps : Nat → List Nat} (h : RegionOk md ops N deps) {b : Nat} (hb : b < 2 ^ N) {i : Nat} (hi : i ∈ Region.ready md ops (bitsA N b)) : i < N ∧ b.testBit i = false ∧ ∀ d ∈ deps i, b.testBit d = true := by
  have := List.all_eq_true.1 (h.1 b hb) i hi
  simp only [Bool.and_eq_true, decide_eq_true_eq, Bool.not_eq_true', List.all_eq_true] at this
  exact ⟨this.1.1, this.1.2, this.2⟩

section
variable {F : Fence} {n : Nat} {P : Program} {md : Region.Mode} {ops : Array Oper} {Q : Exit → Act → World → Prop}
theorem wpAnyIn_inv (N : Nat) (deps : Nat → List Nat) (hr : RegionOk md ops N deps) (I : Nat → Act → World → Prop)
    (step : ∀ b a w, I b a w → ∀ i, i < N → b.testBit i = false → (∀ d ∈ deps i, b.testBit d = true) → wpOpIn F n P ops Q i (I (b ||| 2 ^ i)) a w)
    (fin : ∀ a w, I (2 ^ N - 1) a w → Q .normal a w) :
    ∀ fuel b a w, b < 2 ^ N → I b a w → leftN b N ≤ fuel → wpAnyIn F n P md ops Q fuel (bitsA N b) a w := by
  intro fuel
  induction fuel with
  | zero =>
    intro b a w hb hI hf
    have e := all_full hb (leftN_none N (by omega))
    refine ⟨(hr.2 b hb).2 e, ?_⟩
    subst e
    exact fin a w hI
  | succ fuel ih =>
    intro b a w hb hI hf
    refine ⟨fun h0 => ?_, fun i hi => ?_⟩
    · have e := (hr.2 b hb).1 h0
      subst e
      exact fin a w hI
    · obtain ⟨hiN, hbi, hd⟩ := hr.ready hb hi
      refine wpOpIn_mono (fun a' w' h => ?_) (step b a w hI i hiN hbi hd)
      rw [bitsA_set hiN]
      have := leftN_set hbi N
      rw [if_pos hiN] at this
      exact ih _ _ _ (or_lt hb hiN) h (by omega)
theorem wpIn_region_inv {id : Nat} {a : Act} {w : World} (hm : P.follows .mixedOrders = true) (deps : Nat → List Nat) (hr : RegionOk .any ops ops.size deps) (I : Nat → Act → World → Prop)
    (start : I 0 a w.drew)
    (step : ∀ b a w, I b a w → ∀ i, i < ops.size → b.testBit i = false → (∀ d ∈ deps i, b.testBit d = true) → wpOpIn F n P ops Q i (I (b ||| 2 ^ i)) a w)
    (fin : ∀ a w, I (2 ^ ops.size - 1) a w → Q .normal a w) : (Code.region id ops true).wpIn F n P Q a w := by
  refine wpIn_region_any hm ?_
  rw [← bitsA_zero]
  exact wpAnyIn_inv ops.size deps hr I step fin ops.size 0 a _ (Nat.two_pow_pos _) start (leftN_le _ _)
end
section
variable {P : Program} {md : Region.Mode} {ops : Array Oper} {Q : Exit → Act → World → Prop}
theorem wpAny_inv (N : Nat) (deps : Nat → List Nat) (hr : RegionOk md ops N deps) (I : Nat → Act → World → Prop)
    (step : ∀ b a w, I b a w → ∀ i, i < N → b.testBit i = false → (∀ d ∈ deps i, b.testBit d = true) → wpOp P ops Q i (I (b ||| 2 ^ i)) a w)
    (fin : ∀ a w, I (2 ^ N - 1) a w → Q .normal a w) :
    ∀ fuel b a w, b < 2 ^ N → I b a w → leftN b N ≤ fuel → wpAny P md ops Q fuel (bitsA N b) a w := by
  intro fuel
  induction fuel with
  | zero =>
    intro b a w hb hI hf
    have e := all_full hb (leftN_none N (by omega))
    refine ⟨(hr.2 b hb).2 e, ?_⟩
    subst e
    exact fin a w hI
  | succ fuel ih =>
    intro b a w hb hI hf
    refine ⟨fun h0 => ?_, fun i hi => ?_⟩
    · have e := (hr.2 b hb).1 h0
      subst e
      exact fin a w hI
    · obtain ⟨hiN, hbi, hd⟩ := hr.ready hb hi
      refine wpOp_mono (fun a' w' h => ?_) (step b a w hI i hiN hbi hd)
      rw [bitsA_set hiN]
      have := leftN_set hbi N
      rw [if_pos hiN] at this
      exact ih _ _ _ (or_lt hb hiN) h (by omega)
theorem wp_region_inv {id : Nat} {a : Act} {w : World} (hm : P.follows .mixedOrders = true) (deps : Nat → List Nat) (hr : RegionOk .any ops ops.size deps) (I : Nat → Act → World → Prop)
    (start : I 0 a w.drew)
    (step : ∀ b a w, I b a w → ∀ i, i < ops.size → b.testBit i = false → (∀ d ∈ deps i, b.testBit d = true) → wpOp P ops Q i (I (b ||| 2 ^ i)) a w)
    (fin : ∀ a w, I (2 ^ ops.size - 1) a w → Q .normal a w) : (Code.region id ops true).wp P Q a w := by
  refine wp_region_any hm ?_
  rw [← bitsA_zero]
  exact wpAny_inv ops.size deps hr I step fin ops.size 0 a _ (Nat.two_pow_pos _) start (leftN_le _ _)
end
end Go.Proofs.YtdnccdobnhbpeaaDoor
