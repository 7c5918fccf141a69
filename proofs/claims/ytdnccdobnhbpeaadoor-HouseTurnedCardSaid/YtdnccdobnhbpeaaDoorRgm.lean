/-
  Regions whose order is drawn, where each operation leaves what there was: what holds of each result when it has been computed holds at the end, in whatever order they were computed.
-/
import Derived.Test.YtdnccdobnhbpeaaDoorReg
import Derived.Below
namespace Go.Proofs.YtdnccdobnhbpeaaDoor
open Go Go.RowKit
set_option linter.unusedVariables false
set_option linter.unusedSimpArgs false

/-- The operations that an operation waits for. -/
def depsOf (ops : Array Oper) (i : Nat) : List Nat :=
  match ops[i]? with
  | some o => (o.after.toList.filter (Region.binds .any)).map (·.on)
  | none => []
/-- Each one waits for earlier ones alone. -/
def orderedB (ops : Array Oper) : Bool := (List.range ops.size).all fun i => (depsOf ops i).all fun j => decide (j < i)

theorem bitsA_getD {N b i : Nat} (d : Bool) (hi : i < N) : (bitsA N b).getD i d = b.testBit i := by
  have h : i < (bitsA N b).size := by simp [bitsA, hi]
  rw [Array.getD, dif_pos h]
  simp [bitsA]
theorem bitsA_getD_out {N b i : Nat} (d : Bool) (hi : ¬ i < N) : (bitsA N b).getD i d = d := by
  have h : ¬ i < (bitsA N b).size := by simp [bitsA]; omega
  rw [Array.getD, dif_neg h]
theorem mem_depsOf {ops : Array Oper} {i j : Nat} {o : Oper} (ho : ops[i]? = some o) : j ∈ depsOf ops i ↔ ∃ e ∈ o.after, Region.binds .any e = true ∧ e.on = j := by
  unfold depsOf
  rw [ho]
  simp [List.mem_map, List.mem_filter, and_assoc]

theorem regionOk_of {ops : Array Oper} (h : orderedB ops = true) : RegionOk .any ops ops.size (depsOf ops) := by
  have hlt : ∀ i, i < ops.size → ∀ j ∈ depsOf ops i, j < i := by
    intro i hi j hj
    have h1 := List.all_eq_true.1 h i (List.mem_range.2 hi)
    have h2 := List.all_eq_true.1 h1 j hj
    simpa using h2
  have hready : ∀ b i, i ∈ Region.ready .any ops (bitsA ops.size b) ↔ i < ops.size ∧ b.testBit i = false ∧ ∀ j ∈ depsOf ops i, b.testBit j = true := by
    intro b i
    rw [mem_ready]
    constructor
    · rintro ⟨h0, o, ho, ha⟩
      have hi : i < ops.size := by
        rcases Nat.lt_or_ge i ops.size with h' | h'
        · exact h'
        · rw [Array.getElem?_eq_none h'] at ho; cases ho
      refine ⟨hi, by rwa [bitsA_getD _ hi] at h0, fun j hj => ?_⟩
      have hji := hlt i hi j hj
      obtain ⟨e, he, hb, rfl⟩ := (mem_depsOf ho).1 hj
      have := ha e he hb
      rwa [bitsA_getD _ (by omega)] at this
    · rintro ⟨hi, h0, ha⟩
      refine ⟨by rw [bitsA_getD _ hi]; exact h0, ops[i], Array.getElem?_eq_getElem hi, fun e he hb => ?_⟩
      have hm : e.on ∈ depsOf ops i := (mem_depsOf (Array.getElem?_eq_getElem hi)).2 ⟨e, he, hb, rfl⟩
      have := hlt i hi _ hm
      rw [bitsA_getD _ (by omega)]
      exact ha _ hm
  refine ⟨fun b hb => List.all_eq_true.2 fun i hi => ?_, fun b hb => ⟨fun h0 => ?_, fun h0 => ?_⟩⟩
  · obtain ⟨a1, a2, a3⟩ := (hready b i).1 hi
    simp only [Bool.and_eq_true, decide_eq_true_eq, Bool.not_eq_true', List.all_eq_true]
    exact ⟨⟨a1, a2⟩, a3⟩
  · refine all_full hb fun i hi => ?_
    induction i using Nat.strongRecOn with
    | ind i ih =>
      by_cases hbi : b.testBit i = true
      · exact hbi
      · have : i ∈ Region.ready .any ops (bitsA ops.size b) := (hready b i).2 ⟨hi, by simpa using hbi, fun j hj => ih j (hlt i hi j hj) (by have := hlt i hi j hj; omega)⟩
        rw [h0] at this
        cases this
  · cases hr : Region.ready .any ops (bitsA ops.size b) with
    | nil => rfl
    | cons i l =>
      have hi : i ∈ Region.ready .any ops (bitsA ops.size b) := by rw [hr]; simp
      obtain ⟨a1, a2, a3⟩ := (hready b i).1 hi
      rw [h0, Nat.testBit_two_pow_sub_one] at a2
      simp [a1] at a2

/-- All that an operation waits for, at first or at second hand, as bits. -/
def orL (l : List Nat) : List Nat → Nat
  | [] => 0
  | j :: js => (2 ^ j ||| l.getD j 0) ||| orL l js
def cloL (ops : Array Oper) : Nat → List Nat
  | 0 => []
  | n + 1 => cloL ops n ++ [orL (cloL ops n) (depsOf ops n)]
def clo (ops : Array Oper) (i : Nat) : Nat := (cloL ops ops.size).getD i 0
theorem cloL_length (ops : Array Oper) (n : Nat) : (cloL ops n).length = n := by
  induction n with
  | zero => rfl
  | succ n ih => simp [cloL, ih]
theorem orL_bit {l : List Nat} {t : Nat} : ∀ {js : List Nat}, (orL l js).testBit t = true → ∃ j ∈ js, t = j ∨ (l.getD j 0).testBit t = true
  | [], h => by simp [orL] at h
  | j :: js, h => by
    simp only [orL, Nat.testBit_or, Bool.or_eq_true, Nat.testBit_two_pow, decide_eq_true_eq] at h
    rcases h with (h | h) | h
    · exact ⟨j, by simp, .inl h.symm⟩
    · exact ⟨j, by simp, .inr h⟩
    · obtain ⟨j', h1, h2⟩ := orL_bit h
      exact ⟨j', by simp [h1], h2⟩
theorem cloL_sub {ops : Array Oper} {b : Nat} (hc : ∀ i, b.testBit i = true → ∀ j ∈ depsOf ops i, b.testBit j = true) : ∀ n i, i < n → (∀ j ∈ depsOf ops i, b.testBit j = true) → ∀ t, ((cloL ops n).getD i 0).testBit t = true → b.testBit t = true := by
  intro n
  induction n with
  | zero => intro i hi; omega
  | succ n ih =>
    intro i hi hd t ht
    have hl := cloL_length ops n
    by_cases e : i = n
    · subst e
      have : (cloL ops (i + 1)).getD i 0 = orL (cloL ops i) (depsOf ops i) := by
        show (cloL ops i ++ _).getD i 0 = _
        rw [List.getD_eq_getElem?_getD, List.getElem?_append_right (by omega), hl]
        simp
      rw [this] at ht
      obtain ⟨j, hj, rfl | h⟩ := orL_bit ht
      · exact hd _ hj
      · by_cases hji : j < i
        · exact ih j hji (hc j (hd j hj)) t h
        · rw [List.getD_eq_getElem?_getD, List.getElem?_eq_none (by omega)] at h
          simp at h
    · have hi' : i < n := by omega
      have : (cloL ops (n + 1)).getD i 0 = (cloL ops n).getD i 0 := by
        show (cloL ops n ++ _).getD i 0 = _
        rw [List.getD_eq_getElem?_getD, List.getElem?_append_left (by omega), List.getD_eq_getElem?_getD]
      rw [this] at ht
      exact ih i hi' hd t ht

/-- A slot's value. -/
def slot (a : Act) (t : Nat) : Value := a.tmps[t]?.getD undef
theorem slot_put_same {a : Act} {t : Nat} (v : Value) (h : t < a.tmps.size) : slot (a.put (some t) v) t = v := by
  simp [slot, Act.put, h]
theorem slot_put_other {a : Act} {t d : Nat} (v : Value) (h : d ≠ t) : slot (a.put (some d) v) t = slot a t := by
  simp [slot, Act.put, Array.getElem?_setIfInBounds_ne h]
theorem put_size (a : Act) (d : Option Nat) (v : Value) : (a.put d v).tmps.size = a.tmps.size := by
  cases d <;> simp [Act.put]
theorem put_defers (a : Act) (d : Option Nat) (v : Value) : (a.put d v).defers = a.defers := by
  cases d <;> rfl

/-- The slots behind all operations. -/
def finD (v : Nat → Value) : Nat → List (Option Nat) → List Value → List Value
  | _, [], T => T
  | i, d :: ds, T => finD v (i + 1) ds (match d with | some t => T.set t (v i) | none => T)
theorem finD_length (v : Nat → Value) : ∀ (ds : List (Option Nat)) (i : Nat) (T : List Value), (finD v i ds T).length = T.length
  | [], _, _ => rfl
  | d :: ds, i, T => by
    unfold finD
    rw [finD_length v ds]
    cases d <;> simp
theorem finD_rest (v : Nat → Value) {t : Nat} : ∀ (ds : List (Option Nat)) (i : Nat) (T : List Value), (some t ∉ ds) → (finD v i ds T)[t]? = T[t]?
  | [], _, _, _ => rfl
  | d :: ds, i, T, h => by
    unfold finD
    simp only [List.mem_cons, not_or] at h
    rw [finD_rest v ds _ _ h.2]
    cases d with
    | none => rfl
    | some d => exact List.getElem?_set_ne (fun e => h.1 (by rw [e]))
theorem finD_done (v : Nat → Value) {t : Nat} : ∀ (ds : List (Option Nat)) (i k : Nat) (T : List Value), (ds.filterMap id).Nodup → ds[k]? = some (some t) → t < T.length → (finD v i ds T)[t]? = some (v (i + k))
  | [], _, _, _, _, h, _ => by simp at h
  | d :: ds, i, 0, T, hn, h, ht => by
    have h : d = some t := by simpa using h
    subst h
    unfold finD
    rw [finD_rest]
    · simp [ht]
    · intro hm
      simp only [List.filterMap_cons, id, List.nodup_cons, List.mem_filterMap] at hn
      exact hn.1 ⟨some t, hm, rfl⟩
  | d :: ds, i, k + 1, T, hn, h, ht => by
    unfold finD
    have hn' : (ds.filterMap id).Nodup := by
      cases d with
      | none => simpa using hn
      | some d => simp only [List.filterMap_cons, id, List.nodup_cons] at hn; exact hn.2
    rw [finD_done v ds (i + 1) k _ hn' (by simpa using h) (by cases d <;> simpa using ht)]
    congr 1
    congr 1
    omega

/-- What may be asked of a slot's old value while an operation runs: whatever writes it waits for the operation. -/
def keptB (ops : Array Oper) (dsts : List (Option Nat)) (i t : Nat) : Bool := (List.range dsts.length).all fun j => !(dsts.getD j none == some t) || (clo ops j).testBit i
/-- The static facts of a region. -/
def regB (ops : Array Oper) (dsts : List (Option Nat)) (n : Nat) : Bool :=
  orderedB ops && (ops.toList.map (·.dst) == dsts) && decide ((dsts.filterMap id).Nodup) && (dsts.filterMap id).all fun t => decide (t < n)

section
variable {P : Program} {ops : Array Oper} {Q : Exit → Act → World → Prop}
/-- The facts that an operation finds: what it waits for has been computed, and holds; other slots are as they were. -/
structure Found (ops : Array Oper) (dsts : List (Option Nat)) (R : Nat → Value → World → Prop) (a0 : Act) (w : World) (i : Nat) (a : Act) (V : World) : Prop where
  below : Below w.heap.size w V
  defers : a.defers = a0.defers
  size : a.tmps.size = a0.tmps.size
  dep : ∀ j, (clo ops i).testBit j = true → ∃ x, R j x V ∧ ∀ t, dsts[j]? = some (some t) → a.tmps[t]?.getD undef = x
  kept : ∀ t, keptB ops dsts i t = true → a.tmps[t]?.getD undef = a0.tmps[t]?.getD undef

theorem wp_region_mono {id : Nat} {a0 : Act} {w : World} (hm : P.follows .mixedOrders = true) (dsts : List (Option Nat)) (hok : regB ops dsts a0.tmps.size = true)
    (R : Nat → Value → World → Prop)
    (stab : ∀ i x V V', R i x V → Below V.heap.size V V' → R i x V')
    (step : ∀ i, i < ops.size → ∀ a V, Found ops dsts R a0 w i a V → wpOp P ops Q i (fun a' V' => ∃ x, a' = a.put ((dsts.getD i none)) x ∧ R i x V' ∧ Below V.heap.size V V') a V)
    (fin : ∀ (v : Nat → Value) V, Below w.heap.size w V → (∀ i, i < ops.size → R i (v i) V) → Q .normal ⟨⟨finD v 0 dsts a0.tmps.toList⟩, a0.defers⟩ V) : (Code.region id ops true).wp P Q a0 w := by
  simp only [regB, Bool.and_eq_true, decide_eq_true_eq, beq_iff_eq, List.all_eq_true] at hok
  obtain ⟨⟨⟨ho, hds⟩, hnd⟩, hbd⟩ := hok
  have hok := regionOk_of ho
  have hlen : dsts.length = ops.size := by rw [← hds]; simp
  have hinj : ∀ (i j t : Nat), dsts[i]? = some (some t) → dsts[j]? = some (some t) → i = j := by
    have gen : ∀ (l : List (Option Nat)), (l.filterMap _root_.id).Nodup → ∀ (i j t : Nat), l[i]? = some (some t) → l[j]? = some (some t) → i = j := by
      intro l
      induction l with
      | nil => intro _ i j t h; simp at h
      | cons d l ih =>
        intro hn i j t h1 h2
        have hn' : (l.filterMap _root_.id).Nodup := by
          cases d with
          | none => simpa using hn
          | some d => simp only [List.filterMap_cons, _root_.id, List.nodup_cons] at hn; exact hn.2
        cases i with
        | zero =>
          cases j with
          | zero => rfl
          | succ j =>
            have e : d = some t := by simpa using h1
            subst e
            simp only [List.filterMap_cons, _root_.id, List.nodup_cons, List.mem_filterMap] at hn
            exact (hn.1 ⟨some t, List.mem_of_getElem? (by simpa using h2), rfl⟩).elim
        | succ i =>
          cases j with
          | zero =>
            have e : d = some t := by simpa using h2
            subst e
            simp only [List.filterMap_cons, _root_.id, List.nodup_cons, List.mem_filterMap] at hn
            exact (hn.1 ⟨some t, List.mem_of_getElem? (by simpa using h1), rfl⟩).elim
          | succ j => rw [ih hn' i j t (by simpa using h1) (by simpa using h2)]
    exact gen dsts hnd
  have hin : ∀ (i t : Nat), dsts[i]? = some (some t) → t < a0.tmps.size := by
    intro i t h
    exact hbd t (List.mem_filterMap.2 ⟨some t, List.mem_of_getElem? h, rfl⟩)
  refine wp_region_inv hm (depsOf ops) hok (fun b a V => ∃ v : Nat → Value, Below w.heap.size w V ∧ a.defers = a0.defers ∧ a.tmps.size = a0.tmps.size ∧ (∀ i, b.testBit i = true → ∀ j ∈ depsOf ops i, b.testBit j = true)
    ∧ (∀ i, b.testBit i = true → i < ops.size ∧ R i (v i) V ∧ ∀ t, dsts[i]? = some (some t) → a.tmps[t]?.getD undef = v i)
    ∧ (∀ t, (∀ i, b.testBit i = true → dsts[i]? ≠ some (some t)) → a.tmps[t]?.getD undef = a0.tmps[t]?.getD undef)) ?_ ?_ ?_
  · exact ⟨fun _ => undef, (Below.refl _ _).drew, rfl, rfl, fun i h => by simp at h, fun i h => by simp at h, fun t _ => rfl⟩
  · rintro b a V ⟨v, hB, hdf, hsz, hcl, hdn, hrs⟩ i hi hbi hd
    have hF : Found ops dsts R a0 w i a V := by
      refine ⟨hB, hdf, hsz, fun j hj => ?_, fun t ht => ?_⟩
      · have := cloL_sub hcl ops.size i hi hd j hj
        exact ⟨v j, (hdn j this).2.1, (hdn j this).2.2⟩
      · refine hrs t fun j hj e => ?_
        have hjl : j < dsts.length := by
          rcases Nat.lt_or_ge j dsts.length with h' | h'
          · exact h'
          · rw [List.getElem?_eq_none h'] at e; cases e
        have h1 := List.all_eq_true.1 ht j (List.mem_range.2 hjl)
        have h2 : dsts.getD j none = some t := by rw [List.getD_eq_getElem?_getD, e]; rfl
        rw [h2] at h1
        simp at h1
        have h3 := cloL_sub hcl ops.size j (by omega) (hcl j hj) i h1
        rw [h3] at hbi
        cases hbi
    refine wpOp_mono ?_ (step i hi a V hF)
    rintro a' V' ⟨x, rfl, hR, hb⟩
    have hbit : ∀ j, (b ||| 2 ^ i).testBit j = (b.testBit j || decide (i = j)) := fun j => by rw [Nat.testBit_or, Nat.testBit_two_pow]
    refine ⟨fun j => if j = i then x else v j, hB.trans (hb.mono hB.size), by rw [put_defers]; exact hdf, by rw [put_size]; exact hsz, fun j hj k hk => ?_, fun j hj => ?_, fun t ht => ?_⟩
    · rw [hbit] at hj ⊢
      simp only [Bool.or_eq_true, decide_eq_true_eq] at hj ⊢
      rcases hj with hj | rfl
      · exact .inl (hcl j hj k hk)
      · exact .inl (hd k hk)
    · rw [hbit] at hj
      simp only [Bool.or_eq_true, decide_eq_true_eq] at hj
      by_cases e : j = i
      · subst e
        refine ⟨hi, by simpa using hR, fun t ht => ?_⟩
        have hg : dsts.getD j none = some t := by rw [List.getD_eq_getElem?_getD, ht]; rfl
        rw [hg]
        have := slot_put_same (a := a) x (t := t) (by rw [hsz]; exact hin j t ht)
        simpa [slot] using this
      · have hj : b.testBit j = true := by rcases hj with h | h; exact h; exact (e h.symm).elim
        obtain ⟨g1, g2, g3⟩ := hdn j hj
        simp only [if_neg e]
        refine ⟨g1, stab j _ V V' g2 hb, fun t ht => ?_⟩
        have hil : i < dsts.length := by omega
        cases hdi : dsts.getD i none with
        | none => exact g3 t ht
        | some d =>
          have hdi' : dsts[i]? = some (some d) := by
            rw [List.getD_eq_getElem?_getD] at hdi
            rw [List.getElem?_eq_getElem hil] at hdi ⊢
            simpa using hdi
          have hne : d ≠ t := fun e' => e (hinj j i t ht (by rw [← e']; exact hdi'))
          have := slot_put_other (a := a) x hne
          simp only [slot] at this
          rw [this]
          exact g3 t ht
    · have h1 : ∀ j, b.testBit j = true → dsts[j]? ≠ some (some t) := fun j hj => ht j (by rw [hbit, hj]; rfl)
      have h2 : dsts[i]? ≠ some (some t) := ht i (by rw [hbit]; simp)
      have hil : i < dsts.length := by omega
      cases hdi : dsts.getD i none with
      | none => exact hrs t h1
      | some d =>
        have hdi' : dsts[i]? = some (some d) := by
          rw [List.getD_eq_getElem?_getD] at hdi
          rw [List.getElem?_eq_getElem hil] at hdi ⊢
          simpa using hdi
        have hne : d ≠ t := fun e' => h2 (by rw [← e']; exact hdi')
        have := slot_put_other (a := a) x hne
        simp only [slot] at this
        rw [this]
        exact hrs t h1
  · rintro a V ⟨v, hB, hdf, hsz, hcl, hdn, hrs⟩
    have hall : ∀ i, i < ops.size → (2 ^ ops.size - 1).testBit i = true := fun i hi => by rw [Nat.testBit_two_pow_sub_one]; simp [hi]
    have ea : a = ⟨⟨finD v 0 dsts a0.tmps.toList⟩, a0.defers⟩ := by
      obtain ⟨⟨T⟩, D⟩ := a
      simp only at hdf
      subst hdf
      congr 2
      apply List.ext_getElem?
      intro t
      have hT : T.length = a0.tmps.toList.length := by simpa using hsz
      have hfl := finD_length v dsts 0 a0.tmps.toList
      rcases Nat.lt_or_ge t T.length with htl | htl
      · have hT' : T[t]? = some (((⟨T⟩ : Array Value)[t]?).getD undef) := by
          simp [htl]
        by_cases hmem : ∃ i : Nat, dsts[i]? = some (some t)
        · obtain ⟨i, hi⟩ := hmem
          have hil : i < ops.size := by
            rcases Nat.lt_or_ge i dsts.length with h' | h'
            · omega
            · rw [List.getElem?_eq_none h'] at hi; cases hi
          have hf := finD_done v dsts 0 i a0.tmps.toList hnd hi (by omega)
          rw [Nat.zero_add] at hf
          rw [hf, hT', (hdn i (hall i hil)).2.2 t hi]
        · have hf := finD_rest v (t := t) dsts 0 a0.tmps.toList (fun h => by
            obtain ⟨i, hi, e⟩ := List.mem_iff_getElem.1 h
            exact hmem ⟨i, by rw [List.getElem?_eq_getElem hi, e]⟩)
          have hr := hrs t (fun i _ e => hmem ⟨i, e⟩)
          rw [hf, hT', hr]
          have : t < a0.tmps.size := by simpa [hT] using htl
          simp [this]
      · rw [List.getElem?_eq_none htl, List.getElem?_eq_none (by omega)]
    rw [ea]
    exact fin v V hB fun i hi => (hdn i (hall i hi)).2.1
/-- The same, with the values of all that has been done. -/
structure FoundG (ops : Array Oper) (dsts : List (Option Nat)) (a0 : Act) (w : World) (i b : Nat) (v : Nat → Value) (a : Act) (V : World) : Prop where
  defers : a.defers = a0.defers
  size : a.tmps.size = a0.tmps.size
  bits : ∀ j, (clo ops i).testBit j = true → b.testBit j = true
  dep : ∀ j t, (clo ops i).testBit j = true → dsts[j]? = some (some t) → a.tmps[t]?.getD undef = v j
  kept : ∀ t, keptB ops dsts i t = true → a.tmps[t]?.getD undef = a0.tmps[t]?.getD undef
theorem wp_region_gen {id : Nat} {a0 : Act} {w : World} (hm : P.follows .mixedOrders = true) (dsts : List (Option Nat)) (hok : regB ops dsts a0.tmps.size = true)
    (I : Nat → (Nat → Value) → World → Prop) (start : I 0 (fun _ => undef) w.drew)
    (step : ∀ i, i < ops.size → ∀ a V b v, I b v V → b.testBit i = false → FoundG ops dsts a0 w i b v a V → wpOp P ops Q i (fun a' V' => ∃ x, a' = a.put ((dsts.getD i none)) x ∧ I (b ||| 2 ^ i) (fun j => if j = i then x else v j) V') a V)
    (fin : ∀ (v : Nat → Value) V, I (2 ^ ops.size - 1) v V → Q .normal ⟨⟨finD v 0 dsts a0.tmps.toList⟩, a0.defers⟩ V) : (Code.region id ops true).wp P Q a0 w := by
  simp only [regB, Bool.and_eq_true, decide_eq_true_eq, beq_iff_eq, List.all_eq_true] at hok
  obtain ⟨⟨⟨ho, hds⟩, hnd⟩, hbd⟩ := hok
  have hok := regionOk_of ho
  have hlen : dsts.length = ops.size := by rw [← hds]; simp
  have hinj : ∀ (i j t : Nat), dsts[i]? = some (some t) → dsts[j]? = some (some t) → i = j := by
    have gen : ∀ (l : List (Option Nat)), (l.filterMap _root_.id).Nodup → ∀ (i j t : Nat), l[i]? = some (some t) → l[j]? = some (some t) → i = j := by
      intro l
      induction l with
      | nil => intro _ i j t h; simp at h
      | cons d l ih =>
        intro hn i j t h1 h2
        have hn' : (l.filterMap _root_.id).Nodup := by
          cases d with
          | none => simpa using hn
          | some d => simp only [List.filterMap_cons, _root_.id, List.nodup_cons] at hn; exact hn.2
        cases i with
        | zero =>
          cases j with
          | zero => rfl
          | succ j =>
            have e : d = some t := by simpa using h1
            subst e
            simp only [List.filterMap_cons, _root_.id, List.nodup_cons, List.mem_filterMap] at hn
            exact (hn.1 ⟨some t, List.mem_of_getElem? (by simpa using h2), rfl⟩).elim
        | succ i =>
          cases j with
          | zero =>
            have e : d = some t := by simpa using h2
            subst e
            simp only [List.filterMap_cons, _root_.id, List.nodup_cons, List.mem_filterMap] at hn
            exact (hn.1 ⟨some t, List.mem_of_getElem? (by simpa using h1), rfl⟩).elim
          | succ j => rw [ih hn' i j t (by simpa using h1) (by simpa using h2)]
    exact gen dsts hnd
  have hin : ∀ (i t : Nat), dsts[i]? = some (some t) → t < a0.tmps.size := by
    intro i t h
    exact hbd t (List.mem_filterMap.2 ⟨some t, List.mem_of_getElem? h, rfl⟩)
  refine wp_region_inv hm (depsOf ops) hok (fun b a V => ∃ v : Nat → Value, I b v V ∧ a.defers = a0.defers ∧ a.tmps.size = a0.tmps.size ∧ (∀ i, b.testBit i = true → ∀ j ∈ depsOf ops i, b.testBit j = true)
    ∧ (∀ i, b.testBit i = true → i < ops.size ∧ ∀ t, dsts[i]? = some (some t) → a.tmps[t]?.getD undef = v i)
    ∧ (∀ t, (∀ i, b.testBit i = true → dsts[i]? ≠ some (some t)) → a.tmps[t]?.getD undef = a0.tmps[t]?.getD undef)) ?_ ?_ ?_
  · exact ⟨fun _ => undef, start, rfl, rfl, fun i h => by simp at h, fun i h => by simp at h, fun t _ => rfl⟩
  · rintro b a V ⟨v, hB, hdf, hsz, hcl, hdn, hrs⟩ i hi hbi hd
    have hF : FoundG ops dsts a0 w i b v a V := by
      refine ⟨hdf, hsz, fun j hj => cloL_sub hcl ops.size i hi hd j hj, fun j t hj ht => ?_, fun t ht => ?_⟩
      · have := cloL_sub hcl ops.size i hi hd j hj
        exact (hdn j this).2 t ht
      · refine hrs t fun j hj e => ?_
        have hjl : j < dsts.length := by
          rcases Nat.lt_or_ge j dsts.length with h' | h'
          · exact h'
          · rw [List.getElem?_eq_none h'] at e; cases e
        have h1 := List.all_eq_true.1 ht j (List.mem_range.2 hjl)
        have h2 : dsts.getD j none = some t := by rw [List.getD_eq_getElem?_getD, e]; rfl
        rw [h2] at h1
        simp at h1
        have h3 := cloL_sub hcl ops.size j (by omega) (hcl j hj) i h1
        rw [h3] at hbi
        cases hbi
    refine wpOp_mono ?_ (step i hi a V b v hB hbi hF)
    rintro a' V' ⟨x, rfl, hR⟩
    have hbit : ∀ j, (b ||| 2 ^ i).testBit j = (b.testBit j || decide (i = j)) := fun j => by rw [Nat.testBit_or, Nat.testBit_two_pow]
    refine ⟨fun j => if j = i then x else v j, hR, by rw [put_defers]; exact hdf, by rw [put_size]; exact hsz, fun j hj k hk => ?_, fun j hj => ?_, fun t ht => ?_⟩
    · rw [hbit] at hj ⊢
      simp only [Bool.or_eq_true, decide_eq_true_eq] at hj ⊢
      rcases hj with hj | rfl
      · exact .inl (hcl j hj k hk)
      · exact .inl (hd k hk)
    · rw [hbit] at hj
      simp only [Bool.or_eq_true, decide_eq_true_eq] at hj
      by_cases e : j = i
      · subst e
        refine ⟨hi, fun t ht => ?_⟩
        have hg : dsts.getD j none = some t := by rw [List.getD_eq_getElem?_getD, ht]; rfl
        rw [hg]
        have := slot_put_same (a := a) x (t := t) (by rw [hsz]; exact hin j t ht)
        simpa [slot] using this
      · have hj : b.testBit j = true := by rcases hj with h | h; exact h; exact (e h.symm).elim
        obtain ⟨g1, g3⟩ := hdn j hj
        simp only [if_neg e]
        refine ⟨g1, fun t ht => ?_⟩
        have hil : i < dsts.length := by omega
        cases hdi : dsts.getD i none with
        | none => exact g3 t ht
        | some d =>
          have hdi' : dsts[i]? = some (some d) := by
            rw [List.getD_eq_getElem?_getD] at hdi
            rw [List.getElem?_eq_getElem hil] at hdi ⊢
            simpa using hdi
          have hne : d ≠ t := fun e' => e (hinj j i t ht (by rw [← e']; exact hdi'))
          have := slot_put_other (a := a) x hne
          simp only [slot] at this
          rw [this]
          exact g3 t ht
    · have h1 : ∀ j, b.testBit j = true → dsts[j]? ≠ some (some t) := fun j hj => ht j (by rw [hbit, hj]; rfl)
      have h2 : dsts[i]? ≠ some (some t) := ht i (by rw [hbit]; simp)
      have hil : i < dsts.length := by omega
      cases hdi : dsts.getD i none with
      | none => exact hrs t h1
      | some d =>
        have hdi' : dsts[i]? = some (some d) := by
          rw [List.getD_eq_getElem?_getD] at hdi
          rw [List.getElem?_eq_getElem hil] at hdi ⊢
          simpa using hdi
        have hne : d ≠ t := fun e' => h2 (by rw [← e']; exact hdi')
        have := slot_put_other (a := a) x hne
        simp only [slot] at this
        rw [this]
        exact hrs t h1
  · rintro a V ⟨v, hB, hdf, hsz, hcl, hdn, hrs⟩
    have hall : ∀ i, i < ops.size → (2 ^ ops.size - 1).testBit i = true := fun i hi => by rw [Nat.testBit_two_pow_sub_one]; simp [hi]
    have ea : a = ⟨⟨finD v 0 dsts a0.tmps.toList⟩, a0.defers⟩ := by
      obtain ⟨⟨T⟩, D⟩ := a
      simp only at hdf
      subst hdf
      congr 2
      apply List.ext_getElem?
      intro t
      have hT : T.length = a0.tmps.toList.length := by simpa using hsz
      have hfl := finD_length v dsts 0 a0.tmps.toList
      rcases Nat.lt_or_ge t T.length with htl | htl
      · have hT' : T[t]? = some (((⟨T⟩ : Array Value)[t]?).getD undef) := by
          simp [htl]
        by_cases hmem : ∃ i : Nat, dsts[i]? = some (some t)
        · obtain ⟨i, hi⟩ := hmem
          have hil : i < ops.size := by
            rcases Nat.lt_or_ge i dsts.length with h' | h'
            · omega
            · rw [List.getElem?_eq_none h'] at hi; cases hi
          have hf := finD_done v dsts 0 i a0.tmps.toList hnd hi (by omega)
          rw [Nat.zero_add] at hf
          rw [hf, hT', (hdn i (hall i hil)).2 t hi]
        · have hf := finD_rest v (t := t) dsts 0 a0.tmps.toList (fun h => by
            obtain ⟨i, hi, e⟩ := List.mem_iff_getElem.1 h
            exact hmem ⟨i, by rw [List.getElem?_eq_getElem hi, e]⟩)
          have hr := hrs t (fun i _ e => hmem ⟨i, e⟩)
          rw [hf, hT', hr]
          have : t < a0.tmps.size := by simpa [hT] using htl
          simp [this]
      · rw [List.getElem?_eq_none htl, List.getElem?_eq_none (by omega)]
    rw [ea]
    exact fin v V hB
/-- The slots behind all operations, for values that are known. -/
def finV : List (Option Nat) → List Value → List Value → List Value
  | d :: ds, v :: vs, T => finV ds vs (match d with | some t => T.set t v | none => T)
  | _, _, T => T
theorem finD_vals (v : Nat → Value) : ∀ (ds : List (Option Nat)) (vs : List Value) (i : Nat) (T : List Value), ds.length = vs.length → (∀ k, k < vs.length → v (i + k) = vs.getD k undef) → finD v i ds T = finV ds vs T
  | [], [], _, _, _, _ => rfl
  | [], _ :: _, _, _, h, _ => by simp at h
  | _ :: _, [], _, _, h, _ => by simp at h
  | d :: ds, x :: vs, i, T, h, hv => by
    unfold finD finV
    have h0 := hv 0 (by simp)
    rw [Nat.add_zero] at h0
    have e0 : v i = x := h0
    rw [e0]
    exact finD_vals v ds vs (i + 1) _ (by simpa using h) (fun k hk => by
      have := hv (k + 1) (by simpa using hk)
      rw [show i + 1 + k = i + (k + 1) by omega, this]
      rfl)
/-- The facts that an operation finds, for values that are known. -/
structure FoundV (ops : Array Oper) (dsts : List (Option Nat)) (vals : List Value) (a0 : Act) (w : World) (i : Nat) (a : Act) (V : World) : Prop where
  below : Below w.heap.size w V
  defers : a.defers = a0.defers
  size : a.tmps.size = a0.tmps.size
  dep : ∀ j t, (clo ops i).testBit j = true → dsts[j]? = some (some t) → a.tmps[t]?.getD undef = vals.getD j undef
  kept : ∀ t, keptB ops dsts i t = true → a.tmps[t]?.getD undef = a0.tmps[t]?.getD undef
theorem wp_region_vals {id : Nat} {a0 : Act} {w : World} (hm : P.follows .mixedOrders = true) (dsts : List (Option Nat)) (hok : regB ops dsts a0.tmps.size = true) (vals : List Value) (hl : vals.length = ops.size)
    (step : ∀ i, i < ops.size → ∀ a V, FoundV ops dsts vals a0 w i a V → wpOp P ops Q i (fun a' V' => a' = a.put (dsts.getD i none) (vals.getD i undef) ∧ Below V.heap.size V V') a V)
    (fin : ∀ V, Below w.heap.size w V → Q .normal ⟨⟨finV dsts vals a0.tmps.toList⟩, a0.defers⟩ V) : (Code.region id ops true).wp P Q a0 w := by
  refine wp_region_mono hm dsts hok (fun i x _ => x = vals.getD i undef) (fun _ _ _ _ h _ => h) ?_ ?_
  · intro i hi a V F
    refine wpOp_mono ?_ (step i hi a V ⟨F.below, F.defers, F.size, fun j t hj ht => ?_, F.kept⟩)
    · rintro a' V' ⟨rfl, hb⟩
      exact ⟨_, rfl, rfl, hb⟩
    · obtain ⟨x, rfl, h⟩ := F.dep j hj
      exact h t ht
  · intro v V hb hv
    simp only [regB, Bool.and_eq_true, decide_eq_true_eq, beq_iff_eq, List.all_eq_true] at hok
    have hlen : dsts.length = ops.size := by rw [← hok.1.1.2]; simp
    rw [finD_vals v dsts vals 0 _ (by omega) (fun k hk => by rw [Nat.zero_add]; exact hv k (by omega))]
    exact fin V hb
/-- The same, where the last operation comes behind all others, and may write. -/
theorem wp_region_last {id : Nat} {a0 : Act} {w : World} (hm : P.follows .mixedOrders = true) (dsts : List (Option Nat)) (hok : regB ops dsts a0.tmps.size = true) (vals : List Value) (hl : vals.length + 1 = ops.size)
    (hcl : clo ops vals.length = 2 ^ vals.length - 1) (L : Value → World → Prop)
    (step : ∀ i, i < vals.length → ∀ a V, FoundV ops dsts vals a0 w i a V → wpOp P ops Q i (fun a' V' => a' = a.put (dsts.getD i none) (vals.getD i undef) ∧ Below V.heap.size V V') a V)
    (last : ∀ a V, FoundV ops dsts vals a0 w vals.length a V → wpOp P ops Q vals.length (fun a' V' => ∃ x, a' = a.put (dsts.getD vals.length none) x ∧ L x V') a V)
    (fin : ∀ x V, L x V → Q .normal ⟨⟨finV dsts (vals ++ [x]) a0.tmps.toList⟩, a0.defers⟩ V) : (Code.region id ops true).wp P Q a0 w := by
  obtain ⟨m, hm'⟩ : ∃ m, vals.length = m := ⟨_, rfl⟩
  rw [hm'] at hl hcl last step
  have hall : ∀ j, j < m → (clo ops m).testBit j = true := fun j hj => by rw [hcl, Nat.testBit_two_pow_sub_one]; simp [hj]
  have hgd : ∀ b i j, (b ||| 2 ^ i).testBit j = (b.testBit j || decide (i = j)) := fun b i j => by rw [Nat.testBit_or, Nat.testBit_two_pow]
  refine wp_region_gen hm dsts hok (fun b v V => (b.testBit m = true → ∀ j, j < m → b.testBit j = true) ∧ (b.testBit m = false → Below w.heap.size w V) ∧ (b.testBit m = true → L (v m) V) ∧ ∀ j, j < m → b.testBit j = true → v j = vals.getD j undef) ?_ ?_ ?_
  · exact ⟨fun h => by simp at h, fun _ => (Below.refl _ _).drew, fun h => by simp at h, fun j _ h => by simp at h⟩
  · rintro i hi a V b v ⟨h1, h2, h3, h4⟩ hbi F
    by_cases e : i = m
    · subst e
      have hF : FoundV ops dsts vals a0 w i a V := ⟨h2 hbi, F.defers, F.size, fun j t hj ht => by
        rw [F.dep j t hj ht]
        refine h4 j ?_ (F.bits j hj)
        rw [hcl, Nat.testBit_two_pow_sub_one] at hj
        simpa using hj, F.kept⟩
      refine wpOp_mono ?_ (last a V hF)
      rintro a' V' ⟨x, rfl, hL⟩
      refine ⟨x, rfl, fun _ j hj => ?_, fun h => ?_, fun _ => by simpa using hL, fun j hj hb => ?_⟩
      · rw [hgd, F.bits j (hall j hj)]; rfl
      · rw [hgd] at h; simp at h
      · show (if j = i then x else v j) = _
        rw [if_neg (by omega)]
        exact h4 j hj (F.bits j (hall j hj))
    · have hi' : i < m := by omega
      have hbm : b.testBit m = false := by
        cases hb : b.testBit m with
        | false => rfl
        | true => rw [h1 hb i hi'] at hbi; cases hbi
      have hF : FoundV ops dsts vals a0 w i a V := ⟨h2 hbm, F.defers, F.size, fun j t hj ht => by
        rw [F.dep j t hj ht]
        refine h4 j ?_ (F.bits j hj)
        have hne : j ≠ m := fun e' => by subst e'; rw [F.bits j hj] at hbm; cases hbm
        have hjl : j < dsts.length := by
          rcases Nat.lt_or_ge j dsts.length with h' | h'
          · exact h'
          · rw [List.getElem?_eq_none h'] at ht; cases ht
        have hlen : dsts.length = ops.size := by
          simp only [regB, Bool.and_eq_true, decide_eq_true_eq, beq_iff_eq, List.all_eq_true] at hok
          rw [← hok.1.1.2]; simp
        omega, F.kept⟩
      refine wpOp_mono ?_ (step i hi' a V hF)
      rintro a' V' ⟨rfl, hb⟩
      refine ⟨_, rfl, fun h => ?_, fun h => (h2 hbm).trans (hb.mono (h2 hbm).size), fun h => ?_, fun j hj h => ?_⟩
      · rw [hgd, hbm] at h; simp [e] at h
      · rw [hgd, hbm] at h; simp [e] at h
      · show (if j = i then vals.getD i undef else v j) = _
        by_cases e' : j = i
        · rw [if_pos e', e']
        · rw [if_neg e']
          rw [hgd] at h
          simp only [Bool.or_eq_true, decide_eq_true_eq] at h
          exact h4 j hj (by rcases h with h | h; exact h; exact (e' h.symm).elim)
  · rintro v V ⟨h1, h2, h3, h4⟩
    have hfull : ∀ j, j < ops.size → (2 ^ ops.size - 1).testBit j = true := fun j hj => by rw [Nat.testBit_two_pow_sub_one]; simp [hj]
    have hlen : dsts.length = ops.size := by
      simp only [regB, Bool.and_eq_true, decide_eq_true_eq, beq_iff_eq, List.all_eq_true] at hok
      rw [← hok.1.1.2]; simp
    have hv : ∀ k, k < (vals ++ [v m]).length → v (0 + k) = (vals ++ [v m]).getD k undef := fun k hk => by
      rw [Nat.zero_add]
      by_cases e : k = m
      · subst e
        rw [List.getD_eq_getElem?_getD, List.getElem?_append_right (by omega), hm']
        simp
      · have hk' : k < m := by simp at hk; omega
        rw [h4 k hk' (hfull k (by omega)), List.getD_eq_getElem?_getD, List.getD_eq_getElem?_getD, List.getElem?_append_left (by omega)]
    rw [finD_vals v dsts (vals ++ [v m]) 0 _ (by simp; omega) hv]
    exact fin _ V (h3 (hfull m (by omega)))
end
theorem eval_tmp {a : Act} {t : Nat} {v : Value} (h : a.tmps[t]?.getD undef = v) : a.eval (.tmp t) = v := by
  rw [← h]
  simp [Act.eval, Array.getD]
  split <;> simp_all
theorem yielded_of {ops : Array Oper} {T : Array Value} {j t : Nat} {b : Bool} (hj : (ops[j]?).bind (·.dst) = some t) (h : T[t]?.getD undef = .bool b) : yielded ops T j = some b := by
  unfold yielded
  rw [hj]
  show (match T[t]? with | some (.bool b) => some b | _ => none) = some b
  cases hT : T[t]? with
  | none => rw [hT] at h; cases h
  | some v => rw [hT] at h; simp only [Option.getD_some] at h; subst h; rfl
theorem wanted_of {ops : Array Oper} {T : Array Value} {o : Oper} {j t : Nat} {b : Bool} (ho : o.guard = some (j, b)) (hj : (ops[j]?).bind (·.dst) = some t) (h : T[t]?.getD undef = .bool b) : Region.wanted o (yielded ops T) = true := by
  unfold Region.wanted
  rw [ho]
  simp [yielded_of hj h]
theorem unwanted_of {ops : Array Oper} {T : Array Value} {o : Oper} {j t : Nat} {b c : Bool} (ho : o.guard = some (j, c)) (hj : (ops[j]?).bind (·.dst) = some t) (h : T[t]?.getD undef = .bool b) (hne : b ≠ c) : ¬ Region.wanted o (yielded ops T) = true := by
  unfold Region.wanted
  rw [ho]
  simp [yielded_of hj h, hne]
end Go.Proofs.YtdnccdobnhbpeaaDoor
