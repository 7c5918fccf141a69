/-
  The same rules for regions whose order is drawn, inside a fence (range over func).
-/
import Derived.Test.YtdnccdobnhbpeaaDoorRgm
namespace Go.Proofs.YtdnccdobnhbpeaaDoor
open Go Go.RowKit
set_option linter.unusedVariables false
set_option linter.unusedSimpArgs false
section
variable {F : Fence} {n : Nat} {P : Program} {ops : Array Oper} {Q : Exit → Act → World → Prop}
theorem wpIn_region_mono {id : Nat} {a0 : Act} {w : World} (hm : P.follows .mixedOrders = true) (dsts : List (Option Nat)) (hok : regB ops dsts a0.tmps.size = true)
    (R : Nat → Value → World → Prop)
    (stab : ∀ i x V V', R i x V → Below V.heap.size V V' → R i x V')
    (step : ∀ i, i < ops.size → ∀ a V, Found ops dsts R a0 w i a V → wpOpIn F n P ops Q i (fun a' V' => ∃ x, a' = a.put ((dsts.getD i none)) x ∧ R i x V' ∧ Below V.heap.size V V') a V)
    (fin : ∀ (v : Nat → Value) V, Below w.heap.size w V → (∀ i, i < ops.size → R i (v i) V) → Q .normal ⟨⟨finD v 0 dsts a0.tmps.toList⟩, a0.defers⟩ V) : (Code.region id ops true).wpIn F n P Q a0 w := by
  simp only [regB, Bool.and_eq_true, decide_eq_true_eq, beq_iff_eq, List.all_eq_true] at hok
  obtain ⟨⟨⟨ho, hds⟩, hnd⟩, hbd⟩ := hok
  have hok := regionOk_of ho
  have hlen : dsts.length = ops.size := by rw [← hds]; simp
  have hinj : ∀ (i j t : Nat), dsts[i]? = some (some t) → dsts[j]? = some (some t) → i = j := by
    have gen : ∀ (l : List (Option Nat)), (l.filterMap _root_.id).Nodup → ∀ (i j t : Nat), l[i]? = some (some t) → l[j]? = some (some t) → i = j := by
      intro l
      induction l with
      | nil => intro _ i j t h; simp at h
      | cons d l ih =>
        intro hn i j t h1 h2
        have hn' : (l.filterMap _root_.id).Nodup := by
          cases d with
          | none => simpa using hn
          | some d => simp only [List.filterMap_cons, _root_.id, List.nodup_cons] at hn; exact hn.2
        cases i with
        | zero =>
          cases j with
          | zero => rfl
          | succ j =>
            have e : d = some t := by simpa using h1
            subst e
            simp only [List.filterMap_cons, _root_.id, List.nodup_cons, List.mem_filterMap] at hn
            exact (hn.1 ⟨some t, List.mem_of_getElem? (by simpa using h2), rfl⟩).elim
        | succ i =>
          cases j with
          | zero =>
            have e : d = some t := by simpa using h2
            subst e
            simp only [List.filterMap_cons, _root_.id, List.nodup_cons, List.mem_filterMap] at hn
            exact (hn.1 ⟨some t, List.mem_of_getElem? (by simpa using h1), rfl⟩).elim
          | succ j => rw [ih hn' i j t (by simpa using h1) (by simpa using h2)]
    exact gen dsts hnd
  have hin : ∀ (i t : Nat), dsts[i]? = some (some t) → t < a0.tmps.size := by
    intro i t h
    exact hbd t (List.mem_filterMap.2 ⟨some t, List.mem_of_getElem? h, rfl⟩)
  refine wpIn_region_inv hm (depsOf ops) hok (fun b a V => ∃ v : Nat → Value, Below w.heap.size w V ∧ a.defers = a0.defers ∧ a.tmps.size = a0.tmps.size ∧ (∀ i, b.testBit i = true → ∀ j ∈ depsOf ops i, b.testBit j = true)
    ∧ (∀ i, b.testBit i = true → i < ops.size ∧ R i (v i) V ∧ ∀ t, dsts[i]? = some (some t) → a.tmps[t]?.getD undef = v i)
    ∧ (∀ t, (∀ i, b.testBit i = true → dsts[i]? ≠ some (some t)) → a.tmps[t]?.getD undef = a0.tmps[t]?.getD undef)) ?_ ?_ ?_
  · exact ⟨fun _ => undef, (Below.refl _ _).drew, rfl, rfl, fun i h => by simp at h, fun i h => by simp at h, fun t _ => rfl⟩
  · rintro b a V ⟨v, hB, hdf, hsz, hcl, hdn, hrs⟩ i hi hbi hd
    have hF : Found ops dsts R a0 w i a V := by
      refine ⟨hB, hdf, hsz, fun j hj => ?_, fun t ht => ?_⟩
      · have := cloL_sub hcl ops.size i hi hd j hj
        exact ⟨v j, (hdn j this).2.1, (hdn j this).2.2⟩
      · refine hrs t fun j hj e => ?_
        have hjl : j < dsts.length := by
          rcases Nat.lt_or_ge j dsts.length with h' | h'
          · exact h'
          · rw [List.getElem?_eq_none h'] at e; cases e
        have h1 := List.all_eq_true.1 ht j (List.mem_range.2 hjl)
        have h2 : dsts.getD j none = some t := by rw [List.getD_eq_getElem?_getD, e]; rfl
        rw [h2] at h1
        simp at h1
        have h3 := cloL_sub hcl ops.size j (by omega) (hcl j hj) i h1
        rw [h3] at hbi
        cases hbi
    refine wpOpIn_mono ?_ (step i hi a V hF)
    rintro a' V' ⟨x, rfl, hR, hb⟩
    have hbit : ∀ j, (b ||| 2 ^ i).testBit j = (b.testBit j || decide (i = j)) := fun j => by rw [Nat.testBit_or, Nat.testBit_two_pow]
    refine ⟨fun j => if j = i then x else v j, hB.trans (hb.mono hB.size), by rw [put_defers]; exact hdf, by rw [put_size]; exact hsz, fun j hj k hk => ?_, fun j hj => ?_, fun t ht => ?_⟩
    · rw [hbit] at hj ⊢
      simp only [Bool.or_eq_true, decide_eq_true_eq] at hj ⊢
      rcases hj with hj | rfl
      · exact .inl (hcl j hj k hk)
      · exact .inl (hd k hk)
    · rw [hbit] at hj
      simp only [Bool.or_eq_true, decide_eq_true_eq] at hj
      by_cases e : j = i
      · subst e
        refine ⟨hi, by simpa using hR, fun t ht => ?_⟩
        have hg : dsts.getD j none = some t := by rw [List.getD_eq_getElem?_getD, ht]; rfl
        rw [hg]
        have := slot_put_same (a := a) x (t := t) (by rw [hsz]; exact hin j t ht)
        simpa [slot] using this
      · have hj : b.testBit j = true := by rcases hj with h | h; exact h; exact (e h.symm).elim
        obtain ⟨g1, g2, g3⟩ := hdn j hj
        simp only [if_neg e]
        refine ⟨g1, stab j _ V V' g2 hb, fun t ht => ?_⟩
        have hil : i < dsts.length := by omega
        cases hdi : dsts.getD i none with
        | none => exact g3 t ht
        | some d =>
          have hdi' : dsts[i]? = some (some d) := by
            rw [List.getD_eq_getElem?_getD] at hdi
            rw [List.getElem?_eq_getElem hil] at hdi ⊢
            simpa using hdi
          have hne : d ≠ t := fun e' => e (hinj j i t ht (by rw [← e']; exact hdi'))
          have := slot_put_other (a := a) x hne
          simp only [slot] at this
          rw [this]
          exact g3 t ht
    · have h1 : ∀ j, b.testBit j = true → dsts[j]? ≠ some (some t) := fun j hj => ht j (by rw [hbit, hj]; rfl)
      have h2 : dsts[i]? ≠ some (some t) := ht i (by rw [hbit]; simp)
      have hil : i < dsts.length := by omega
      cases hdi : dsts.getD i none with
      | none => exact hrs t h1
      | some d =>
        have hdi' : dsts[i]? = some (some d) := by
          rw [List.getD_eq_getElem?_getD] at hdi
          rw [List.getElem?_eq_getElem hil] at hdi ⊢
          simpa using hdi
        have hne : d ≠ t := fun e' => h2 (by rw [← e']; exact hdi')
        have := slot_put_other (a := a) x hne
        simp only [slot] at this
        rw [this]
        exact hrs t h1
  · rintro a V ⟨v, hB, hdf, hsz, hcl, hdn, hrs⟩
    have hall : ∀ i, i < ops.size → (2 ^ ops.size - 1).testBit i = true := fun i hi => by rw [Nat.testBit_two_pow_sub_one]; simp [hi]
    have ea : a = ⟨⟨finD v 0 dsts a0.tmps.toList⟩, a0.defers⟩ := by
      obtain ⟨⟨T⟩, D⟩ := a
      simp only at hdf
      subst hdf
      congr 2
      apply List.ext_getElem?
      intro t
      have hT : T.length = a0.tmps.toList.length := by simpa using hsz
      have hfl := finD_length v dsts 0 a0.tmps.toList
      rcases Nat.lt_or_ge t T.length with htl | htl
      · have hT' : T[t]? = some (((⟨T⟩ : Array Value)[t]?).getD undef) := by
          simp [htl]
        by_cases hmem : ∃ i : Nat, dsts[i]? = some (some t)
        · obtain ⟨i, hi⟩ := hmem
          have hil : i < ops.size := by
            rcases Nat.lt_or_ge i dsts.length with h' | h'
            · omega
            · rw [List.getElem?_eq_none h'] at hi; cases hi
          have hf := finD_done v dsts 0 i a0.tmps.toList hnd hi (by omega)
          rw [Nat.zero_add] at hf
          rw [hf, hT', (hdn i (hall i hil)).2.2 t hi]
        · have hf := finD_rest v (t := t) dsts 0 a0.tmps.toList (fun h => by
            obtain ⟨i, hi, e⟩ := List.mem_iff_getElem.1 h
            exact hmem ⟨i, by rw [List.getElem?_eq_getElem hi, e]⟩)
          have hr := hrs t (fun i _ e => hmem ⟨i, e⟩)
          rw [hf, hT', hr]
          have : t < a0.tmps.size := by simpa [hT] using htl
          simp [this]
      · rw [List.getElem?_eq_none htl, List.getElem?_eq_none (by omega)]
    rw [ea]
    exact fin v V hB fun i hi => (hdn i (hall i hi)).2.1
theorem wpIn_region_gen {id : Nat} {a0 : Act} {w : World} (hm : P.follows .mixedOrders = true) (dsts : List (Option Nat)) (hok : regB ops dsts a0.tmps.size = true)
    (I : Nat → (Nat → Value) → World → Prop) (start : I 0 (fun _ => undef) w.drew)
    (step : ∀ i, i < ops.size → ∀ a V b v, I b v V → b.testBit i = false → FoundG ops dsts a0 w i b v a V → wpOpIn F n P ops Q i (fun a' V' => ∃ x, a' = a.put ((dsts.getD i none)) x ∧ I (b ||| 2 ^ i) (fun j => if j = i then x else v j) V') a V)
    (fin : ∀ (v : Nat → Value) V, I (2 ^ ops.size - 1) v V → Q .normal ⟨⟨finD v 0 dsts a0.tmps.toList⟩, a0.defers⟩ V) : (Code.region id ops true).wpIn F n P Q a0 w := by
  simp only [regB, Bool.and_eq_true, decide_eq_true_eq, beq_iff_eq, List.all_eq_true] at hok
  obtain ⟨⟨⟨ho, hds⟩, hnd⟩, hbd⟩ := hok
  have hok := regionOk_of ho
  have hlen : dsts.length = ops.size := by rw [← hds]; simp
  have hinj : ∀ (i j t : Nat), dsts[i]? = some (some t) → dsts[j]? = some (some t) → i = j := by
    have gen : ∀ (l : List (Option Nat)), (l.filterMap _root_.id).Nodup → ∀ (i j t : Nat), l[i]? = some (some t) → l[j]? = some (some t) → i = j := by
      intro l
      induction l with
      | nil => intro _ i j t h; simp at h
      | cons d l ih =>
        intro hn i j t h1 h2
        have hn' : (l.filterMap _root_.id).Nodup := by
          cases d with
          | none => simpa using hn
          | some d => simp only [List.filterMap_cons, _root_.id, List.nodup_cons] at hn; exact hn.2
        cases i with
        | zero =>
          cases j with
          | zero => rfl
          | succ j =>
            have e : d = some t := by simpa using h1
            subst e
            simp only [List.filterMap_cons, _root_.id, List.nodup_cons, List.mem_filterMap] at hn
            exact (hn.1 ⟨some t, List.mem_of_getElem? (by simpa using h2), rfl⟩).elim
        | succ i =>
          cases j with
          | zero =>
            have e : d = some t := by simpa using h2
            subst e
            simp only [List.filterMap_cons, _root_.id, List.nodup_cons, List.mem_filterMap] at hn
            exact (hn.1 ⟨some t, List.mem_of_getElem? (by simpa using h1), rfl⟩).elim
          | succ j => rw [ih hn' i j t (by simpa using h1) (by simpa using h2)]
    exact gen dsts hnd
  have hin : ∀ (i t : Nat), dsts[i]? = some (some t) → t < a0.tmps.size := by
    intro i t h
    exact hbd t (List.mem_filterMap.2 ⟨some t, List.mem_of_getElem? h, rfl⟩)
  refine wpIn_region_inv hm (depsOf ops) hok (fun b a V => ∃ v : Nat → Value, I b v V ∧ a.defers = a0.defers ∧ a.tmps.size = a0.tmps.size ∧ (∀ i, b.testBit i = true → ∀ j ∈ depsOf ops i, b.testBit j = true)
    ∧ (∀ i, b.testBit i = true → i < ops.size ∧ ∀ t, dsts[i]? = some (some t) → a.tmps[t]?.getD undef = v i)
    ∧ (∀ t, (∀ i, b.testBit i = true → dsts[i]? ≠ some (some t)) → a.tmps[t]?.getD undef = a0.tmps[t]?.getD undef)) ?_ ?_ ?_
  · exact ⟨fun _ => undef, start, rfl, rfl, fun i h => by simp at h, fun i h => by simp at h, fun t _ => rfl⟩
  · rintro b a V ⟨v, hB, hdf, hsz, hcl, hdn, hrs⟩ i hi hbi hd
    have hF : FoundG ops dsts a0 w i b v a V := by
      refine ⟨hdf, hsz, fun j hj => cloL_sub hcl ops.size i hi hd j hj, fun j t hj ht => ?_, fun t ht => ?_⟩
      · have := cloL_sub hcl ops.size i hi hd j hj
        exact (hdn j this).2 t ht
      · refine hrs t fun j hj e => ?_
        have hjl : j < dsts.length := by
          rcases Nat.lt_or_ge j dsts.length with h' | h'
          · exact h'
          · rw [List.getElem?_eq_none h'] at e; cases e
        have h1 := List.all_eq_true.1 ht j (List.mem_range.2 hjl)
        have h2 : dsts.getD j none = some t := by rw [List.getD_eq_getElem?_getD, e]; rfl
        rw [h2] at h1
        simp at h1
        have h3 := cloL_sub hcl ops.size j (by omega) (hcl j hj) i h1
        rw [h3] at hbi
        cases hbi
    refine wpOpIn_mono ?_ (step i hi a V b v hB hbi hF)
    rintro a' V' ⟨x, rfl, hR⟩
    have hbit : ∀ j, (b ||| 2 ^ i).testBit j = (b.testBit j || decide (i = j)) := fun j => by rw [Nat.testBit_or, Nat.testBit_two_pow]
    refine ⟨fun j => if j = i then x else v j, hR, by rw [put_defers]; exact hdf, by rw [put_size]; exact hsz, fun j hj k hk => ?_, fun j hj => ?_, fun t ht => ?_⟩
    · rw [hbit] at hj ⊢
      simp only [Bool.or_eq_true, decide_eq_true_eq] at hj ⊢
      rcases hj with hj | rfl
      · exact .inl (hcl j hj k hk)
      · exact .inl (hd k hk)
    · rw [hbit] at hj
      simp only [Bool.or_eq_true, decide_eq_true_eq] at hj
      by_cases e : j = i
      · subst e
        refine ⟨hi, fun t ht => ?_⟩
        have hg : dsts.getD j none = some t := by rw [List.getD_eq_getElem?_getD, ht]; rfl
        rw [hg]
        have := slot_put_same (a := a) x (t := t) (by rw [hsz]; exact hin j t ht)
        simpa [slot] using this
      · have hj : b.testBit j = true := by rcases hj with h | h; exact h; exact (e h.symm).elim
        obtain ⟨g1, g3⟩ := hdn j hj
        simp only [if_neg e]
        refine ⟨g1, fun t ht => ?_⟩
        have hil : i < dsts.length := by omega
        cases hdi : dsts.getD i none with
        | none => exact g3 t ht
        | some d =>
          have hdi' : dsts[i]? = some (some d) := by
            rw [List.getD_eq_getElem?_getD] at hdi
            rw [List.getElem?_eq_getElem hil] at hdi ⊢
            simpa using hdi
          have hne : d ≠ t := fun e' => e (hinj j i t ht (by rw [← e']; exact hdi'))
          have := slot_put_other (a := a) x hne
          simp only [slot] at this
          rw [this]
          exact g3 t ht
    · have h1 : ∀ j, b.testBit j = true → dsts[j]? ≠ some (some t) := fun j hj => ht j (by rw [hbit, hj]; rfl)
      have h2 : dsts[i]? ≠ some (some t) := ht i (by rw [hbit]; simp)
      have hil : i < dsts.length := by omega
      cases hdi : dsts.getD i none with
      | none => exact hrs t h1
      | some d =>
        have hdi' : dsts[i]? = some (some d) := by
          rw [List.getD_eq_getElem?_getD] at hdi
          rw [List.getElem?_eq_getElem hil] at hdi ⊢
          simpa using hdi
        have hne : d ≠ t := fun e' => h2 (by rw [← e']; exact hdi')
        have := slot_put_other (a := a) x hne
        simp only [slot] at this
        rw [this]
        exact hrs t h1
  · rintro a V ⟨v, hB, hdf, hsz, hcl, hdn, hrs⟩
    have hall : ∀ i, i < ops.size → (2 ^ ops.size - 1).testBit i = true := fun i hi => by rw [Nat.testBit_two_pow_sub_one]; simp [hi]
    have ea : a = ⟨⟨finD v 0 dsts a0.tmps.toList⟩, a0.defers⟩ := by
      obtain ⟨⟨T⟩, D⟩ := a
      simp only at hdf
      subst hdf
      congr 2
      apply List.ext_getElem?
      intro t
      have hT : T.length = a0.tmps.toList.length := by simpa using hsz
      have hfl := finD_length v dsts 0 a0.tmps.toList
      rcases Nat.lt_or_ge t T.length with htl | htl
      · have hT' : T[t]? = some (((⟨T⟩ : Array Value)[t]?).getD undef) := by
          simp [htl]
        by_cases hmem : ∃ i : Nat, dsts[i]? = some (some t)
        · obtain ⟨i, hi⟩ := hmem
          have hil : i < ops.size := by
            rcases Nat.lt_or_ge i dsts.length with h' | h'
            · omega
            · rw [List.getElem?_eq_none h'] at hi; cases hi
          have hf := finD_done v dsts 0 i a0.tmps.toList hnd hi (by omega)
          rw [Nat.zero_add] at hf
          rw [hf, hT', (hdn i (hall i hil)).2 t hi]
        · have hf := finD_rest v (t := t) dsts 0 a0.tmps.toList (fun h => by
            obtain ⟨i, hi, e⟩ := List.mem_iff_getElem.1 h
            exact hmem ⟨i, by rw [List.getElem?_eq_getElem hi, e]⟩)
          have hr := hrs t (fun i _ e => hmem ⟨i, e⟩)
          rw [hf, hT', hr]
          have : t < a0.tmps.size := by simpa [hT] using htl
          simp [this]
      · rw [List.getElem?_eq_none htl, List.getElem?_eq_none (by omega)]
    rw [ea]
    exact fin v V hB
theorem wpIn_region_vals {id : Nat} {a0 : Act} {w : World} (hm : P.follows .mixedOrders = true) (dsts : List (Option Nat)) (hok : regB ops dsts a0.tmps.size = true) (vals : List Value) (hl : vals.length = ops.size)
    (step : ∀ i, i < ops.size → ∀ a V, FoundV ops dsts vals a0 w i a V → wpOpIn F n P ops Q i (fun a' V' => a' = a.put (dsts.getD i none) (vals.getD i undef) ∧ Below V.heap.size V V') a V)
    (fin : ∀ V, Below w.heap.size w V → Q .normal ⟨⟨finV dsts vals a0.tmps.toList⟩, a0.defers⟩ V) : (Code.region id ops true).wpIn F n P Q a0 w := by
  refine wpIn_region_mono hm dsts hok (fun i x _ => x = vals.getD i undef) (fun _ _ _ _ h _ => h) ?_ ?_
  · intro i hi a V F
    refine wpOpIn_mono ?_ (step i hi a V ⟨F.below, F.defers, F.size, fun j t hj ht => ?_, F.kept⟩)
    · rintro a' V' ⟨rfl, hb⟩
      exact ⟨_, rfl, rfl, hb⟩
    · obtain ⟨x, rfl, h⟩ := F.dep j hj
      exact h t ht
  · intro v V hb hv
    simp only [regB, Bool.and_eq_true, decide_eq_true_eq, beq_iff_eq, List.all_eq_true] at hok
    have hlen : dsts.length = ops.size := by rw [← hok.1.1.2]; simp
    rw [finD_vals v dsts vals 0 _ (by omega) (fun k hk => by rw [Nat.zero_add]; exact hv k (by omega))]
    exact fin V hb
/-- The same, where the last operation comes behind all others, and may write. -/
theorem wpIn_region_last {id : Nat} {a0 : Act} {w : World} (hm : P.follows .mixedOrders = true) (dsts : List (Option Nat)) (hok : regB ops dsts a0.tmps.size = true) (vals : List Value) (hl : vals.length + 1 = ops.size)
    (hcl : clo ops vals.length = 2 ^ vals.length - 1) (L : Value → World → Prop)
    (step : ∀ i, i < vals.length → ∀ a V, FoundV ops dsts vals a0 w i a V → wpOpIn F n P ops Q i (fun a' V' => a' = a.put (dsts.getD i none) (vals.getD i undef) ∧ Below V.heap.size V V') a V)
    (last : ∀ a V, FoundV ops dsts vals a0 w vals.length a V → wpOpIn F n P ops Q vals.length (fun a' V' => ∃ x, a' = a.put (dsts.getD vals.length none) x ∧ L x V') a V)
    (fin : ∀ x V, L x V → Q .normal ⟨⟨finV dsts (vals ++ [x]) a0.tmps.toList⟩, a0.defers⟩ V) : (Code.region id ops true).wpIn F n P Q a0 w := by
  obtain ⟨m, hm'⟩ : ∃ m, vals.length = m := ⟨_, rfl⟩
  rw [hm'] at hl hcl last step
  have hall : ∀ j, j < m → (clo ops m).testBit j = true := fun j hj => by rw [hcl, Nat.testBit_two_pow_sub_one]; simp [hj]
  have hgd : ∀ b i j, (b ||| 2 ^ i).testBit j = (b.testBit j || decide (i = j)) := fun b i j => by rw [Nat.testBit_or, Nat.testBit_two_pow]
  refine wpIn_region_gen hm dsts hok (fun b v V => (b.testBit m = true → ∀ j, j < m → b.testBit j = true) ∧ (b.testBit m = false → Below w.heap.size w V) ∧ (b.testBit m = true → L (v m) V) ∧ ∀ j, j < m → b.testBit j = true → v j = vals.getD j undef) ?_ ?_ ?_
  · exact ⟨fun h => by simp at h, fun _ => (Below.refl _ _).drew, fun h => by simp at h, fun j _ h => by simp at h⟩
  · rintro i hi a V b v ⟨h1, h2, h3, h4⟩ hbi F
    by_cases e : i = m
    · subst e
      have hF : FoundV ops dsts vals a0 w i a V := ⟨h2 hbi, F.defers, F.size, fun j t hj ht => by
        rw [F.dep j t hj ht]
        refine h4 j ?_ (F.bits j hj)
        rw [hcl, Nat.testBit_two_pow_sub_one] at hj
        simpa using hj, F.kept⟩
      refine wpOpIn_mono ?_ (last a V hF)
      rintro a' V' ⟨x, rfl, hL⟩
      refine ⟨x, rfl, fun _ j hj => ?_, fun h => ?_, fun _ => by simpa using hL, fun j hj hb => ?_⟩
      · rw [hgd, F.bits j (hall j hj)]; rfl
      · rw [hgd] at h; simp at h
      · show (if j = i then x else v j) = _
        rw [if_neg (by omega)]
        exact h4 j hj (F.bits j (hall j hj))
    · have hi' : i < m := by omega
      have hbm : b.testBit m = false := by
        cases hb : b.testBit m with
        | false => rfl
        | true => rw [h1 hb i hi'] at hbi; cases hbi
      have hF : FoundV ops dsts vals a0 w i a V := ⟨h2 hbm, F.defers, F.size, fun j t hj ht => by
        rw [F.dep j t hj ht]
        refine h4 j ?_ (F.bits j hj)
        have hne : j ≠ m := fun e' => by subst e'; rw [F.bits j hj] at hbm; cases hbm
        have hjl : j < dsts.length := by
          rcases Nat.lt_or_ge j dsts.length with h' | h'
          · exact h'
          · rw [List.getElem?_eq_none h'] at ht; cases ht
        have hlen : dsts.length = ops.size := by
          simp only [regB, Bool.and_eq_true, decide_eq_true_eq, beq_iff_eq, List.all_eq_true] at hok
          rw [← hok.1.1.2]; simp
        omega, F.kept⟩
      refine wpOpIn_mono ?_ (step i hi' a V hF)
      rintro a' V' ⟨rfl, hb⟩
      refine ⟨_, rfl, fun h => ?_, fun h => (h2 hbm).trans (hb.mono (h2 hbm).size), fun h => ?_, fun j hj h => ?_⟩
      · rw [hgd, hbm] at h; simp [e] at h
      · rw [hgd, hbm] at h; simp [e] at h
      · show (if j = i then vals.getD i undef else v j) = _
        by_cases e' : j = i
        · rw [if_pos e', e']
        · rw [if_neg e']
          rw [hgd] at h
          simp only [Bool.or_eq_true, decide_eq_true_eq] at h
          exact h4 j hj (by rcases h with h | h; exact h; exact (e' h.symm).elim)
  · rintro v V ⟨h1, h2, h3, h4⟩
    have hfull : ∀ j, j < ops.size → (2 ^ ops.size - 1).testBit j = true := fun j hj => by rw [Nat.testBit_two_pow_sub_one]; simp [hj]
    have hlen : dsts.length = ops.size := by
      simp only [regB, Bool.and_eq_true, decide_eq_true_eq, beq_iff_eq, List.all_eq_true] at hok
      rw [← hok.1.1.2]; simp
    have hv : ∀ k, k < (vals ++ [v m]).length → v (0 + k) = (vals ++ [v m]).getD k undef := fun k hk => by
      rw [Nat.zero_add]
      by_cases e : k = m
      · subst e
        rw [List.getD_eq_getElem?_getD, List.getElem?_append_right (by omega), hm']
        simp
      · have hk' : k < m := by simp at hk; omega
        rw [h4 k hk' (hfull k (by omega)), List.getD_eq_getElem?_getD, List.getD_eq_getElem?_getD, List.getElem?_append_left (by omega)]
    rw [finD_vals v dsts (vals ++ [v m]) 0 _ (by simp; omega) hv]
    exact fin _ V (h3 (hfull m (by omega)))
end
end Go.Proofs.YtdnccdobnhbpeaaDoor
