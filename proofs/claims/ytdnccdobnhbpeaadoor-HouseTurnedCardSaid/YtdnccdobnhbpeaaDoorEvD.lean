/-
  The evaluator: frames and runs.
-/
import Derived.Test.YtdnccdobnhbpeaaDoorEvC
import Derived.AtR
namespace Go.Proofs.YtdnccdobnhbpeaaDoor.Ev
open Go
set_option linter.unusedVariables false
set_option linter.unusedSimpArgs false

/-- An operand's value in an array of temporaries. -/
def actE (tmps : Array Value) : Operand → Value
  | .tmp t => tmps.getD t undef
  | .const v => v
  | .global g => .pointer (some ⟨g, 0, none⟩)
  | .func f => .func (.func f) #[] #[]
theorem actE_frame (fr : Frame) : fr.eval = actE fr.tmps := by funext x; cases x <;> rfl
theorem actE_act (a : Act) : a.eval = actE a.tmps := by funext x; cases x <;> rfl

def Glob (G : Nat) (π : Pl) : Prop := ∀ g, g < G → ∃ m, π g = some (g, m)
theorem Glob.mono {G : Nat} {π π' : Pl} (h : π.le π') (r : Glob G π) : Glob G π' := fun g hg => let ⟨m, hm⟩ := r g hg; ⟨m, h _ _ hm⟩

/-- The temporaries of a frame. -/
structure TR (π : Pl) (n : Nat) (t : Trie Value) (tmps : Array Value) : Prop where
  size : tmps.size = n
  small : n < 2 ^ 24 - 1
  at_ : ∀ i, i < n → VR π (tget t i) (tmps.getD i undef)
theorem TR.mono {π π' : Pl} (h : π.le π') {n : Nat} {t : Trie Value} {tmps : Array Value} (r : TR π n t tmps) : TR π' n t tmps := ⟨r.size, r.small, fun i hi => (r.at_ i hi).mono h⟩

section
variable {P : Program} {b : Bar} {π : Pl} {G n : Nat} {t : Trie Value} {tmps : Array Value}
theorem tget_put (t : Trie Value) (v : Value) (i j : Nat) (hi : i < 2 ^ 24 - 1) (hj : j < 2 ^ 24 - 1) : tget (t.put (some v) (path i)) j = if j = i then v else tget t j := by
  unfold tget vat
  rw [Trie.at_put]
  by_cases e : j = i
  · subst e; simp
  · have : ¬ path j = path i := fun h => e ((path_inj hj hi).1 h)
    simp [e, this]
theorem tset_eq (n : Nat) (t : Trie Value) (i : Nat) (v : Value) : tset n t i v = if i < n then t.put (some v) (path i) else t := by
  unfold tset
  by_cases hi : i < n
  · rw [show Nat.ble (Nat.succ i) n = true from ble_true hi, if_pos hi]
  · rw [show Nat.ble (Nat.succ i) n = false from ble_false (by omega), if_neg hi]
theorem TR.set (h : TR π n t tmps) (i : Nat) {v v' : Value} (hv : VR π v v') : TR π n (tset n t i v) (tmps.setIfInBounds i v') := by
  refine ⟨by simpa using h.size, h.small, fun j hj => ?_⟩
  rw [tset_eq]
  have hs := h.size
  have hsm := h.small
  by_cases hi : i < n
  · rw [if_pos hi, tget_put _ _ _ _ (by omega) (by omega)]
    by_cases e : j = i
    · subst e
      have : j < tmps.size := by omega
      simp [this, hv]
    · have e' : i ≠ j := fun h => e h.symm
      rw [if_neg e]
      have := h.at_ j hj
      simpa [Array.getElem?_setIfInBounds_ne e'] using this
  · rw [if_neg hi]
    have e' : i ≠ j := by omega
    have := h.at_ j hj
    simpa [Array.getElem?_setIfInBounds_ne e'] using this
theorem TR.setO (h : TR π n t tmps) (d : Option Tmp) {v v' : Value} (hv : VR π v v') : TR π n (tsetO n t d v) (match d with | some i => tmps.setIfInBounds i v' | none => tmps) := by
  cases d with
  | none => exact h
  | some i => exact h.set i hv
theorem TR.get (h : TR π n t tmps) (i : Nat) : VR π (bif Nat.ble (Nat.succ i) n then tget t i else undef) (tmps.getD i undef) := by
  by_cases hi : i < n
  · rw [show Nat.ble (Nat.succ i) n = true from ble_true hi]
    exact h.at_ i hi
  · rw [show Nat.ble (Nat.succ i) n = false from ble_false (by omega)]
    have : ¬ i < tmps.size := by have := h.size; omega
    simp only [Array.getD, this, dite_false, cond_false]
    exact .undef
theorem TR.eval (h : TR π n t tmps) (hG : Glob G π) {x : Operand} (hx : okOperand G x = true) : VR π (evT n t x) (actE tmps x) := by
  cases x with
  | tmp i => exact h.get i
  | const v => exact VR.of_flat v hx
  | global g =>
    obtain ⟨m, hm⟩ := hG g (le_of_ble hx)
    exact .ptr hm
  | func f => exact VR.of_flat _ rfl
theorem src_sound (h : TR π n t tmps) (hG : Glob G π) {x : Operand} {s : Src} (hs : srcOf G n x = some s) : VR π (evS t s) (actE tmps x) ∧ evS t s = evT n t x ∧ okOperand G x = true := by
  cases x with
  | tmp i =>
    have := h.get i
    simp only [srcOf] at hs
    cases hb : Nat.ble (Nat.succ i) n with
    | true => rw [hb] at hs this; cases hs; exact ⟨this, by simp [evS, evT, hb, tget], rfl⟩
    | false => rw [hb] at hs this; cases hs; exact ⟨this, by simp [evS, evT, hb], rfl⟩
  | const v =>
    simp only [srcOf] at hs
    cases hf : flat v with
    | true => rw [hf] at hs; cases hs; exact ⟨VR.of_flat v hf, rfl, hf⟩
    | false => rw [hf] at hs; cases hs
  | global g =>
    simp only [srcOf] at hs
    cases hb : Nat.ble (Nat.succ g) G with
    | true =>
      rw [hb] at hs; cases hs
      obtain ⟨m, hm⟩ := hG g (le_of_ble hb)
      exact ⟨.ptr hm, rfl, hb⟩
    | false => rw [hb] at hs; cases hs
  | func f => cases hs; exact ⟨VR.of_flat _ rfl, rfl, rfl⟩
theorem srcs_sound (h : TR π n t tmps) (hG : Glob G π) : ∀ (xs : List Operand) (ss : List Src), srcsOf G n xs = some ss → LR π (evSs t ss) (xs.map (actE tmps)) ∧ evSs t ss = xs.map (evT n t) ∧ (∀ x ∈ xs, okOperand G x = true) ∧ ss.length = xs.length := by
  intro xs
  induction xs with
  | nil => intro ss hs; cases hs; exact ⟨LR.nil, rfl, by simp, rfl⟩
  | cons x xs ih =>
    intro ss hs
    simp only [srcsOf] at hs
    cases h1 : srcOf G n x with
    | none => rw [h1] at hs; cases hs
    | some s =>
      rw [h1] at hs
      cases h2 : srcsOf G n xs with
      | none => rw [h2] at hs; cases hs
      | some l =>
        rw [h2] at hs
        cases hs
        obtain ⟨a1, a2, a3⟩ := src_sound h hG h1
        obtain ⟨b1, b2, b3, b4⟩ := ih l h2
        refine ⟨LR.cons a1 b1, ?_, ?_, by simp [b4]⟩
        · show evS t s :: evSs t l = _
          rw [a2, b2]; rfl
        · intro y hy
          rcases List.mem_cons.1 hy with rfl | hy
          · exact a3
          · exact b3 y hy

/-! ## Small steps over the small heap -/
theorem lsem_underlying {ty : TypeId} {d : TypeDesc} (h : P.underlying ty = some d) (H : Heap) : lsem P b (Go.underlying ty) H = some (d, H) := by
  unfold Go.underlying; rw [lsem_bind']; simp only [Go.program, lsem, h]; rfl
theorem lsem_info {ty : TypeId} {i : TypeInfo} (h : P.info? ty = some i) (H : Heap) : lsem P b (Go.typeInfo ty) H = some (i, H) := by
  unfold Go.typeInfo; rw [lsem_bind']; simp only [Go.program, lsem, h]; rfl
theorem lsem_isAgg {ty : TypeId} {x : Bool} (h : isAggB P ty = some x) (H : Heap) : lsem P b (Go.isAgg ty) H = some (x, H) := by
  unfold isAggB at h
  unfold Go.isAgg
  rw [lsem_bind']
  cases hu : P.underlying ty with
  | none => rw [hu] at h; cases h
  | some d =>
    rw [hu] at h
    rw [lsem_underlying hu]
    cases d <;> (cases h; rfl)
theorem lsem_size {ty : TypeId} {x : Nat} (h : sizeB P ty = some x) (H : Heap) : lsem P b (Go.sizeOf ty) H = some (x, H) := by
  unfold sizeB at h
  cases hi : P.info? ty with
  | none => rw [hi] at h; cases h
  | some i =>
    rw [hi] at h
    cases h
    unfold Go.sizeOf
    rw [lsem_bind', lsem_info hi]
    rfl
theorem lsem_load {a : Addr} {v : Value} {H : Heap} (h : H.cell a = some v) (md : Mode) : lsem P b (Go.load a md) H = some (v, H) := by
  simp only [Go.load, lsem, h]
theorem lsem_cells {a : Addr} {H : Heap} : ∀ (k i : Nat) (l : List Value) (acc : Array Value), cellsFrom H a k i = some l → lsem P b (Go.loadCellsFrom a i k acc) H = some (acc ++ ⟨l⟩, H) := by
  intro k
  induction k with
  | zero => intro i l acc h; cases h; simp [Go.loadCellsFrom]; rfl
  | succ k ih =>
    intro i l acc h
    simp only [cellsFrom] at h
    cases hc : H.cell (a.add i) with
    | none => rw [hc] at h; cases h
    | some v =>
      rw [hc] at h
      simp only at h
      cases hl : cellsFrom H a k (i + 1) with
      | none => rw [hl] at h; cases h
      | some l2 =>
        rw [hl] at h
        cases h
        unfold Go.loadCellsFrom
        rw [lsem_bind', lsem_load hc]
        simp only
        rw [ih (i + 1) l2 (acc.push v) hl]
        congr 2
        apply Array.ext'
        simp
theorem lsem_store {a : Addr} {v : Value} {H H' : Heap} (h : H.put b a v = some H') (md : Mode) : lsem P b (Go.store a v md) H = some ((), H') := by
  simp only [Go.store, lsem, h]
theorem lsem_putAll {a : Addr} : ∀ (l : List Value) (i : Nat) (H H' : Heap), putAll b a l i H = some H' → lsem P b (Go.storeCells a l i) H = some ((), H') := by
  intro l
  induction l with
  | nil => intro i H H' h; cases h; rfl
  | cons v l ih =>
    intro i H H' h
    simp only [putAll] at h
    cases hp : H.put b (a.add i) v with
    | none => rw [hp] at h; cases h
    | some H1 =>
      rw [hp] at h
      unfold Go.storeCells
      rw [lsem_bind', lsem_store hp]
      exact ih (i + 1) H1 H' h
theorem add_zero (a : Addr) : a.add 0 = a := by simp [Addr.add]
theorem cells_narrow {v : Value} (h : wide v = false) : v.cells = #[v] := by cases v <;> first | rfl | (cases h)
end
end Go.Proofs.YtdnccdobnhbpeaaDoor.Ev

namespace Go.Proofs.YtdnccdobnhbpeaaDoor.Ev
open Go
set_option linter.unusedVariables false
set_option linter.unusedSimpArgs false
/-- What an operation comes to that is no call. -/
def Comes1 (P : Program) (b : Bar) (π : Pl) (H : Heap) (w : World) (v : Value) (H' : Heap) (r : Result Next) : Prop :=
  ∃ π' x w', r = .ok x w' ∧ Emb P π' H' w' ∧ Keep b H π w H' π' w' ∧ ((∃ v', x = .value v' ∧ VR π' v v') ∨ (x = .skip ∧ v = undef))
section
variable {P : Program} {b : Bar} {π : Pl} {G n : Nat} {t : Trie Value} {tmps : Array Value} {H H' : Heap} {w : World} {v : Value}
theorem of_val {s s' : Sem Value} (h : SemR P b π s s' VR) (hE : Emb P π H w) (hl : lsem P b s H = some (v, H')) : Comes1 P b π H w v H' ((do Pure.pure (Next.value (← s')) : Sem Next).run P w) := by
  obtain ⟨π', v', w', e1, e2, e3, e4⟩ := h π (Pl.le_refl _) H w hE _ _ hl
  exact ⟨π', .value v', w', by rw [Sem.run_bind, e1]; rfl, e2, e4, .inl ⟨v', rfl, e3⟩⟩
theorem of_unit {s s' : Sem Unit} (h : SemR P b π s s' fun _ _ _ => True) (hE : Emb P π H w) (hl : lsem P b s H = some ((), H')) : Comes1 P b π H w undef H' ((do s'; Pure.pure Next.skip : Sem Next).run P w) := by
  obtain ⟨π', v', w', e1, e2, e3, e4⟩ := h π (Pl.le_refl _) H w hE _ _ hl
  exact ⟨π', .skip, w', by rw [Sem.run_bind, e1]; rfl, e2, e4, .inr ⟨rfl, rfl⟩⟩
theorem of_same {s : Sem Next} {v' : Value} (hE : Emb P π H w) (hr : s.run P w = .ok (.value v') w) (hv : VR π v v') : Comes1 P b π H w v H (s.run P w) :=
  ⟨π, .value v', w, hr, hE, .refl, .inl ⟨v', rfl, hv⟩⟩

theorem one_some {x : Operand} {k : Src → Option Hot} {h : Hot} (hs : one G n x k = some h) : ∃ s, srcOf G n x = some s ∧ k s = some h := by
  unfold one at hs
  cases h1 : srcOf G n x with
  | none => rw [h1] at hs; cases hs
  | some s => rw [h1] at hs; exact ⟨s, rfl, hs⟩

theorem ofInt_spec {k : IntKind} {m : Int} {v : Value} (h : ofInt k m = some v) : v = .int k m ∧ k.wrap m = m := by
  unfold ofInt at h
  have u64 : ∀ a : Nat, a ≤ 18446744073709551615 → IntKind.u64.wrap (a : Int) = a := by
    intro a ha
    unfold IntKind.wrap
    have e1 : ((2 : Int) ^ IntKind.u64.bits) = 18446744073709551616 := by decide
    simp only [e1]
    have : IntKind.u64.signed = false := rfl
    simp only [this, Bool.false_and, Bool.false_eq_true, if_false]
    exact Int.emod_eq_of_lt (by omega) (by omega)
  have u8 : ∀ a : Nat, a ≤ 255 → IntKind.u8.wrap (a : Int) = a := by
    intro a ha
    unfold IntKind.wrap
    have e1 : ((2 : Int) ^ IntKind.u8.bits) = 256 := by decide
    simp only [e1]
    have : IntKind.u8.signed = false := rfl
    simp only [this, Bool.false_and, Bool.false_eq_true, if_false]
    exact Int.emod_eq_of_lt (by omega) (by omega)
  have i64 : ∀ a : Int, -9223372036854775808 ≤ a → a ≤ 9223372036854775807 → IntKind.i64.wrap a = a := by
    intro a h1 h2
    unfold IntKind.wrap
    have e1 : ((2 : Int) ^ IntKind.i64.bits) = 18446744073709551616 := by decide
    have e2 : ((2 : Int) ^ (IntKind.i64.bits - 1)) = 9223372036854775808 := by decide
    have e3 : IntKind.i64.signed = true := rfl
    simp only [e1, e2, e3, Bool.true_and]
    by_cases ha : 0 ≤ a
    · have : a % 18446744073709551616 = a := Int.emod_eq_of_lt ha (by omega)
      rw [this]
      have : decide (a ≥ 9223372036854775808) = false := by simp; omega
      simp [this]
    · have : a % 18446744073709551616 = a + 18446744073709551616 := by omega
      rw [this]
      have : decide (a + 18446744073709551616 ≥ 9223372036854775808) = true := by simp; omega
      simp [this]
  cases m with
  | ofNat m =>
    cases k <;> simp only at h <;> try (cases h; done)
    all_goals rw [forceN_eq] at h
    · cases hb : Nat.ble m 9223372036854775807 with
      | false => rw [hb] at h; cases h
      | true => rw [hb] at h; cases h; have := le_of_ble hb; exact ⟨rfl, i64 _ (by have := Int.natCast_nonneg m; show (-9223372036854775808 : Int) ≤ (m : Int); omega) (by show (m : Int) ≤ 9223372036854775807; omega)⟩
    · cases hb : Nat.ble m 255 with
      | false => rw [hb] at h; cases h
      | true => rw [hb] at h; cases h; exact ⟨rfl, u8 m (le_of_ble hb)⟩
    · cases hb : Nat.ble m 18446744073709551615 with
      | false => rw [hb] at h; cases h
      | true => rw [hb] at h; cases h; exact ⟨rfl, u64 m (le_of_ble hb)⟩
  | negSucc m =>
    cases k <;> simp only at h <;> try (cases h; done)
    rw [forceN_eq] at h
    cases hb : Nat.ble m 9223372036854775807 with
    | false => rw [hb] at h; cases h
    | true => rw [hb] at h; cases h; have := le_of_ble hb; exact ⟨rfl, i64 _ (by omega) (by omega)⟩
theorem isZero_spec {m : Int} (h : isZero m = false) : m ≠ 0 := by
  intro e; subst e; cases h
theorem sameKind_spec {j k : IntKind} (h : sameKind j k = true) : j = k := by cases j <;> cases k <;> first | rfl | (cases h)
theorem bits_spec {k : IntKind} {a c m : Nat} (ha : a < 2 ^ k.bits) (hc : c < 2 ^ k.bits) :
    (BitVec.ofInt k.bits (a : Int) &&& BitVec.ofInt k.bits (c : Int)).toNat = a &&& c ∧ (BitVec.ofInt k.bits (a : Int) ||| BitVec.ofInt k.bits (c : Int)).toNat = a ||| c ∧ (BitVec.ofInt k.bits (a : Int) ^^^ BitVec.ofInt k.bits (c : Int)).toNat = a ^^^ c := by
  have e : ∀ x : Nat, x < 2 ^ k.bits → (BitVec.ofInt k.bits (x : Int)).toNat = x := by
    intro x hx
    rw [BitVec.ofInt_natCast, BitVec.toNat_ofNat, Nat.mod_eq_of_lt hx]
  exact ⟨by rw [BitVec.toNat_and, e a ha, e c hc], by rw [BitVec.toNat_or, e a ha, e c hc], by rw [BitVec.toNat_xor, e a ha, e c hc]⟩
theorem xbits_spec {f : Nat → Nat → Nat} {k : IntKind} {x y : Int} {v : Value} (h : xbits f k x y = some v) : ∃ a c : Nat, x = a ∧ y = c ∧ a < 2 ^ k.bits ∧ c < 2 ^ k.bits ∧ ofInt k (f a c : Nat) = some v := by
  unfold xbits at h
  cases x with
  | negSucc _ => cases h
  | ofNat a =>
    cases y with
    | negSucc _ => cases k <;> cases h
    | ofNat c =>
      cases k <;> simp only at h <;> try (cases h; done)
      · cases hb : (Nat.ble a 9223372036854775807 && Nat.ble c 9223372036854775807) with
        | false => rw [hb] at h; cases h
        | true =>
          rw [hb] at h
          simp only [Bool.and_eq_true] at hb
          have h1 := le_of_ble hb.1
          have h2 := le_of_ble hb.2
          have e : 2 ^ IntKind.i64.bits = 18446744073709551616 := by decide
          exact ⟨a, c, rfl, rfl, by rw [e]; omega, by rw [e]; omega, h⟩
      · cases hb : (Nat.ble a 255 && Nat.ble c 255) with
        | false => rw [hb] at h; cases h
        | true =>
          rw [hb] at h
          simp only [Bool.and_eq_true] at hb
          have h1 := le_of_ble hb.1
          have h2 := le_of_ble hb.2
          have e : 2 ^ IntKind.u8.bits = 256 := by decide
          exact ⟨a, c, rfl, rfl, by rw [e]; omega, by rw [e]; omega, h⟩
      · cases hb : (Nat.ble a 18446744073709551615 && Nat.ble c 18446744073709551615) with
        | false => rw [hb] at h; cases h
        | true =>
          rw [hb] at h
          simp only [Bool.and_eq_true] at hb
          have h1 := le_of_ble hb.1
          have h2 := le_of_ble hb.2
          have e : 2 ^ IntKind.u64.bits = 18446744073709551616 := by decide
          exact ⟨a, c, rfl, rfl, by rw [e]; omega, by rw [e]; omega, h⟩
theorem guard_int {op : BinOp} {ty : TypeId} {xo yo : Operand} {k k' : IntKind} {x y : Int} (w : World) : (eqGuard op ty xo yo (.int k x) (.int k' y)).run P w = .ok () w := by
  unfold eqGuard
  cases op <;> rfl
theorem xint_spec {op : BinOp} {k : IntKind} {x y : Int} {v : Value} (h : xint op k x y = some v) (ty : TypeId) (w : World) : (binOp op ty (.int k x) (.int k y)).run P w = .ok v w := by
  cases op <;> simp only [xint] at h <;> try (cases h; done)
  case add => obtain ⟨e1, e2⟩ := ofInt_spec h; simp [binOp, Op.intArith, e2, e1]
  case sub => obtain ⟨e1, e2⟩ := ofInt_spec h; simp [binOp, Op.intArith, e2, e1]
  case mul => obtain ⟨e1, e2⟩ := ofInt_spec h; simp [binOp, Op.intArith, e2, e1]
  case quo =>
    cases hz : isZero y with
    | true => rw [hz] at h; cases h
    | false =>
      rw [hz] at h
      obtain ⟨e1, e2⟩ := ofInt_spec (show ofInt k (x.tdiv y) = some v from h)
      simp [binOp, Op.intDiv, isZero_spec hz, e2, e1]
  case rem =>
    cases hz : isZero y with
    | true => rw [hz] at h; cases h
    | false =>
      rw [hz] at h
      obtain ⟨e1, e2⟩ := ofInt_spec (show ofInt k (x.tmod y) = some v from h)
      simp [binOp, Op.intDiv, isZero_spec hz, e1]
  case and =>
    obtain ⟨a, c, rfl, rfl, ha, hc, h⟩ := xbits_spec h
    obtain ⟨e1, e2⟩ := ofInt_spec h
    have := (bits_spec (m := 0) ha hc).1
    simp only [binOp, Op.intBits, ne_eq, not_true_eq_false, if_false]
    rw [this, e1]
    show Result.ok (Value.int k (k.wrap ((a &&& c : Nat) : Int))) w = _
    rw [show ((a &&& c : Nat) : Int) = ((Nat.land a c : Nat) : Int) from rfl, e2]
  case or =>
    obtain ⟨a, c, rfl, rfl, ha, hc, h⟩ := xbits_spec h
    obtain ⟨e1, e2⟩ := ofInt_spec h
    have := (bits_spec (m := 0) ha hc).2.1
    simp only [binOp, Op.intBits, ne_eq, not_true_eq_false, if_false]
    rw [this, e1]
    show Result.ok (Value.int k (k.wrap ((a ||| c : Nat) : Int))) w = _
    rw [show ((a ||| c : Nat) : Int) = ((Nat.lor a c : Nat) : Int) from rfl, e2]
  case xor =>
    obtain ⟨a, c, rfl, rfl, ha, hc, h⟩ := xbits_spec h
    obtain ⟨e1, e2⟩ := ofInt_spec h
    have := (bits_spec (m := 0) ha hc).2.2
    simp only [binOp, Op.intBits, ne_eq, not_true_eq_false, if_false]
    rw [this, e1]
    show Result.ok (Value.int k (k.wrap ((a ^^^ c : Nat) : Int))) w = _
    rw [show ((a ^^^ c : Nat) : Int) = ((Nat.xor a c : Nat) : Int) from rfl, e2]
  case eql => cases h; simp [binOp, Op.intCmp]
  case neq => cases h; simp [binOp, Op.intCmp]
  case lss => cases h; simp [binOp, Op.intCmp]
  case leq => cases h; simp [binOp, Op.intCmp]
  case gtr => cases h; simp [binOp, Op.intCmp]
  case geq => cases h; simp [binOp, Op.intCmp]
theorem xint_flat {op : BinOp} {k : IntKind} {x y : Int} {v : Value} (h : xint op k x y = some v) (π : Pl) : VR π v v := by
  cases op <;> simp only [xint] at h <;> try (cases h; done)
  case add => rw [(ofInt_spec h).1]; exact .int _ _
  case sub => rw [(ofInt_spec h).1]; exact .int _ _
  case mul => rw [(ofInt_spec h).1]; exact .int _ _
  case quo =>
    cases hz : isZero y with
    | true => rw [hz] at h; cases h
    | false => rw [hz] at h; rw [(ofInt_spec (show ofInt k (x.tdiv y) = some v from h)).1]; exact .int _ _
  case rem =>
    cases hz : isZero y with
    | true => rw [hz] at h; cases h
    | false => rw [hz] at h; rw [(ofInt_spec (show ofInt k (x.tmod y) = some v from h)).1]; exact .int _ _
  case and => obtain ⟨a, c, _, _, _, _, h⟩ := xbits_spec h; rw [(ofInt_spec h).1]; exact .int _ _
  case or => obtain ⟨a, c, _, _, _, _, h⟩ := xbits_spec h; rw [(ofInt_spec h).1]; exact .int _ _
  case xor => obtain ⟨a, c, _, _, _, _, h⟩ := xbits_spec h; rw [(ofInt_spec h).1]; exact .int _ _
  all_goals (cases h; exact .bool _)
end
end Go.Proofs.YtdnccdobnhbpeaaDoor.Ev

namespace Go.Proofs.YtdnccdobnhbpeaaDoor.Ev
open Go
set_option linter.unusedVariables false
set_option linter.unusedSimpArgs false
section
variable {P : Program} {b : Bar} {π : Pl} {G n : Nat} {t : Trie Value} {tmps : Array Value} {H H' : Heap} {w : World} {v : Value}

theorem isAgg_zero {e : TypeId} {i : TypeInfo} {z : Value} (hi : P.info? e = some i) (hz : i.zero = some z) (hf : flat z = true) : zeroOk P e = true := by
  unfold zeroOk; rw [hi]; simp only [hz, hf]

theorem hot_load {a : Operand} {s : Src} {ty : TypeId} (hE : Emb P π H w) (hT : TR π n t tmps) (hG : Glob G π) (hs : srcOf G n a = some s) {k : Hot} (hk : decodeLoad P ty s = some k) (hr : runHot b t H k = some (v, H')) :
    Comes1 P b π H w v H' ((do Pure.pure (Next.value (← Instr.loadAt ty (actE tmps a))) : Sem Next).run P w) := by
  obtain ⟨h1, _, _⟩ := src_sound hT hG hs
  refine of_val (b := b) (s := Instr.loadAt ty (evS t s)) (SemR.loadAt h1) hE ?_
  unfold decodeLoad at hk
  cases hag : isAggB P ty with
  | none => rw [hag] at hk; cases hk
  | some ag =>
    rw [hag] at hk
    cases ag with
    | false =>
      cases hk
      simp only [runHot, hotLoad] at hr
      generalize evS t s = x at hr
      cases x <;> try (cases hr; done)
      rename_i a0
      cases a0 with
      | none => cases hr
      | some ad =>
        simp only at hr
        cases hc : H.cell ad with
        | none => rw [hc] at hr; cases hr
        | some u =>
          rw [hc] at hr
          cases hr
          unfold Instr.loadAt
          rw [lsem_bind']
          show lsem P b (Go.loadVar ty ad) _ = _
          unfold Go.loadVar
          rw [lsem_bind', lsem_isAgg hag]
          exact lsem_load hc _
    | true =>
      simp only at hk
      cases hsz : sizeB P ty with
      | none => rw [hsz] at hk; cases hk
      | some m =>
        rw [hsz] at hk
        cases hk
        simp only [runHot, hotLoadN] at hr
        generalize evS t s = x at hr
        cases x <;> try (cases hr; done)
        rename_i a0
        cases a0 with
        | none => cases hr
        | some ad =>
          simp only at hr
          cases hc : cellsFrom H ad m 0 with
          | none => rw [hc] at hr; cases hr
          | some l =>
            rw [hc] at hr
            cases hr
            unfold Instr.loadAt
            rw [lsem_bind']
            show lsem P b (Go.loadVar ty ad) _ = _
            unfold Go.loadVar
            rw [lsem_bind', lsem_isAgg hag]
            simp only [if_true]
            rw [lsem_bind', lsem_size hsz]
            simp only
            rw [lsem_bind']
            unfold Go.loadCells
            rw [lsem_cells m 0 l #[] hc]
            simp only
            show some (Value.agg (#[] ++ ⟨l⟩), _) = _
            congr 3
            apply Array.ext'
            simp
theorem hot_store {a x : Operand} {s r : Src} {ty : TypeId} (hE : Emb P π H w) (hT : TR π n t tmps) (hG : Glob G π) (hs : srcOf G n a = some s) (hx : srcOf G n x = some r) {k : Hot} (hk : decodeStore P ty s r = some k) (hr : runHot b t H k = some (v, H')) :
    Comes1 P b π H w v H' ((do Instr.storeAt ty (actE tmps a) (actE tmps x); Pure.pure Next.skip : Sem Next).run P w) := by
  obtain ⟨h1, _, _⟩ := src_sound hT hG hs
  obtain ⟨h2, _, _⟩ := src_sound hT hG hx
  unfold decodeStore at hk
  cases hag : isAggB P ty with
  | none => rw [hag] at hk; cases hk
  | some ag =>
  cases hsz : sizeB P ty with
  | none => rw [hag, hsz] at hk; cases ag <;> cases hk
  | some m =>
  rw [hag, hsz] at hk
  cases ag with
  | false =>
    have hm : m = 1 ∧ k = .store s r := by
      match m, hk with
      | 1, hk => cases hk; exact ⟨rfl, rfl⟩
    obtain ⟨rfl, rfl⟩ := hm
    simp only [runHot, hotStore] at hr
    generalize hva : evS t s = va at hr h1
    cases va <;> try (cases hr; done)
    rename_i a0
    cases a0 with
    | none => cases hr
    | some ad =>
      simp only at hr
      cases hp : H.put b ad (evS t r) with
      | none => rw [hp] at hr; cases hr
      | some H1 =>
        rw [hp] at hr
        cases hr
        refine of_unit (b := b) (s := Instr.storeAt ty (.pointer (some ad)) (evS t r)) (SemR.storeAt h1 h2) hE ?_
        have hw : wide (evS t r) = false := by
          unfold Heap.put at hp
          split at hp
          · cases hp
          · rename_i hc
            simp only [Bool.or_eq_true, not_or, Bool.not_eq_true] at hc
            exact hc.1.1
        unfold Instr.storeAt
        rw [lsem_bind']
        show lsem P b (Go.storeVar ty ad (evS t r)) H = _
        unfold Go.storeVar
        rw [lsem_bind', lsem_size hsz, cells_narrow hw]
        simp only [List.size_toArray, List.length_cons, List.length_nil, Nat.zero_add, ne_eq, not_true_eq_false, if_false]
        unfold Go.storeCells
        rw [lsem_bind', add_zero, lsem_store hp]
        rfl
  | true =>
    cases hk
    simp only [runHot, hotStoreN] at hr
    generalize hva : evS t s = va at hr h1
    cases va <;> try (cases hr; done)
    rename_i a0
    cases a0 with
    | none => cases hr
    | some ad =>
      simp only at hr
      generalize hvr : evS t r = vr at hr h2
      cases vr <;> try (cases hr; done)
      rename_i cs
      simp only at hr
      cases hl : Nat.beq cs.toList.length m with
      | false => rw [hl] at hr; cases hr
      | true =>
        rw [hl] at hr
        simp only [cond_true] at hr
        cases hp : putAll b ad cs.toList 0 H with
        | none => rw [hp] at hr; cases hr
        | some H1 =>
          rw [hp] at hr
          cases hr
          refine of_unit (b := b) (s := Instr.storeAt ty (.pointer (some ad)) (.agg cs)) (SemR.storeAt h1 h2) hE ?_
          have hlen : cs.size = m := by simpa using eq_of_beq hl
          unfold Instr.storeAt
          rw [lsem_bind']
          show lsem P b (Go.storeVar ty ad (.agg cs)) H = _
          unfold Go.storeVar
          rw [lsem_bind', lsem_size hsz]
          simp only [Value.cells, hlen, ne_eq, not_true_eq_false, if_false]
          exact lsem_putAll _ 0 _ _ hp
theorem hot_field {x : Operand} {s : Src} {ty : TypeId} {f : Nat} (hE : Emb P π H w) (hT : TR π n t tmps) (hG : Glob G π) (hs : srcOf G n x = some s) {k : Hot} (hk : decodeField P ty s f = some k) (hr : runHot b t H k = some (v, H')) :
    Comes1 P b π H w v H' ((do Pure.pure (Next.value (← Instr.fieldAt ty (actE tmps x) f)) : Sem Next).run P w) := by
  obtain ⟨h1, _, _⟩ := src_sound hT hG hs
  unfold decodeField at hk
  split at hk
  · rename_i fields hu
    split at hk
    · rename_i fd hf
      split at hk
      · rename_i m hsz
        cases hk
        simp only [runHot, hotField] at hr
        generalize hva : evS t s = va at hr h1
        cases va <;> try (cases hr; done)
        rename_i a0
        cases a0 with
        | none => cases hr
        | some ad =>
          cases hr
          refine of_val (b := b) (s := Instr.fieldAt ty (.pointer (some ad)) f) (SemR.fieldAt h1 f) hE ?_
          unfold Instr.fieldAt
          rw [lsem_bind', lsem_underlying hu]
          have hf' : fields[f]? = some fd := by simpa using hf
          simp only [hf']
          rw [lsem_bind']
          show lsem P b (do Pure.pure (Value.pointer (some (← Go.fieldPlace ad fd)))) _ = _
          rw [lsem_bind']
          unfold Go.fieldPlace
          rw [lsem_bind', lsem_size hsz]
          simp only [Nat.succ_ne_zero, Nat.add_one_ne_zero, if_false]
          rfl
      · cases hk
    · cases hk
  · cases hk
theorem hot_index {x i : Operand} {s r : Src} {ty : TypeId} (hE : Emb P π H w) (hT : TR π n t tmps) (hG : Glob G π) (hs : srcOf G n x = some s) (hi : srcOf G n i = some r) {k : Hot} (hk : decodeIndex P ty s r = some k) (hr : runHot b t H k = some (v, H')) :
    Comes1 P b π H w v H' ((do Pure.pure (Next.value (← Instr.indexAt ty (actE tmps x) (actE tmps i))) : Sem Next).run P w) := by
  obtain ⟨h1, _, _⟩ := src_sound hT hG hs
  obtain ⟨h2, _, _⟩ := src_sound hT hG hi
  unfold decodeIndex at hk
  split at hk
  · rename_i e hu
    cases hsz : sizeB P e with
    | none => rw [hsz] at hk; cases hk
    | some m =>
      rw [hsz] at hk
      cases hk
      simp only [runHot, hotIndexS] at hr
      generalize hva : evS t r = va at hr h2
      cases va <;> try (cases hr; done)
      rename_i k0 j
      cases j with
      | negSucc _ => cases hr
      | ofNat j =>
      simp only at hr
      generalize hvs : evS t s = vs at hr h1
      cases vs <;> try (cases hr; done)
      rename_i a0 len cap
      cases a0 with
      | none => cases hr
      | some ad =>
        simp only at hr
        cases hb : Nat.ble (Nat.succ j) len with
        | false => rw [hb] at hr; cases hr
        | true =>
          rw [hb] at hr
          cases hr
          have hlt := le_of_ble hb
          refine of_val (b := b) (s := Instr.indexAt ty (.slice (some ad) len cap) (.int k0 (.ofNat j))) (SemR.indexAt h1 h2) hE ?_
          unfold Instr.indexAt
          rw [lsem_bind']
          show lsem P b _ _ = _
          rw [lsem_bind', lsem_underlying hu]
          show lsem P b _ _ = _
          rw [lsem_bind']
          show lsem P b _ _ = _
          rw [lsem_bind', lsem_underlying hu]
          simp only
          have hc : (0 : Int) ≤ Int.ofNat j ∧ Int.ofNat j < (len : Int) := ⟨Int.natCast_nonneg j, by show (j : Int) < len; omega⟩
          rw [if_pos hc, lsem_bind', lsem_size hsz]
          rfl
  · rename_i len e hu
    cases hsz : sizeB P e with
    | none => rw [hsz] at hk; cases hk
    | some m =>
      rw [hsz] at hk
      cases hk
      simp only [runHot, hotIndexA] at hr
      generalize hva : evS t r = va at hr h2
      cases va <;> try (cases hr; done)
      rename_i k0 j
      cases j with
      | negSucc _ => cases hr
      | ofNat j =>
      simp only at hr
      generalize hvs : evS t s = vs at hr h1
      cases vs <;> try (cases hr; done)
      rename_i a0
      cases a0 with
      | none => cases hr
      | some ad =>
        simp only at hr
        cases hb : Nat.ble (Nat.succ j) len with
        | false => rw [hb] at hr; cases hr
        | true =>
          rw [hb] at hr
          cases hr
          have hlt := le_of_ble hb
          refine of_val (b := b) (s := Instr.indexAt ty (.pointer (some ad)) (.int k0 (.ofNat j))) (SemR.indexAt h1 h2) hE ?_
          unfold Instr.indexAt
          rw [lsem_bind']
          show lsem P b _ _ = _
          rw [lsem_bind', lsem_underlying hu]
          show lsem P b _ _ = _
          rw [lsem_bind']
          show lsem P b _ _ = _
          rw [lsem_bind']
          show lsem P b _ _ = _
          rw [lsem_bind', lsem_underlying hu]
          simp only
          have hc : (0 : Int) ≤ Int.ofNat j ∧ Int.ofNat j < (len : Int) := ⟨Int.natCast_nonneg j, by show (j : Int) < len; omega⟩
          rw [if_pos hc, lsem_bind', lsem_size hsz]
          rfl
  · cases hk
theorem lsem_new {o : Obj} {H H' : Heap} (hf : fine o = true) (hp : H.push o = some H') : lsem P b (Go.newObj o) H = some (H.size, H') := by
  simp only [Go.newObj, lsem, hf, if_true, hp]
theorem cellsL_eq (v : Value) : (⟨cellsL v⟩ : Array Value) = v.cells := by cases v <;> rfl
theorem newBlock_spec {cs : List Value} {e : TypeId} (h : newBlock cs e H = some (v, H')) : v = .pointer (some ⟨H.size, 0, none⟩) ∧ H.push (.cells ⟨cs⟩ e (0, 0)) = some H' := by
  unfold newBlock at h
  cases hp : H.push (.cells ⟨cs⟩ e (0, 0)) with
  | none => rw [hp] at h; cases h
  | some h' => rw [hp] at h; cases h; exact ⟨rfl, rfl⟩
theorem hot_box {x : Operand} {s : Src} {e : TypeId} (hE : Emb P π H w) (hT : TR π n t tmps) (hG : Glob G π) (hs : srcOf G n x = some s) (hr : newBlock (cellsL (evS t s)) e H = some (v, H')) :
    Comes1 P b π H w v H' ((do Pure.pure (Next.value (← Instr.box e (actE tmps x))) : Sem Next).run P w) := by
  obtain ⟨h1, _, _⟩ := src_sound hT hG hs
  obtain ⟨rfl, hp⟩ := newBlock_spec hr
  rw [cellsL_eq] at hp
  refine of_val (b := b) (s := Instr.box e (evS t s)) (SemR.box h1) hE ?_
  unfold Instr.box Go.newVar Go.newRow
  rw [lsem_bind', lsem_bind', lsem_new (by rfl) hp]
  rfl
theorem hot_alloc {e : TypeId} (hE : Emb P π H w) {k : Hot} (hk : decodeAlloc P e = some k) (hr : runHot b t H k = some (v, H')) :
    Comes1 P b π H w v H' ((do Pure.pure (Next.value (← Instr.alloc e true (.tuple #[]))) : Sem Next).run P w) := by
  unfold decodeAlloc at hk
  cases hi : P.info? e with
  | none => rw [hi] at hk; cases hk
  | some i =>
    rw [hi] at hk
    simp only at hk
    cases hz : i.zero with
    | none => rw [hz] at hk; cases hk
    | some z =>
      rw [hz] at hk
      simp only at hk
      cases hf : flat z with
      | false => rw [hf] at hk; cases hk
      | true =>
        rw [hf] at hk
        cases hk
        obtain ⟨rfl, hp⟩ := newBlock_spec (show newBlock z.cells.toList e H = some (v, H') from hr)
        refine of_val (b := b) (s := Instr.alloc e true (.tuple #[])) (SemR.alloc (isAgg_zero hi hz hf)) hE ?_
        unfold Instr.alloc
        rw [lsem_bind']
        have hzv : lsem P b (Go.zeroValue e) H = some (z, H) := by
          unfold Go.zeroValue
          rw [lsem_bind', lsem_info hi]
          simp only [hz]
          rfl
        rw [hzv]
        simp only
        unfold Go.newVar Go.newRow
        rw [lsem_bind', lsem_bind', lsem_new (by rfl) hp]
        rfl
theorem hot_extract {x : Operand} {s : Src} {i : Nat} (hE : Emb P π H w) (hT : TR π n t tmps) (hG : Glob G π) (hs : srcOf G n x = some s) (hr : hotExtract t s i H = some (v, H')) :
    Comes1 P b π H w v H' ((do Pure.pure (Next.value (← Instr.extract (actE tmps x) i)) : Sem Next).run P w) := by
  obtain ⟨h1, _, _⟩ := src_sound hT hG hs
  refine of_val (b := b) (s := Instr.extract (evS t s) i) (SemR.extract h1 i) hE ?_
  unfold hotExtract at hr
  generalize evS t s = x at hr
  cases x <;> try (cases hr; done)
  rename_i vs
  simp only at hr
  cases hv : vs.toList[i]? with
  | none => rw [hv] at hr; cases hr
  | some u =>
    rw [hv] at hr
    cases hr
    have : vs[i]? = some v := by simpa using hv
    simp only [Instr.extract, this]
    rfl
theorem hot_len {c : Call} {ty : TypeId} {k : Hot} (hE : Emb P π H w) (hT : TR π n t tmps) (hG : Glob G π) (hc : c.callee = .builtin .len) (hk : decodeLen P G n c = some k) (hr : runHot b t H k = some (v, H')) :
    Comes1 P b π H w v H' ((do let d ← resolve (actE tmps) c ty; invoke d.target d.args : Sem Next).run P w) := by
  unfold decodeLen at hk
  split at hk
  · rename_i x t0 hargs hts
    have hr2 : (resolve (actE tmps) c ty).run P w = .ok { target := .builtin .len c.argTypes ty (c.args.map fun | .const _ => true | _ => false), args := c.args.map (actE tmps) } w := by
      unfold resolve; simp only [hc]; rfl
    have ht0 : c.argTypes[0]? = some t0 := by have := congrArg (fun l => l[0]?) hts; simpa using this
    have ha0 : (c.args.map (actE tmps))[0]? = some (actE tmps x) := by have := congrArg (fun l => l[0]?) hargs; simp at this; simp [this]
    have fin : ∀ m : Nat, (Builtin.len_ c.argTypes ty (c.args.map (actE tmps))).run P w = .ok (.int .i64 m) w → v = .int .i64 m → H' = H → Comes1 P b π H w v H' ((do let d ← resolve (actE tmps) c ty; invoke d.target d.args : Sem Next).run P w) := by
      intro m hrun hv hH
      subst hv hH
      refine ⟨π, .value (.int .i64 m), w, ?_, hE, .refl, .inl ⟨_, rfl, .int _ _⟩⟩
      rw [Sem.run_bind, hr2, Result.andThen_ok]
      unfold invoke builtin
      simp only
      rw [Sem.run_bind, hrun]
      rfl
    split at hk
    · rename_i e hu
      obtain ⟨s, hs, hk⟩ := one_some hk
      cases hk
      obtain ⟨h1, _, _⟩ := src_sound hT hG hs
      simp only [runHot, hotLen] at hr
      generalize evS t s = va at hr h1
      generalize hx' : actE tmps x = vx at h1
      cases h1 <;> try (cases hr; done)
      · cases hr
        refine fin _ ?_ rfl rfl
        unfold Builtin.len_
        simp only [ht0, ha0, hx']
        rw [Sem.run_bind, run_und hu]
        rfl
      · cases hr
        refine fin _ ?_ rfl rfl
        unfold Builtin.len_
        simp only [ht0, ha0, hx']
        rw [Sem.run_bind, run_und hu]
        rfl
    · rename_i hu
      obtain ⟨s, hs, hk⟩ := one_some hk
      cases hk
      obtain ⟨h1, _, _⟩ := src_sound hT hG hs
      simp only [runHot, hotLenT] at hr
      generalize evS t s = va at hr h1
      generalize hx' : actE tmps x = vx at h1
      cases h1 <;> try (cases hr; done)
      · cases hr
        refine fin _ ?_ rfl rfl
        unfold Builtin.len_
        simp only [ht0, ha0, hx']
        rw [Sem.run_bind, run_und hu]
        rfl
    · cases hk
  · cases hk
end
end Go.Proofs.YtdnccdobnhbpeaaDoor.Ev

namespace Go.Proofs.YtdnccdobnhbpeaaDoor.Ev
open Go
set_option linter.unusedVariables false
set_option linter.unusedSimpArgs false
section
variable {P : Program} {b : Bar} {π : Pl} {G n : Nat} {t : Trie Value} {tmps : Array Value} {H H' : Heap} {w : World} {v : Value}
/-- The operations that occur most often. -/
theorem hot_sim {o : Oper} (hE : Emb P π H w) (hT : TR π n t tmps) (hG : Glob G π) {k : Hot} (hk : decode P G n o.op = some k) (hr : runHot b t H k = some (v, H')) :
    Comes1 P b π H w v H' ((execOp (actE tmps) o).run P w) := by
  obtain ⟨dst, op, type, pos, after, guard⟩ := o
  simp only at hk
  cases op <;> simp only [decode] at hk <;> try (cases hk; done)
  case move x =>
    obtain ⟨s, hs, hk⟩ := one_some hk
    cases hk; cases hr
    obtain ⟨h1, _, _⟩ := src_sound hT hG hs
    exact of_same hE rfl h1
  case assign x =>
    obtain ⟨s, hs, hk⟩ := one_some hk
    cases hk; cases hr
    obtain ⟨h1, _, _⟩ := src_sound hT hG hs
    exact of_same hE rfl h1
  case extract x i =>
    obtain ⟨s, hs, hk⟩ := one_some hk
    cases hk
    exact hot_extract hE hT hG hs hr
  case load ty a =>
    obtain ⟨s, hs, hk⟩ := one_some hk
    exact hot_load hE hT hG hs hk hr
  case store ty a x =>
    obtain ⟨s, hs, hk⟩ := one_some hk
    obtain ⟨r, hs2, hk⟩ := one_some hk
    exact hot_store hE hT hG hs hs2 hk hr
  case fieldAddr ty x f =>
    obtain ⟨s, hs, hk⟩ := one_some hk
    exact hot_field hE hT hG hs hk hr
  case indexAddr ty x i =>
    obtain ⟨s, hs, hk⟩ := one_some hk
    obtain ⟨r, hs2, hk⟩ := one_some hk
    exact hot_index hE hT hG hs hs2 hk hr
  case box e x =>
    obtain ⟨s, hs, hk⟩ := one_some hk
    cases hk
    exact hot_box hE hT hG hs hr
  case alloc e => exact hot_alloc hE hk hr
  case pick c x y =>
    obtain ⟨s, hs, hk⟩ := one_some hk
    obtain ⟨r, hs2, hk⟩ := one_some hk
    obtain ⟨q, hs3, hk⟩ := one_some hk
    cases hk
    obtain ⟨h1, _, _⟩ := src_sound hT hG hs
    obtain ⟨h2, _, _⟩ := src_sound hT hG hs2
    obtain ⟨h3, _, _⟩ := src_sound hT hG hs3
    simp only [runHot, hotPick] at hr
    generalize evS t s = a at hr h1
    generalize ha : actE tmps c = a' at h1
    cases h1 <;> try (cases hr; done)
    rename_i bv
    cases bv with
    | true =>
      cases hr
      refine of_same hE ?_ h2
      simp only [execOp, ha]
      rfl
    | false =>
      cases hr
      refine of_same hE ?_ h3
      simp only [execOp, ha]
      rfl
  case unOp uo ty x =>
    cases uo <;> simp only at hk <;> try (cases hk; done)
    obtain ⟨s, hs, hk⟩ := one_some hk
    cases hk
    obtain ⟨h1, _, _⟩ := src_sound hT hG hs
    simp only [runHot, hotNot] at hr
    generalize evS t s = a at hr h1
    generalize ha : actE tmps x = a' at h1
    cases h1 <;> try (cases hr; done)
    rename_i bv
    cases bv <;> (cases hr; refine of_same hE ?_ (.bool _); simp only [execOp, ha]; rfl)
  case convert src dst' x =>
    split at hk
    · rename_i d k0 hsrc hu
      obtain ⟨s, hs, hk⟩ := one_some hk
      cases hk
      obtain ⟨h1, _, _⟩ := src_sound hT hG hs
      simp only [runHot, hotConv] at hr
      generalize evS t s = a at hr h1
      generalize ha : actE tmps x = a' at h1
      cases h1 <;> try (cases hr; done)
      rename_i k1 m
      simp only at hr
      cases ho : ofInt k0 m with
      | none => rw [ho] at hr; cases hr
      | some u =>
        rw [ho] at hr
        cases hr
        obtain ⟨e1, e2⟩ := ofInt_spec ho
        subst e1
        refine of_same hE ?_ (.int _ _)
        simp only [execOp, ha]
        rw [Sem.run_bind]
        unfold convert
        rw [Sem.run_bind]
        rw [run_und hsrc, Result.andThen_ok, Sem.run_bind, run_und hu, Result.andThen_ok]
        cases d <;> (simp only [Conv.intToInt, e2]; rfl)
    · cases hk
  case makeFunc fn xs ys =>
    cases fn <;> simp only at hk <;> try (cases hk; done)
    rename_i f
    split at hk
    · rename_i ss rs h1 h2
      cases hk
      cases hr
      obtain ⟨a1, _, _, _⟩ := srcs_sound hT hG _ _ h1
      obtain ⟨a2, _, _, _⟩ := srcs_sound hT hG _ _ h2
      have e1 := a1.arr
      have e2 := a2.arr
      rw [← arr_map] at e1 e2
      exact of_same hE rfl (.func (.func f) e1.1 e1.2 e2.1 e2.2)
    · cases hk
  case call c =>
    cases hc : c.callee <;> simp only [hc] at hk <;> try (cases hk; done)
    rename_i bi
    cases bi <;> simp only at hk <;> try (cases hk; done)
    exact hot_len (ty := type) hE hT hG hc hk hr
  case binOp bo ty x y yt =>
    obtain ⟨s, hs, hk⟩ := one_some hk
    obtain ⟨r, hs2, hk⟩ := one_some hk
    cases hk
    obtain ⟨h1, _, _⟩ := src_sound hT hG hs
    obtain ⟨h2, _, _⟩ := src_sound hT hG hs2
    simp only [runHot, hotArith] at hr
    generalize evS t s = a at hr h1
    generalize ha : actE tmps x = a' at h1
    cases h1 <;> try (cases hr; done)
    rename_i k1 m1
    simp only at hr
    generalize evS t r = c at hr h2
    generalize hc : actE tmps y = c' at h2
    cases h2 <;> try (cases hr; done)
    rename_i k2 m2
    simp only at hr
    cases hsk : sameKind k1 k2 with
    | false => rw [hsk] at hr; cases hr
    | true =>
      rw [hsk] at hr
      simp only [cond_true] at hr
      have e := sameKind_spec hsk
      subst e
      cases hx : xint bo k1 m1 m2 with
      | none => rw [hx] at hr; cases hr
      | some u =>
        rw [hx] at hr
        cases hr
        refine of_same hE ?_ (xint_flat hx π)
        simp only [execOp, ha, hc]
        rw [Sem.run_bind, Sem.run_bind, guard_int, Result.andThen_ok, xint_spec hx]
        rfl
end
end Go.Proofs.YtdnccdobnhbpeaaDoor.Ev

namespace Go.Proofs.YtdnccdobnhbpeaaDoor.Ev
open Go
set_option linter.unusedVariables false
set_option linter.unusedSimpArgs false

/-! ## Frames -/
inductive ItemR (π : Pl) : Item → Item → Prop
  | code (c : Code) : ItemR π (.code c) (.code c)
  | inBlock (i : Nat) : ItemR π (.inBlock i) (.inBlock i)
  | inLoop (c : Code) : ItemR π (.inLoop c) (.inLoop c)
  | inScope (c : Code) : ItemR π (.inScope c) (.inScope c)
  | inRegion (ops : Array Oper) (l : List Nat) : ItemR π (.inRegion ops l) (.inRegion ops l)
  | inRangeFunc {l k m : Nat} (h : π l = some (k, m)) : ItemR π (.inRangeFunc l) (.inRangeFunc k)
  | endRangeFunc {l k m : Nat} (h : π l = some (k, m)) : ItemR π (.endRangeFunc l) (.endRangeFunc k)
  | beginRound : ItemR π .beginRound .beginRound
inductive TodoR (π : Pl) : List Item → List Item → Prop
  | nil : TodoR π [] []
  | cons {x y : Item} {xs ys : List Item} (h : ItemR π x y) (t : TodoR π xs ys) : TodoR π (x :: xs) (y :: ys)
theorem ItemR.mono {π π' : Pl} (h : π.le π') {x y : Item} (r : ItemR π x y) : ItemR π' x y := by
  cases r with
  | inRangeFunc hl => exact .inRangeFunc (h _ _ hl)
  | endRangeFunc hl => exact .endRangeFunc (h _ _ hl)
  | _ => constructor
theorem TodoR.mono {π π' : Pl} (h : π.le π') {x y : List Item} (r : TodoR π x y) : TodoR π' x y := by
  induction r with
  | nil => exact .nil
  | cons hx _ ih => exact .cons (hx.mono h) ih
theorem TodoR.append {π : Pl} {a b c d : List Item} (h : TodoR π a b) (h' : TodoR π c d) : TodoR π (a ++ c) (b ++ d) := by
  induction h with
  | nil => exact h'
  | cons hx _ ih => exact .cons hx ih

/-- A frame that runs. -/
def fra (fn : FuncId) (tmps : Array Value) (todo : List Item) (ds : List Deferred) (r : Option Nat) : Frame := { fn, tmps, todo, defers := ds, mode := .run, kind := .normal, roundOf := r }
/-- A frame that returns. -/
def fret (fn : FuncId) (tmps : Array Value) (todo : List Item) (ds : List Deferred) (r : Option Nat) : Frame := { fn, tmps, todo, defers := ds, mode := .returning, kind := .normal, roundOf := r }
def fran (ret : Bool) (fn : FuncId) (tmps : Array Value) (todo : List Item) (ds : List Deferred) (r : Option Nat) : Frame := { fn, tmps, todo, defers := ds, mode := if ret then .returning else .run, kind := .normal, roundOf := r }

structure FR (π : Pl) (fr : LF) (tmps : Array Value) (todo : List Item) (ds : List Deferred) (r : Option Nat) : Prop where
  tmps : TR π fr.n fr.t tmps
  todo : TodoR π fr.todo todo
  ds : DsR π fr.defers ds
  round : RoundR π fr.round r
inductive FrameR (π : Pl) : LF → Frame → Prop
  | mk {fr : LF} {tmps : Array Value} {todo : List Item} {ds : List Deferred} {r : Option Nat} (h : FR π fr tmps todo ds r) : FrameR π fr (fran fr.ret fr.fn tmps todo ds r)
inductive FramesR (π : Pl) : List LF → List Frame → Prop
  | nil : FramesR π [] []
  | cons {x : LF} {y : Frame} {xs : List LF} {ys : List Frame} (h : FrameR π x y) (t : FramesR π xs ys) : FramesR π (x :: xs) (y :: ys)
theorem FR.mono {π π' : Pl} (h : π.le π') {fr : LF} {tmps : Array Value} {todo : List Item} {ds : List Deferred} {r : Option Nat} (x : FR π fr tmps todo ds r) : FR π' fr tmps todo ds r := ⟨x.tmps.mono h, x.todo.mono h, x.ds.mono h, x.round.mono h⟩
theorem FrameR.mono {π π' : Pl} (h : π.le π') {x : LF} {y : Frame} (r : FrameR π x y) : FrameR π' x y := by
  cases r with
  | mk hf => exact .mk (hf.mono h)
theorem FramesR.mono {π π' : Pl} (h : π.le π') {x : List LF} {y : List Frame} (r : FramesR π x y) : FramesR π' x y := by
  induction r with
  | nil => exact .nil
  | cons hx _ ih => exact .cons (hx.mono h) ih

/-- The function of the frame at the bottom. -/
def lastFn : FuncId → List Frame → FuncId
  | f, [] => f
  | _, c :: cs => lastFn c.fn cs

/-- From this frame the run comes to the end of the frame at the bottom. -/
def Ends (P : Program) (b : Bar) (π : Pl) (h : Heap) (w : World) (fr : Frame) (st : List Frame) (v : Value) (h' : Heap) : Prop :=
  ∃ π' v' w' fe, Emb P π' h' w' ∧ VR π' v v' ∧ Keep b h π w h' π' w' ∧ fe.leaving P w' (.returned v') ∧ fe.fn = lastFn fr.fn st ∧ ∀ cs, Steps P (lone fr (st ++ cs) w) (lone fe cs w')
def RunOk (P : Program) (G : Nat) (run : Runner) : Prop :=
  ∀ b fr st h v h', run b fr st h = some (v, h') → ∀ π fr' st' w, FrameR π fr fr' → FramesR π st st' → Glob G π → Emb P π h w → Ends P b π h w fr' st' v h'

section
variable {P : Program} {b : Bar} {π : Pl}
theorem Ends.steps {h h1 h' : Heap} {w w1 : World} {π1 : Pl} {fr fr1 : Frame} {st st1 : List Frame} {v : Value} (hs : ∀ cs, Steps P (lone fr (st ++ cs) w) (lone fr1 (st1 ++ cs) w1)) (hf : lastFn fr1.fn st1 = lastFn fr.fn st) (hk : Keep b h π w h1 π1 w1)
    (he : Ends P b π1 h1 w1 fr1 st1 v h') : Ends P b π h w fr st v h' := by
  obtain ⟨π', v', w', fe, e1, e2, e3, e4, e5, e6⟩ := he
  exact ⟨π', v', w', fe, e1, e2, hk.trans e3, e4, e5.trans hf, fun cs => (hs cs).trans (e6 cs)⟩
theorem Ends.step1 {h h' : Heap} {w : World} {fr fr1 : Frame} {st st1 : List Frame} {v : Value} (hs : ∀ cs, step P (lone fr (st ++ cs) w) = .next (lone fr1 (st1 ++ cs) w)) (hf : lastFn fr1.fn st1 = lastFn fr.fn st)
    (he : Ends P b π h w fr1 st1 v h') : Ends P b π h w fr st v h' := Ends.steps (fun cs => .one (hs cs)) hf .refl he
theorem Ends.stepK {h h1 h' : Heap} {w w1 : World} {π1 : Pl} {fr fr1 : Frame} {st st1 : List Frame} {v : Value} (hs : ∀ cs, step P (lone fr (st ++ cs) w) = .next (lone fr1 (st1 ++ cs) w1)) (hf : lastFn fr1.fn st1 = lastFn fr.fn st) (hk : Keep b h π w h1 π1 w1)
    (he : Ends P b π1 h1 w1 fr1 st1 v h') : Ends P b π h w fr st v h' := Ends.steps (fun cs => .one (hs cs)) hf hk he

/-! ## Steps of the machine -/
variable {fn : FuncId} {tmps : Array Value} {k : List Item} {ds : List Deferred} {r : Option Nat} {cs : List Frame} {w w' : World}
theorem st_skip : step P (lone (fra fn tmps (.code .skip :: k) ds r) cs w) = .next (lone (fra fn tmps k ds r) cs w) := step_lone_go (by simp [stepG, stepG.exec, fra])
theorem st_label {l : Nat} : step P (lone (fra fn tmps (.code (.label l) :: k) ds r) cs w) = .next (lone (fra fn tmps k ds r) cs w) := step_lone_go (by simp [stepG, stepG.exec, fra])
theorem st_inBlock {l : Nat} : step P (lone (fra fn tmps (.inBlock l :: k) ds r) cs w) = .next (lone (fra fn tmps k ds r) cs w) := step_lone_go (by simp [stepG, stepG.exec, fra])
theorem st_inScope {c : Code} : step P (lone (fra fn tmps (.inScope c :: k) ds r) cs w) = .next (lone (fra fn tmps k ds r) cs w) := step_lone_go (by simp [stepG, stepG.exec, fra])
theorem st_seq {a c : Code} : step P (lone (fra fn tmps (.code (.seq a c) :: k) ds r) cs w) = .next (lone (fra fn tmps (.code a :: .code c :: k) ds r) cs w) := step_lone_go (by simp [stepG, stepG.exec, fra])
theorem st_block {i : Nat} {c : Code} : step P (lone (fra fn tmps (.code (.block i c) :: k) ds r) cs w) = .next (lone (fra fn tmps (.code c :: .inBlock i :: k) ds r) cs w) := step_lone_go (by simp [stepG, stepG.exec, fra])
theorem st_loop {c : Code} : step P (lone (fra fn tmps (.code (.loop c) :: k) ds r) cs w) = .next (lone (fra fn tmps (.code c :: .inLoop c :: k) ds r) cs w) := step_lone_go (by simp [stepG, stepG.exec, fra])
theorem st_inLoop {c : Code} : step P (lone (fra fn tmps (.inLoop c :: k) ds r) cs w) = .next (lone (fra fn tmps (.code c :: .inLoop c :: k) ds r) cs w) := step_lone_go (by simp [stepG, stepG.exec, fra])
theorem st_scope {c : Code} : step P (lone (fra fn tmps (.code (.scope c) :: k) ds r) cs w) = .next (lone (fra fn tmps (.code c :: .inScope c :: k) ds r) cs w) := step_lone_go (by simp [stepG, stepG.exec, fra])
theorem st_cond {c : Operand} {a d : Code} {x : Bool} (h : actE tmps c = .bool x) : step P (lone (fra fn tmps (.code (.cond c a d) :: k) ds r) cs w) = .next (lone (fra fn tmps (.code (if x then a else d) :: k) ds r) cs w) := by
  have he : (fra fn tmps (.code (.cond c a d) :: k) ds r).eval c = .bool x := by rw [actE_frame]; exact h
  exact step_lone_go (by simp only [fra] at he; simp [stepG, stepG.exec, fra, he])
theorem st_exit {i : Nat} {k' : List Item} (h : exitTo i k = some k') : step P (lone (fra fn tmps (.code (.exit i) :: k) ds r) cs w) = .next (lone (fra fn tmps k' ds r) cs w) := step_lone_go (by simp [stepG, stepG.exec, fra, h])
theorem st_goto {i : Nat} {k' : List Item} (h : gotoIn i k = some k') : step P (lone (fra fn tmps (.code (.goto i) :: k) ds r) cs w) = .next (lone (fra fn tmps k' ds r) cs w) := step_lone_go (by simp [stepG, stepG.exec, fra, h])
theorem st_region {i : Nat} {ops : Array Oper} : step P (lone (fra fn tmps (.code (.region i ops false) :: k) ds r) cs w) = .next (lone (fra fn tmps (.inRegion ops (List.range ops.size) :: k) ds r) cs w) := step_lone_go (by simp [stepG, stepG.exec, fra])
theorem st_draw {i : Nat} {ops : Array Oper} : step P (lone (fra fn tmps (.code (.region i ops true) :: k) ds r) cs w) = .next (lone (fra fn tmps (.inRegion ops (Region.schedule (P.follows .mixedOrders) ops (w.tape w.drawn (.order fn i))) :: k) ds r) cs { w with drawn := w.drawn + 1 }) :=
  step_lone_go (by simp [stepG, stepG.exec, fra, choose, Sem.run, Question.forced, Question.cut])
theorem st_regionEnd {ops : Array Oper} : step P (lone (fra fn tmps (.inRegion ops [] :: k) ds r) cs w) = .next (lone (fra fn tmps k ds r) cs w) := step_lone_go (by simp [stepG, stepG.exec, fra])
theorem st_ret : step P (lone (fra fn tmps (.code .ret :: k) ds none) cs w) = .next (lone (fret fn tmps (.code .ret :: k) ds none) cs w) := step_lone_go (by simp [stepG, stepG.exec, fra, fret])
theorem st_end : step P (lone (fra fn tmps [] ds none) cs w) = .next (lone (fret fn tmps [] ds none) cs w) := step_lone_go (by simp [stepG, stepG.exec, fra, fret])
theorem fra_atR : fra fn tmps k ds r = Frame.atR (fra fn tmps k ds r) ⟨tmps, ds⟩ k := rfl
/-- A frame behind an operation. -/
def putA (tmps : Array Value) (d : Option Tmp) (v : Value) : Array Value := match d with | some i => tmps.setIfInBounds i v | none => tmps
theorem fra_finish {ops : Array Oper} {i : Nat} {l : List Nat} {o : Oper} (ho : ops[i]? = some o) (v : Value) : (fra fn tmps (.inRegion ops (i :: l) :: k) ds r).finish v = fra fn (putA tmps o.dst v) (.inRegion ops l :: k) ds r := by
  simp only [Frame.finish, fra, ho, Option.bind_some, putA]
  cases o.dst <;> rfl
theorem st_skipOp {ops : Array Oper} {i : Nat} {l : List Nat} {o : Oper} (ho : ops[i]? = some o) (hw : Region.wanted o (yielded ops tmps) = false) :
    step P (lone (fra fn tmps (.inRegion ops (i :: l) :: k) ds r) cs w) = .next (lone (fra fn (putA tmps o.dst undef) (.inRegion ops l :: k) ds r) cs w) := by
  rw [← fra_finish ho]
  exact step_lone_go (by simp [stepG, stepG.exec, fra, ho, hw])
theorem stG_op {ops : Array Oper} {i : Nat} {l : List Nat} {o : Oper} (ho : ops[i]? = some o) (hw : Region.wanted o (yielded ops tmps) = true) (hd : ∀ c, o.op ≠ .defer c) :
    stepG P true { frame := fra fn tmps (.inRegion ops (i :: l) :: k) ds r, callers := cs, status := .running, dying := none } w =
      stepG.apply P true (fra fn tmps (.inRegion ops (i :: l) :: k) ds r) cs none (execOp (actE tmps) o) w := by
  have := stepGR_op (P := P) (b := fra fn tmps (.inRegion ops (i :: l) :: k) ds r) (a := ⟨tmps, ds⟩) (k := k) (cs := cs) (w := w) (rest := l) ho hw
  rw [Oper.semAt_eq _ _ _ hd, actE_act] at this
  exact this
theorem st_opValue {ops : Array Oper} {i : Nat} {l : List Nat} {o : Oper} (ho : ops[i]? = some o) (hw : Region.wanted o (yielded ops tmps) = true) (hd : ∀ c, o.op ≠ .defer c) {v : Value} (hr : (execOp (actE tmps) o).run P w = .ok (.value v) w') :
    step P (lone (fra fn tmps (.inRegion ops (i :: l) :: k) ds r) cs w) = .next (lone (fra fn (putA tmps o.dst v) (.inRegion ops l :: k) ds r) cs w') := by
  rw [← fra_finish ho]
  exact step_lone_go (by rw [stG_op ho hw hd]; simp [stepG.apply, hr])
theorem st_opSkip {ops : Array Oper} {i : Nat} {l : List Nat} {o : Oper} (ho : ops[i]? = some o) (hw : Region.wanted o (yielded ops tmps) = true) (hd : ∀ c, o.op ≠ .defer c) (hr : (execOp (actE tmps) o).run P w = .ok .skip w') :
    step P (lone (fra fn tmps (.inRegion ops (i :: l) :: k) ds r) cs w) = .next (lone (fra fn (putA tmps o.dst undef) (.inRegion ops l :: k) ds r) cs w') := by
  rw [← fra_finish ho]
  exact step_lone_go (by rw [stG_op ho hw hd]; simp [stepG.apply, hr])
theorem st_opEnter {ops : Array Oper} {i : Nat} {l : List Nat} {o : Oper} (ho : ops[i]? = some o) (hw : Region.wanted o (yielded ops tmps) = true) (hd : ∀ c, o.op ≠ .defer c) {f : FuncId} {args : Array Value} (hr : (execOp (actE tmps) o).run P w = .ok (.enter f args) w') :
    step P (lone (fra fn tmps (.inRegion ops (i :: l) :: k) ds r) cs w) = .next (lone (Frame.enter P f args .normal) (fra fn tmps (.inRegion ops (i :: l) :: k) ds r :: cs) w') :=
  step_lone_go (by rw [stG_op ho hw hd]; simp [stepG.apply, hr, fra])
theorem st_opRound {ops : Array Oper} {i : Nat} {l : List Nat} {o : Oper} (ho : ops[i]? = some o) (hw : Region.wanted o (yielded ops tmps) = true) (hd : ∀ c, o.op ≠ .defer c) {lp : Nat} {f : FuncId} {ts : Array Value} {as body : Code} (hr : (execOp (actE tmps) o).run P w = .ok (.round lp f ts as body) w') :
    step P (lone (fra fn tmps (.inRegion ops (i :: l) :: k) ds r) cs w) = .next (lone (Frame.round lp f ts as body .normal) (fra fn tmps (.inRegion ops (i :: l) :: k) ds r :: cs) w') :=
  step_lone_go (by rw [stG_op ho hw hd]; simp [stepG.apply, hr, fra])
theorem st_beginRound {l : Nat} (hr : (Instr.beginRound l).run P w = .ok () w') : step P (lone (fra fn tmps (.beginRound :: k) ds (some l)) cs w) = .next (lone (fra fn tmps k ds (some l)) cs w') :=
  step_lone_go (by simp [stepG, stepG.exec, stepG.apply, fra, Sem.runT_eq, hr, Result.andThen, Frame.finish])
theorem st_endRange {l : Nat} {jump : Option Code} (hr : (Instr.endLoop l).run P w = .ok jump w') : step P (lone (fra fn tmps (.endRangeFunc l :: k) ds r) cs w) = .next (lone (fra fn tmps ((jump.map Item.code).toList ++ k) ds r) cs w') :=
  step_lone_go (by simp [stepG, stepG.exec, fra, Sem.runT_eq, hr])
theorem st_take {bl : Nat} {args : Array Value} {todo : List Item} (hr : (Instr.takeDeferred bl).run P w = .ok [] w') : step P (lone (fret fn tmps todo ({ target := .collected bl, args := args } :: ds) r) cs w) = .next (lone (fret fn tmps todo ds r) cs w') :=
  step_lone_go (by simp [stepG, unwind, fret, Sem.runT_eq, hr])
variable {c : Frame}
theorem st_roundEnd {l : Nat} {v : Value} (hr : (Instr.endRound l none).run P w = .ok v w') : step P (lone (fra fn tmps [] ds (some l)) (c :: cs) w) = .next (lone (c.finish v) cs w') :=
  stepR_round_end (b := fra fn tmps [] ds (some l)) (a := ⟨tmps, ds⟩) rfl rfl hr
theorem st_roundRet {l : Nat} {v : Value} (hr : (Instr.endRound l (some .ret)).run P w = .ok v w') : step P (lone (fra fn tmps (.code .ret :: k) ds (some l)) (c :: cs) w) = .next (lone (c.finish v) cs w') :=
  stepR_round_ret (b := fra fn tmps [] ds (some l)) (a := ⟨tmps, ds⟩) rfl rfl hr
theorem st_roundExit {l i : Nat} {v : Value} (hx : exitTo i k = none) (hr : (Instr.endRound l (some (.exit i))).run P w = .ok v w') : step P (lone (fra fn tmps (.code (.exit i) :: k) ds (some l)) (c :: cs) w) = .next (lone (c.finish v) cs w') :=
  stepR_round_exit (b := fra fn tmps [] ds (some l)) (a := ⟨tmps, ds⟩) rfl rfl hx hr
theorem st_roundGoto {l i : Nat} {v : Value} (hx : gotoIn i k = none) (hr : (Instr.endRound l (some (.goto i))).run P w = .ok v w') : step P (lone (fra fn tmps (.code (.goto i) :: k) ds (some l)) (c :: cs) w) = .next (lone (c.finish v) cs w') :=
  stepR_round_goto (b := fra fn tmps [] ds (some l)) (a := ⟨tmps, ds⟩) rfl rfl hx hr
theorem st_rangeFunc {f : Operand} {params : Array Tmp} {assign body : Code} {l : Nat} {mark : List Deferred} {fv : Fn} {xs ys : Array Value} {w1 : World} (hf : actE tmps f = .func fv xs ys)
    (he : (Instr.enterLoop fn tmps params assign body r).run P w = .ok (l, mark) w1) :
    (∀ g args, (invoke (.fn fv ys) (xs ++ #[.func (.yield l) #[] #[]])).run P w1 = .ok (.enter g args) w' →
      step P (lone (fra fn tmps (.code (.rangeFunc f params assign body) :: k) ds r) cs w) = .next (lone (Frame.enter P g args .normal) (fra fn tmps (.inRangeFunc l :: k) (mark ++ ds) r :: cs) w')) ∧
    (∀ lp g ts as bd, (invoke (.fn fv ys) (xs ++ #[.func (.yield l) #[] #[]])).run P w1 = .ok (.round lp g ts as bd) w' →
      step P (lone (fra fn tmps (.code (.rangeFunc f params assign body) :: k) ds r) cs w) = .next (lone (Frame.round lp g ts as bd .normal) (fra fn tmps (.inRangeFunc l :: k) (mark ++ ds) r :: cs) w')) := by
  have hev : (fra fn tmps (.inRangeFunc l :: k) (mark ++ ds) r).eval f = .func fv xs ys := by rw [actE_frame]; exact hf
  have hres : ∀ w, (resolve (fra fn tmps (.inRangeFunc l :: k) (mark ++ ds) r).eval { callee := .value f, args := #[.const (.func (.yield l) #[] #[])], argTypes := #[] } 0).run P w = .ok { target := .fn fv ys, args := xs ++ #[.func (.yield l) #[] #[]] } w := by
    intro w
    unfold resolve
    simp only [hev, Deferred.ofValue]
    simp [Frame.eval]
  simp only [fra] at hres hev
  refine ⟨fun g args hi => step_lone_go ?_, fun lp g ts as bd hi => step_lone_go ?_⟩
  · rw [show xs ++ #[Value.func (.yield l) #[] #[]] = xs.push (.func (.yield l) #[] #[]) from by simp] at hi
    simp [stepG, stepG.exec, stepG.apply, fra, Sem.runT_eq, he, hres, hi]
  · rw [show xs ++ #[Value.func (.yield l) #[] #[]] = xs.push (.func (.yield l) #[] #[]) from by simp] at hi
    simp [stepG, stepG.exec, stepG.apply, fra, Sem.runT_eq, he, hres, hi]
end
end Go.Proofs.YtdnccdobnhbpeaaDoor.Ev

namespace Go.Proofs.YtdnccdobnhbpeaaDoor.Ev
open Go
set_option linter.unusedVariables false
set_option linter.unusedSimpArgs false
section
variable {P : Program} {π : Pl} {G n : Nat} {t : Trie Value} {tmps : Array Value} {H H' : Heap} {w : World} {v : Value} {b : Bar}

theorem ofList_get (m : Nat) (hm : m < 2 ^ 24 - 1) : ∀ (l : List Value) (i : Nat) (t : Trie Value) (j : Nat), i + l.length ≤ m → j < m → tget (ofList m l i t) j = if i ≤ j ∧ j < i + l.length then l.getD (j - i) undef else tget t j := by
  intro l
  induction l with
  | nil =>
    intro i t j _ _
    have : ¬ (i ≤ j ∧ j < i + 0) := by omega
    simp only [List.length_nil, this, if_false]
    rfl
  | cons v l ih =>
    intro i t j hl hj
    simp only [List.length_cons] at hl ⊢
    show tget (ofList m l (i + 1) (tset m t i v)) j = _
    have hset : tget (tset m t i v) j = if j = i then v else tget t j := by
      rw [tset_eq]
      have : i < m := by omega
      rw [if_pos this]
      exact tget_put t v i j (by omega) (by omega)
    rw [ih (i + 1) _ j (by omega) hj, hset]
    by_cases h1 : j = i
    · subst h1
      have e1 : ¬ (j + 1 ≤ j ∧ j < j + 1 + l.length) := by omega
      have e2 : j ≤ j ∧ j < j + (l.length + 1) := by omega
      rw [if_neg e1, if_pos e2, if_pos rfl]
      simp
    · by_cases h2 : i + 1 ≤ j ∧ j < i + 1 + l.length
      · have e2 : i ≤ j ∧ j < i + (l.length + 1) := by omega
        rw [if_pos h2, if_pos e2]
        have : j - i = (j - (i + 1)) + 1 := by omega
        rw [this]
        rfl
      · have e2 : ¬ (i ≤ j ∧ j < i + (l.length + 1)) := by omega
        rw [if_neg h2, if_neg e2, if_neg h1]
theorem tget_leaf (j : Nat) : tget (.leaf : Trie Value) j = undef := by unfold tget vat; rw [Trie.at_leaf]
theorem LR.getD {l l' : List Value} (h : LR π l l') (i : Nat) : VR π (l.getD i undef) (l'.getD i undef) := by
  by_cases hi : i < l.length
  · have hi' : i < l'.length := h.1 ▸ hi
    have := h.2 i hi hi'
    simpa [hi, hi'] using this
  · have hi' : ¬ i < l'.length := h.1 ▸ hi
    have e1 : l[i]? = none := List.getElem?_eq_none (by omega)
    have e2 : l'[i]? = none := List.getElem?_eq_none (by omega)
    simp only [List.getD, e1, e2, Option.getD_none]
    exact .undef
/-- The temporaries of a call. -/
theorem TR.call {m : Nat} (hm : m < 2 ^ 24 - 1) {args args' : List Value} (ha : LR π args args') (hl : args.length ≤ m) : TR π m (ofList m args 0 .leaf) ((⟨args'⟩ : Array Value) ++ Array.replicate (m - (⟨args'⟩ : Array Value).size) undef) := by
  have hlen : args'.length ≤ m := ha.1 ▸ hl
  refine ⟨by simp; omega, hm, fun i hi => ?_⟩
  rw [ofList_get m hm args 0 .leaf i (by omega) hi, tget_leaf]
  have e : ((⟨args'⟩ : Array Value) ++ Array.replicate (m - (⟨args'⟩ : Array Value).size) undef).getD i undef = args'.getD i undef := by
    by_cases hia : i < args'.length
    · have h8 : i < ((⟨args'⟩ : Array Value) ++ Array.replicate (m - args'.length) undef).size := by simp; omega
      simp only [Array.getD, List.size_toArray, h8, dite_true, Array.getElem_append, hia]
      simp [List.getD, hia]
    · have e2 : args'[i]? = none := List.getElem?_eq_none (by omega)
      have h9 : i - args'.length < m - args'.length := by omega
      simp only [List.getD, e2, Option.getD_none]
      simp [Array.getD, Array.getElem_append, hia]
  rw [e]
  have := ha.getD i
  by_cases hia : i < args.length
  · have : 0 ≤ i ∧ i < 0 + args.length := by omega
    rw [if_pos this]
    simpa using ha.getD i
  · have h0 : ¬ (0 ≤ i ∧ i < 0 + args.length) := by omega
    rw [if_neg h0]
    have e2 : args'[i]? = none := List.getElem?_eq_none (by rw [← ha.1]; omega)
    simp only [List.getD, e2, Option.getD_none]
    exact .undef
theorem TR.round {xs ys : Array Value} (h : AR π xs ys) (hs : xs.size < 2 ^ 24 - 1) : TR π xs.toList.length (ofList xs.toList.length xs.toList 0 .leaf) ys := by
  refine ⟨by simpa using h.1.symm, by simpa using hs, fun i hi => ?_⟩
  have hi' : i < xs.size := by simpa using hi
  rw [ofList_get _ (by simpa using hs) xs.toList 0 .leaf i (by omega) hi]
  have : 0 ≤ i ∧ i < 0 + xs.toList.length := by omega
  rw [if_pos this]
  have := h.getD i
  simpa [hi'] using this
theorem toL_get (t : Trie Value) : ∀ (m : Nat) (acc : List Value), (toL t m acc).length = m + acc.length ∧ ∀ i, (toL t m acc).getD i undef = if i < m then tget t i else acc.getD (i - m) undef := by
  intro m
  induction m with
  | zero =>
    intro acc
    exact ⟨(by show acc.length = _; omega), fun i => (by show acc.getD i undef = _; simp)⟩
  | succ m ih =>
    intro acc
    show (toL t m (tget t m :: acc)).length = _ ∧ ∀ i, (toL t m (tget t m :: acc)).getD i undef = _
    obtain ⟨a, c⟩ := ih (tget t m :: acc)
    refine ⟨by rw [a]; simp; omega, fun i => ?_⟩
    rw [c]
    by_cases h1 : i < m
    · have : i < m + 1 := by omega
      simp [h1, this]
    · by_cases h2 : i = m
      · subst h2; simp
      · have h3 : ¬ i < m + 1 := by omega
        rw [if_neg h1, if_neg h3]
        have : i - m = (i - (m + 1)) + 1 := by omega
        rw [this]
        rfl
theorem TR.arr (h : TR π n t tmps) : AR π ⟨toL t n []⟩ tmps := by
  obtain ⟨a, c⟩ := toL_get t n []
  refine ⟨by simp [a, h.size], fun i hi hi' => ?_⟩
  have hin : i < n := by have := h.size; omega
  have h1 := h.at_ i hin
  have h2 := c i
  rw [if_pos hin] at h2
  have e1 : (toL t n [])[i]'(by rw [a]; simpa using hin) = tget t i := by
    have : (toL t n []).getD i undef = (toL t n [])[i]'(by rw [a]; simpa using hin) := by
      have hlt : i < (toL t n []).length := by rw [a]; simpa using hin
      simp [hlt]
    rw [← this, h2]
  have e2 : tmps.getD i undef = tmps[i] := by simp [hi']
  rw [e2] at h1
  show VR π ((toL t n [])[i]'_) _
  rw [e1]
  exact h1
theorem wanted_eq (h : TR π n t tmps) {ops : Array Oper} {o : Oper} : wantedT ops o.guard t n = Region.wanted o (yielded ops tmps) := by
  unfold wantedT Region.wanted
  cases o.guard with
  | none => rfl
  | some g =>
    obtain ⟨j, want⟩ := g
    simp only [yielded]
    cases hd : (ops[j]?).bind (·.dst) with
    | none => rfl
    | some d0 =>
      obtain ⟨d, hdd⟩ : ∃ d : Nat, d = d0 := ⟨d0, rfl⟩
      subst hdd
      simp only [Option.bind_some]
      have hsz := h.size
      by_cases hi : @LT.lt Nat _ d n
      · have hb : Nat.ble (Nat.succ d) n = true := ble_true hi
        rw [hb]
        simp only [cond_true]
        have hlt : d < tmps.size := by omega
        have h1 := h.at_ d hi
        have e : tmps.getD d undef = tmps[d] := by simp [hlt]
        rw [e] at h1
        rw [Array.getElem?_eq_getElem hlt]
        generalize tget t d = a at h1
        generalize tmps[d] = c at h1
        cases h1 <;> first | rfl | (cases want <;> rfl) | skip
        all_goals (rename_i bv; cases bv <;> cases want <;> rfl)
      · have hb : Nat.ble (Nat.succ d) n = false := ble_false (by omega)
        rw [hb]
        have e : tmps[d]? = none := Array.getElem?_eq_none (by omega)
        rw [e]
        cases want <;> rfl
end
end Go.Proofs.YtdnccdobnhbpeaaDoor.Ev

namespace Go.Proofs.YtdnccdobnhbpeaaDoor.Ev
open Go
set_option linter.unusedVariables false
set_option linter.unusedSimpArgs false
section
variable {P : Program} {b : Bar} {π : Pl} {G n : Nat} {t : Trie Value} {tmps : Array Value} {H H' : Heap} {w : World} {v : Value} {run : Runner}

/-! ## Results -/
theorem ReadR.size (t : TypeId) : ReadR P b π (Go.sizeOf t) (Go.sizeOf t) Eq := by
  intro H w hE x H' hs
  obtain ⟨π2, c, w2, e, e1, e2, e3⟩ := (SemR.sizeOf (P := P) (lo := b) (π := π) (t := t)) π (Pl.le_refl _) H w hE x H' hs
  unfold Go.sizeOf Go.typeInfo at hs ⊢
  rw [lsem_bind', lsem_bind'] at hs
  simp only [Go.program, lsem] at hs
  cases hi : P.info? t with
  | none => rw [hi] at hs; cases hs
  | some i => rw [hi] at hs; cases hs; exact ⟨rfl, i.size, by simp [hi], rfl⟩
theorem ReadR.isAgg (t : TypeId) : ReadR P b π (Go.isAgg t) (Go.isAgg t) Eq := by
  intro H w hE x H' hs
  unfold Go.isAgg Go.underlying at hs ⊢
  rw [lsem_bind', lsem_bind'] at hs
  simp only [Go.program, lsem] at hs
  cases hi : P.underlying t with
  | none => rw [hi] at hs; cases hs
  | some d => rw [hi] at hs; cases d <;> cases hs <;> exact ⟨rfl, _, by simp [hi], rfl⟩
theorem ReadR.loadVar {ty : TypeId} {a a' : Addr} (h : AddrR π a a') : ReadR P b π (Go.loadVar ty a) (Go.loadVar ty a') (VR π) := by
  unfold Go.loadVar
  refine ReadR.bind (ReadR.isAgg ty) fun x y hxy => ?_
  subst hxy
  cases x with
  | true =>
    simp only [if_true]
    refine ReadR.bind (ReadR.size ty) fun m m' hm => ?_
    subst hm
    refine ReadR.bind (R := AR π) ?_ fun xs ys hx => ReadR.pure (.agg hx.1 hx.2)
    intro H w hE x H' hs
    obtain ⟨e, c, e1, h1, h2⟩ := ReadR.loadCellsFrom h m 0 #[] #[] AR.nil H w hE x H' hs
    exact ⟨e, c, e1, h1⟩
  | false => exact ReadR.load h
theorem ReadR.cell {ty : TypeId} {v v' : Value} (h : VR π v v') : ReadR P b π (do Go.loadVar ty (← Go.asAddr v)) (do Go.loadVar ty (← Go.asAddr v')) (VR π) := by
  cases h <;> try exact ReadR.stuck
  · intro H w hE x H' hs
    rw [lsem_bind'] at hs
    have := never_runtimePanic (P := P) (lo := b) (α := Addr) .nilDeref H
    have h0 : lsem P b (Go.asAddr (.pointer none)) H = none := this
    rw [h0] at hs
    cases hs
  · rename_i hk
    exact ReadR.loadVar ⟨_, _, hk, rfl⟩
theorem results_sim (hE : Emb P π H w) (hT : TR π n t tmps) (g : ResultVar → Sem Value) (hg1 : ∀ i, g (.tmp i) = Pure.pure (tmps.getD i Go.undef)) (hg2 : ∀ a ty, g (.cell a ty) = (do Go.loadVar ty (← Go.asAddr (tmps.getD a Go.undef)))) : ∀ (rs : List ResultVar) (l : List Value), resultsL P b n t H rs = some l →
    ∃ vs, (rs.mapM g).run P w = .ok vs w ∧ LR π l vs := by
  intro rs
  induction rs with
  | nil => intro l h; cases h; exact ⟨[], rfl, LR.nil⟩
  | cons r rs ih =>
    intro l h
    cases r with
    | tmp i =>
      simp only [resultsL] at h
      cases h1 : resultsL P b n t H rs with
      | none => rw [h1] at h; cases h
      | some m =>
        rw [h1] at h
        cases h
        obtain ⟨vs, e, hl⟩ := ih m h1
        refine ⟨tmps.getD i undef :: vs, ?_, LR.cons (hT.get i) hl⟩
        rw [List.mapM_cons]
        have e0 : (g (.tmp i)).run P w = .ok (tmps.getD i undef) w := by rw [hg1]; rfl
        generalize tmps.getD i undef = x at e0
        simp [e, e0]
    | cell i ty =>
      simp only [resultsL] at h
      cases h0 : lsem P b (do Go.loadVar ty (← Go.asAddr (evT n t (.tmp i)))) H with
      | none => rw [h0] at h; cases h
      | some x =>
        obtain ⟨u, H1⟩ := x
        rw [h0] at h
        simp only at h
        cases h1 : resultsL P b n t H rs with
        | none => rw [h1] at h; cases h
        | some m =>
          rw [h1] at h
          cases h
          obtain ⟨vs, e, hl⟩ := ih m h1
          obtain ⟨_, c, e2, hc⟩ := ReadR.cell (ty := ty) (hT.get i) H w hE u H1 h0
          refine ⟨c :: vs, ?_, LR.cons hc hl⟩
          rw [← hg2] at e2
          rw [List.mapM_cons]
          simp [e, e2]
theorem results_run {g : ResultVar → Sem Value} {rs : Array ResultVar} {vs : List Value} (e : (rs.toList.mapM g).run P w = .ok vs w) :
    (do let vs ← rs.mapM g; Pure.pure (if h : vs.size = 1 then vs[0] else .tuple vs) : Sem Value).run P w = .ok (if h : (⟨vs⟩ : Array Value).size = 1 then (⟨vs⟩ : Array Value)[0] else .tuple ⟨vs⟩) w := by
  rw [Sem.run_bind, Array.mapM_eq_mapM_toList]
  have : (List.toArray <$> rs.toList.mapM g).run P w = .ok ⟨vs⟩ w := by
    show ((rs.toList.mapM g).bind fun x => Pure.pure (List.toArray x)).run P w = _
    rw [show ((rs.toList.mapM g).bind fun x => (Pure.pure (List.toArray x) : Sem _)) = (rs.toList.mapM g >>= fun x => Pure.pure (List.toArray x)) from rfl, Sem.run_bind, e]
    rfl
  rw [this]
  rfl
theorem oneOf_sim {l vs : List Value} (h : LR π l vs) : VR π (oneOf l) (if h : (⟨vs⟩ : Array Value).size = 1 then (⟨vs⟩ : Array Value)[0] else .tuple ⟨vs⟩) := by
  have hlen := h.1
  match l, vs, h with
  | [], [], h => simp [oneOf]; exact .tuple rfl fun i a => by simp at a
  | [x], [y], h => simp [oneOf]; exact h.tail.1
  | x :: x2 :: xs, y :: y2 :: ys, h =>
    have := h.array
    simp [oneOf]
    exact .tuple this.1 this.2
theorem leaves {f : Func} {fn : FuncId} {todo : List Item} {r : Option Nat} {l : List Value} (hE : Emb P π H w) (hT : TR π n t tmps) (hf : P.funcs.toList[fn]? = some f) (hl : resultsL P b n t H f.results.toList = some l) :
    ∃ v', VR π (oneOf l) v' ∧ (fret fn tmps todo [] r).leaving P w (.returned v') := by
  obtain ⟨vs, e, h⟩ := results_sim hE hT (fun | .tmp i => Pure.pure (tmps.getD i Go.undef) | .cell a ty => do Go.loadVar ty (← Go.asAddr (tmps.getD a Go.undef))) (fun _ => rfl) (fun _ _ => rfl) _ _ hl
  have hf' : P.funcs[fn]? = some f := by simpa using hf
  exact ⟨_, oneOf_sim h, rfl, rfl, rfl, f, hf', results_run e⟩
end
end Go.Proofs.YtdnccdobnhbpeaaDoor.Ev

namespace Go.Proofs.YtdnccdobnhbpeaaDoor.Ev
open Go
set_option linter.unusedVariables false
set_option linter.unusedSimpArgs false
section
variable {P : Program} {b : Bar} {π : Pl} {G n : Nat} {t : Trie Value} {tmps : Array Value} {H H' : Heap} {w : World} {v : Value} {run : Runner}

/-! ## Where a frame goes on -/
theorem exitTo_sim {i : Nat} : ∀ {k k' : List Item}, TodoR π k k' → (∀ k1, exitTo i k = some k1 → ∃ k1', exitTo i k' = some k1' ∧ TodoR π k1 k1') ∧ (exitTo i k = none → exitTo i k' = none) := by
  intro k k' h
  induction h with
  | nil => exact ⟨fun k1 h => by simp [exitTo] at h, fun _ => rfl⟩
  | cons hx ht ih =>
    cases hx with
    | inBlock j =>
      simp only [exitTo]
      by_cases e : (j == i) = true
      · rw [if_pos e, if_pos e]
        exact ⟨fun k1 h => by cases h; exact ⟨_, rfl, ht⟩, fun h => by cases h⟩
      · rw [if_neg e, if_neg e]
        exact ih
    | _ => simp only [exitTo]; exact ih
theorem gotoIn_sim {i : Nat} : ∀ {k k' : List Item}, TodoR π k k' → (∀ k1, gotoIn i k = some k1 → ∃ k1', gotoIn i k' = some k1' ∧ TodoR π k1 k1') ∧ (gotoIn i k = none → gotoIn i k' = none) := by
  intro k k' h
  induction h with
  | nil => exact ⟨fun k1 h => by simp [gotoIn] at h, fun _ => rfl⟩
  | cons hx ht ih =>
    cases hx with
    | inScope c =>
      simp only [gotoIn]
      cases hf : findLabel c i with
      | some rest =>
        simp only
        exact ⟨fun k1 h => by cases h; exact ⟨_, rfl, .cons (.code _) (.cons (.inScope _) ht)⟩, fun h => by cases h⟩
      | none => exact ih
    | _ => simp only [gotoIn]; exact ih

/-! ## New frames -/
theorem callFrame_sim {f m : Nat} {body : Code} {fn : Func} {args : List Value} {args' : Array Value} (hf : P.funcs.toList[f]? = some fn) (hb : fn.body = some body) (hm : fn.ntmps = m) (h1 : args.length ≤ m) (h2 : m ≤ 1048576) (ha : LR π args args'.toList) :
    FrameR π (callFrame f m body args) (Frame.enter P f args' .normal) := by
  have hf' : P.funcs[f]? = some fn := by simpa using hf
  have e : Frame.enter P f args' .normal = fran false f ((⟨args'.toList⟩ : Array Value) ++ Array.replicate (m - (⟨args'.toList⟩ : Array Value).size) undef) [.code body] [] none := by
    unfold Frame.enter fran
    simp only [hf', hb, hm, Option.map_some, Option.getD_some, Option.bind_some]
    rfl
  rw [e]
  exact .mk (fr := callFrame f m body args) ⟨TR.call (m := m) (show m < 2 ^ 24 - 1 by omega) ha h1, .cons (.code _) .nil, DsR.nil, trivial⟩
theorem enterL_sim {f : FuncId} {args : List Value} {args' : Array Value} {fr : LF} (h : enterL P f args = some fr) (ha : LR π args args'.toList) : FrameR π fr (Frame.enter P f args' .normal) := by
  unfold enterL at h
  split at h
  · rename_i fn hf
    split at h
    · rename_i body hb
      cases h1 : (Nat.ble args.length fn.ntmps && Nat.ble fn.ntmps 1048576) with
      | false => rw [h1] at h; cases h
      | true =>
        rw [h1] at h
        cases h
        simp only [Bool.and_eq_true] at h1
        exact callFrame_sim hf hb rfl (le_of_ble h1.1) (le_of_ble h1.2) ha
    · cases h
  · cases h
theorem roundL_sim {l k m : Nat} {f : FuncId} {xs ys : Array Value} {as bd : Code} {fr : LF} (h : roundL l f xs.toList as bd = some fr) (hk : π l = some (k, m)) (hx : AR π xs ys) : FrameR π fr (Frame.round k f ys as bd .normal) := by
  unfold roundL at h
  cases h1 : Nat.ble xs.toList.length 1048576 with
  | false => rw [h1] at h; cases h
  | true =>
    rw [h1] at h
    cases h
    have := le_of_ble h1
    have hs : xs.size < 2 ^ 24 - 1 := by simp at this; omega
    have e : Frame.round k f ys as bd .normal = fran false f ys [.code as, .beginRound, .code bd] [] (some k) := rfl
    rw [e]
    exact .mk (fr := ⟨f, xs.toList.length, ofList xs.toList.length xs.toList 0 .leaf, [.code as, .beginRound, .code bd], [], false, some l⟩) ⟨TR.round hx hs, .cons (.code _) (.cons .beginRound (.cons (.code _) .nil)), DsR.nil, ⟨m, hk⟩⟩

/-! ## A frame that was waiting goes on -/
theorem finishR_sim (hrun : RunOk P G run) {fr : LF} {fr' : Frame} {st : List LF} {st' : List Frame} {v v' v1 : Value} {H H1 : Heap} (h : finishR run b fr st H v = some (v1, H1)) (hf : FrameR π fr fr') (hs : FramesR π st st') (hG : Glob G π) (hE : Emb P π H w) (hv : VR π v v') :
    Ends P b π H w (fr'.finish v') st' v1 H1 := by
  cases hf with
  | mk hfr =>
  obtain ⟨fn, n, t, todo, defers, ret, round⟩ := fr
  rename_i tmps' todo' ds' r'
  obtain ⟨hT, hto, hds, hr⟩ := hfr
  simp only at hT hto hds hr
  simp only [finishR] at h
  cases hto with
  | nil => cases h
  | cons hx ht =>
    rename_i x y xs ys
    cases hx with
    | inRegion ops l =>
      cases l with
      | nil => cases h
      | cons i rest =>
        simp only at h
        have e : (fran ret fn tmps' (.inRegion ops (i :: rest) :: ys) ds' r').finish v' = fran ret fn (putA tmps' ((ops[i]?).bind (·.dst)) v') (.inRegion ops rest :: ys) ds' r' := by
          simp only [Frame.finish, fran, putA]
          cases (ops[i]?).bind (·.dst) <;> rfl
        rw [e]
        have ed : dstOf ops i = (ops[i]?).bind (·.dst) := by
          unfold dstOf
          have : ops.toList[i]? = ops[i]? := by simp
          rw [this]
          cases ops[i]? <;> rfl
        rw [ed] at h
        refine hrun b _ st H v1 H1 h π _ st' w (.mk (fr := ⟨fn, n, tsetO n t ((ops[i]?).bind (·.dst)) v, .inRegion ops rest :: xs, defers, ret, round⟩) ⟨?_, .cons (.inRegion _ _) ht, hds, hr⟩) hs hG hE
        exact hT.setO _ hv
    | inRangeFunc hl =>
      exact hrun b _ st H v1 H1 h π _ st' w (.mk (fr := ⟨fn, n, t, .endRangeFunc _ :: xs, defers, ret, round⟩) ⟨hT, .cons (.endRangeFunc hl) ht, hds, hr⟩) hs hG hE
    | beginRound =>
      exact hrun b _ st H v1 H1 h π _ st' w (.mk (fr := ⟨fn, n, t, xs, defers, ret, round⟩) ⟨hT, ht, hds, hr⟩) hs hG hE
    | _ => cases h

/-! ## What an operation of a region does -/
theorem lexec_noDefer {ev : Operand → Value} {o : Oper} {x : Next × Heap} (h : lexec P G b ev o H = some x) : ∀ c, o.op ≠ .defer c := by
  intro c hc
  unfold lexec at h
  split at h
  · have hl : lplain P ev o = none := by
      unfold lplain
      rw [hc]
      simp [plainOp]
    rw [hl, hc] at h
    simp [allowed] at h
  · cases h
theorem decode_noDefer {o : Oper} {k : Hot} (h : decode P G n o.op = some k) : ∀ c, o.op ≠ .defer c := by
  intro c hc
  rw [hc] at h
  simp [decode] at h

/-- What an operation comes to that enters a frame. -/
def Goes (P : Program) (b : Bar) (π : Pl) (H : Heap) (w : World) (fr : LF) (H' : Heap) (r : Result Next) : Prop :=
  ∃ π' w', Emb P π' H' w' ∧ Keep b H π w H' π' w' ∧
    ((∃ f args, r = .ok (.enter f args) w' ∧ FrameR π' fr (Frame.enter P f args .normal)) ∨
     (∃ l f ts as bd, r = .ok (.round l f ts as bd) w' ∧ FrameR π' fr (Frame.round l f ts as bd .normal)))
def UponOk (P : Program) (b : Bar) (π : Pl) (H : Heap) (w : World) (o : Oper) (tmps : Array Value) : Upon → Prop
  | .value v H' => (∀ c, o.op ≠ .defer c) ∧ Comes1 P b π H w v H' ((execOp (actE tmps) o).run P w)
  | .enter fr H' => (∀ c, o.op ≠ .defer c) ∧ Goes P b π H w fr H' ((execOp (actE tmps) o).run P w)
  | .stuck => True
theorem coldR_sim {o : Oper} (hE : Emb P π H w) (hT : TR π n t tmps) (hG : Glob G π) : UponOk P b π H w o tmps (coldR P G b n t H o) := by
  unfold coldR
  cases hl : lexec P G b (evT n t) o H with
  | none => trivial
  | some x =>
    obtain ⟨x, H1⟩ := x
    have hd := lexec_noDefer hl
    obtain ⟨π', n', w', e, hE', hn, hK⟩ := lexec_sim (w := w) (ev' := actE tmps) hE (fun x _ hx => hT.eval hG hx) hl
    simp only
    cases hn with
    | value hv => exact ⟨hd, π', _, w', e, hE', hK, .inl ⟨_, rfl, hv⟩⟩
    | skip => exact ⟨hd, π', _, w', e, hE', hK, .inr ⟨rfl, rfl⟩⟩
    | enter f ha =>
      rename_i xs ys
      simp only
      cases hen : enterL P f xs.toList with
      | none => trivial
      | some fr =>
        exact ⟨hd, π', w', hE', hK, .inl ⟨f, ys, e, enterL_sim hen ⟨by simpa using ha.1, fun i a c => by simpa using ha.2 i (by simpa using a) (by simpa using c)⟩⟩⟩
    | round hk f ha as bd =>
      rename_i xs ys
      simp only
      cases hen : roundL _ f xs.toList as bd with
      | none => trivial
      | some fr => exact ⟨hd, π', w', hE', hK, .inr ⟨_, f, ys, as, bd, e, roundL_sim hen hk ha⟩⟩
theorem run_call {c : Call} {ev : Operand → Value} {o : Oper} (ho : o.op = .call c) {f : FuncId} {first captured : Array Value} (hc : ∃ x, c.callee = .value x ∧ ev x = .func (.func f) first captured) (hb : bodied P f = true) (w : World) :
    (execOp ev o).run P w = .ok (.enter f (first ++ c.args.map ev ++ captured)) w := by
  obtain ⟨x, hx, hv⟩ := hc
  unfold execOp
  rw [ho]
  simp only
  unfold resolve
  simp only [hx, hv, Deferred.ofValue]
  simp [invoke, run_callFunc hb]
end
end Go.Proofs.YtdnccdobnhbpeaaDoor.Ev

namespace Go.Proofs.YtdnccdobnhbpeaaDoor.Ev
open Go
set_option linter.unusedVariables false
set_option linter.unusedSimpArgs false
section
variable {P : Program} {b : Bar} {π : Pl} {G n : Nat} {t : Trie Value} {tmps : Array Value} {H H' : Heap} {w : World} {v : Value} {run : Runner}

theorem calledV_spec {v : Value} {args : List Value} {f : FuncId} {l : List Value} (h : calledV P v args = some (f, l)) : ∃ first captured, v = .func (.func f) first captured ∧ bodied P f = true ∧ l = first.toList ++ (args ++ captured.toList) := by
  unfold calledV at h
  split at h
  · rename_i fn first captured
    split at h
    · rename_i f'
      cases hb : bodied P f' with
      | false => rw [hb] at h; cases h
      | true => rw [hb] at h; cases h; exact ⟨_, _, rfl, hb, rfl⟩
    · cases h
  · cases h
theorem valueR_sim {o : Oper} {c : Call} {x : Operand} {s : Src} {xs : List Src} (ho : o.op = .call c) (hc : c.callee = .value x) (hE : Emb P π H w) (hT : TR π n t tmps) (hG : Glob G π) (hs : srcOf G n x = some s) (hxs : srcsOf G n c.args.toList = some xs) :
    UponOk P b π H w o tmps (valueR P G b n t H o s xs) := by
  unfold valueR
  cases hv : calledV P (evS t s) (evSs t xs) with
  | none => exact coldR_sim hE hT hG
  | some r =>
    obtain ⟨f, l⟩ := r
    simp only
    cases hen : enterL P f l with
    | none => trivial
    | some fr =>
      obtain ⟨first, captured, hval, hb, rfl⟩ := calledV_spec hv
      obtain ⟨h1, _, _⟩ := src_sound hT hG hs
      obtain ⟨h2, _, _, _⟩ := srcs_sound hT hG _ _ hxs
      rw [hval] at h1
      generalize hv' : actE tmps x = vx at h1
      cases h1 with
      | func hf hx hxs' hcc hcs =>
        cases hf
        rename_i first' captured'
        have hrun := run_call (P := P) ho (f := f) (first := first') (captured := captured') ⟨x, hc, hv'⟩ hb w
        refine ⟨(by rw [ho]; intro c' h'; cases h'), π, w, hE, .refl, .inl ⟨f, _, hrun, enterL_sim hen ?_⟩⟩
        have hF : AR π first first' := ⟨hx, hxs'⟩
        have hC : AR π captured captured' := ⟨hcc, hcs⟩
        have e : (first' ++ c.args.map (actE tmps) ++ captured').toList = first'.toList ++ (c.args.toList.map (actE tmps) ++ captured'.toList) := by simp
        rw [e]
        exact LR.append hF.list (LR.append h2 hC.list)
theorem hotR_sim {o : Oper} {k : Hot} (hk : decode P G n o.op = some k) (hE : Emb P π H w) (hT : TR π n t tmps) (hG : Glob G π) : UponOk P b π H w o tmps (hotR P G b n t H o k) := by
  unfold hotR
  cases hr : runHot b t H k with
  | none => exact coldR_sim hE hT hG
  | some r =>
    obtain ⟨v, H1⟩ := r
    exact ⟨decode_noDefer hk, hot_sim hE hT hG hk hr⟩
theorem instR_sim {o : Oper} (hE : Emb P π H w) (hT : TR π n t tmps) (hG : Glob G π) : UponOk P b π H w o tmps (instR P G b n t H o (instOf P G n o)) := by
  unfold instOf
  cases hk : decode P G n o.op with
  | some k => exact hotR_sim hk hE hT hG
  | none =>
    simp only
    split
    · rename_i c ho
      unfold instCall
      cases hxs : srcsOf G n c.args.toList with
      | none => exact coldR_sim hE hT hG
      | some xs =>
        simp only
        split
        · rename_i f hcal
          cases hb : bodied P f with
          | false => exact coldR_sim hE hT hG
          | true =>
            simp only [cond_true]
            split
            · rename_i fn hf
              split
              · rename_i body hbody
                cases h1 : (Nat.ble c.args.toList.length fn.ntmps && Nat.ble fn.ntmps 1048576) with
                | false => exact coldR_sim hE hT hG
                | true =>
                  simp only [Bool.and_eq_true] at h1
                  obtain ⟨h2, h3, h4, h5⟩ := srcs_sound hT hG _ _ hxs
                  have hrun := run_call (P := P) (ev := actE tmps) ho (f := f) (first := #[]) (captured := #[]) ⟨.func f, hcal, rfl⟩ hb w
                  refine ⟨(by rw [ho]; intro c' h'; cases h'), π, w, hE, .refl, .inl ⟨f, _, hrun, callFrame_sim hf hbody rfl ?_ (le_of_ble h1.2) ?_⟩⟩
                  · rw [h3]; simpa using le_of_ble h1.1
                  · simpa using h2
              · exact coldR_sim hE hT hG
            · exact coldR_sim hE hT hG
        · rename_i x hnf hcal
          split
          · rename_i s hs
            exact valueR_sim ho hcal hE hT hG hs hxs
          · exact coldR_sim hE hT hG
        · exact coldR_sim hE hT hG
    · exact coldR_sim hE hT hG

/-! ## A region whose order is the text's -/
theorem FR.fra {fn : FuncId} {k k' : List Item} {defers ds : List Deferred} {round r : Option Nat} (hT : TR π n t tmps) (hk : TodoR π k k') (hd : DsR π defers ds) (hr : RoundR π round r) : FrameR π ⟨fn, n, t, k, defers, false, round⟩ (fra fn tmps k' ds r) :=
  .mk (fr := ⟨fn, n, t, k, defers, false, round⟩) ⟨hT, hk, hd, hr⟩
theorem putA_eq (tmps : Array Value) (d : Option Tmp) (v : Value) : putA tmps d v = (match d with | some i => tmps.setIfInBounds i v | none => tmps) := by cases d <;> rfl
theorem TR.putA (h : TR π n t tmps) (d : Option Tmp) {v v' : Value} (hv : VR π v v') : TR π n (tsetO n t d v) (putA tmps d v') := by rw [putA_eq]; exact h.setO d hv
theorem seqR_sim (hrun : RunOk P G run) {fn : FuncId} {defers : List Deferred} {round : Option Nat} {st : List LF} {st' : List Frame} {ops : Array Oper} {k : List Item} {v1 : Value} {H1 : Heap} : ∀ (l : List Nat) (t : Trie Value) (H : Heap) (π : Pl) (w : World) (tmps : Array Value) (k' : List Item) (ds : List Deferred) (r : Option Nat),
    seqR run P G b fn n defers round st ops k l t H = some (v1, H1) → TR π n t tmps → TodoR π k k' → DsR π defers ds → RoundR π round r → FramesR π st st' → Glob G π → Emb P π H w →
    Ends P b π H w (fra fn tmps (.inRegion ops l :: k') ds r) st' v1 H1 := by
  intro l
  induction l with
  | nil =>
    intro t H π w tmps k' ds r h hT hk hd hr hs hG hE
    exact Ends.step1 (fun cs => st_regionEnd) rfl (hrun b _ st H v1 H1 h π _ st' w (FR.fra hT hk hd hr) hs hG hE)
  | cons i rest ih =>
    intro t H π w tmps k' ds r h hT hk hd hr hs hG hE
    have h' : (match ops.toList[i]? with
      | none => none
      | some o =>
        bif wantedT ops o.guard t n then
          match instR P G b n t H o (instAt' P G n ops i) with
          | .value v h => seqR run P G b fn n defers round st ops k rest (tsetO n t o.dst v) h
          | .enter fr h => run b fr (⟨fn, n, t, .inRegion ops (i :: rest) :: k, defers, false, round⟩ :: st) h
          | .stuck => none
        else seqR run P G b fn n defers round st ops k rest (tsetO n t o.dst undef) H) = some (v1, H1) := h
    cases ho : ops.toList[i]? with
    | none => rw [ho] at h'; cases h'
    | some o =>
      rw [ho] at h'
      simp only at h'
      have ho' : ops[i]? = some o := by simpa using ho
      have hwe := wanted_eq hT (ops := ops) (o := o)
      cases hw : wantedT ops o.guard t n with
      | false =>
        rw [hw] at h' hwe
        simp only [cond_false] at h'
        exact Ends.step1 (fun cs => st_skipOp ho' hwe.symm) rfl (ih _ H π w _ k' ds r h' (hT.putA _ .undef) hk hd hr hs hG hE)
      | true =>
        rw [hw] at h' hwe
        simp only [cond_true] at h'
        have hin : instAt' P G n ops i = instOf P G n o := by unfold instAt'; rw [ho]
        rw [hin] at h'
        have hI := instR_sim (P := P) (b := b) (G := G) (o := o) hE hT hG
        cases hx : instR P G b n t H o (instOf P G n o) with
        | stuck => rw [hx] at h'; cases h'
        | value v H2 =>
          rw [hx] at h' hI
          simp only at h'
          obtain ⟨hnd, π', x, w', hrn, hE', hK, hval⟩ := hI
          have hle := hK.le
          rcases hval with ⟨v', rfl, hv⟩ | ⟨rfl, rfl⟩
          · exact Ends.stepK (fun cs => st_opValue ho' hwe.symm hnd hrn) rfl hK (ih _ H2 π' w' _ k' ds r h' ((hT.mono hle).putA _ hv) (hk.mono hle) (hd.mono hle) (hr.mono hle) (hs.mono hle) (hG.mono hle) hE')
          · exact Ends.stepK (fun cs => st_opSkip ho' hwe.symm hnd hrn) rfl hK (ih _ H2 π' w' _ k' ds r h' ((hT.mono hle).putA _ .undef) (hk.mono hle) (hd.mono hle) (hr.mono hle) (hs.mono hle) (hG.mono hle) hE')
        | enter fr H2 =>
          rw [hx] at h' hI
          simp only at h'
          obtain ⟨hnd, π', w', hE', hK, hgo⟩ := hI
          have hle := hK.le
          have hst : FramesR π' (⟨fn, n, t, .inRegion ops (i :: rest) :: k, defers, false, round⟩ :: st) (fra fn tmps (.inRegion ops (i :: rest) :: k') ds r :: st') :=
            .cons (FR.fra (hT.mono hle) (.cons (.inRegion _ _) (hk.mono hle)) (hd.mono hle) (hr.mono hle)) (hs.mono hle)
          rcases hgo with ⟨f, args, hrn, hf⟩ | ⟨l0, f, ts, as, bd, hrn, hf⟩
          · exact Ends.stepK (st1 := fra fn tmps (.inRegion ops (i :: rest) :: k') ds r :: st') (fun cs => st_opEnter ho' hwe.symm hnd hrn) rfl hK (hrun b _ _ H2 v1 H1 h' π' _ _ w' hf hst (hG.mono hle) hE')
          · exact Ends.stepK (st1 := fra fn tmps (.inRegion ops (i :: rest) :: k') ds r :: st') (fun cs => st_opRound ho' hwe.symm hnd hrn) rfl hK (hrun b _ _ H2 v1 H1 h' π' _ _ w' hf hst (hG.mono hle) hE')
end
end Go.Proofs.YtdnccdobnhbpeaaDoor.Ev

namespace Go.Proofs.YtdnccdobnhbpeaaDoor.Ev
open Go
set_option linter.unusedVariables false
set_option linter.unusedSimpArgs false
section
variable {P : Program} {b : Bar} {π : Pl} {G n : Nat} {t : Trie Value} {tmps : Array Value} {H H' : Heap} {w : World} {v : Value} {run : Runner}

theorem rangeFuncR_sim (hrun : RunOk P G run) {fn : FuncId} {todo k k' : List Item} {defers ds : List Deferred} {round r : Option Nat} {st : List LF} {st' : List Frame} {f : Operand} {params : Array Tmp} {assign body : Code} {v1 : Value} {H1 : Heap}
    (h : rangeFuncR run P G b ⟨fn, n, t, todo, defers, false, round⟩ st H f params assign body k = some (v1, H1)) (hT : TR π n t tmps) (hk : TodoR π k k') (hd : DsR π defers ds) (hr : RoundR π round r) (hs : FramesR π st st') (hG : Glob G π) (hE : Emb P π H w) :
    Ends P b π H w (fra fn tmps (.code (.rangeFunc f params assign body) :: k') ds r) st' v1 H1 := by
  simp only [rangeFuncR] at h
  cases hsf : srcOf G n f with
  | none => rw [hsf] at h; simp [Go.undef] at h
  | some s =>
    rw [hsf] at h
    simp only at h
    obtain ⟨h1, _, _⟩ := src_sound hT hG hsf
    generalize evS t s = vf at h h1
    generalize hvf : actE tmps f = vf' at h1
    cases h1 <;> try (cases h; done)
    rename_i fv fv' xs xs' cs cs' hfn hx hxs hc hcs
    simp only at h
    cases he : lsem P b (Instr.enterLoop fn ⟨toL t n []⟩ params assign body round) H with
    | none => rw [he] at h; cases h
    | some x =>
      obtain ⟨⟨l, mark⟩, H2⟩ := x
      rw [he] at h
      simp only at h
      obtain ⟨π1, ⟨l', mark'⟩, w1, e1, hE1, ⟨⟨m, hl⟩, hmark⟩, hK1⟩ := (SemR.enterLoop (P := P) (lo := b) (fn := fn) (params := params) (assign := assign) (body := body) hT.arr hr) π (Pl.le_refl _) H w hE _ H2 he
      have hle1 := hK1.le
      cases hi : linvoke P b (.fn fv cs) (xs.toList ++ [.func (.yield l) #[] #[]]) H2 with
      | none => rw [hi] at h; simp [applyR] at h
      | some y =>
        obtain ⟨nx, H3⟩ := y
        rw [hi] at h
        have hargs : LR π1 (xs.toList ++ [.func (.yield l) #[] #[]]) (xs'.toList ++ [.func (.yield l') #[] #[]]) :=
          LR.append ((AR.mk hx hxs).mono hle1).list (LR.cons (.func (.yield hl) rfl (fun i a => by simp at a) rfl (fun i a => by simp at a)) LR.nil)
        obtain ⟨π2, nx', w2, e2, hE2, hN, hK2⟩ := linvoke_sim hE1 (hfn.mono hle1) ((AR.mk hc hcs).mono hle1) hargs hi
        have earr : (⟨xs'.toList ++ [Value.func (.yield l') #[] #[]]⟩ : Array Value) = xs' ++ #[.func (.yield l') #[] #[]] := by apply Array.ext'; simp
        rw [earr] at e2
        have hle2 := hK2.le
        have hle := hle1.trans hle2
        have hfr : FrameR π2 ⟨fn, n, t, .inRangeFunc l :: k, mark ++ defers, false, round⟩ (fra fn tmps (.inRangeFunc l' :: k') (mark' ++ ds) r) :=
          FR.fra (hT.mono hle) (.cons (.inRangeFunc (hle2 _ _ hl)) (hk.mono hle)) ((DsR.append hmark (hd.mono hle1)).mono hle2) (hr.mono hle)
        obtain ⟨stE, stR⟩ := st_rangeFunc (P := P) (k := k') (ds := ds) (cs := []) (w' := w2) (params := params) (assign := assign) (body := body) hvf e1
        cases hN with
        | enter g ha =>
          rename_i ys ys'
          simp only [applyR] at h
          cases hen : enterL P g ys.toList with
          | none => rw [hen] at h; cases h
          | some fr =>
            rw [hen] at h
            refine Ends.stepK (st1 := fra fn tmps (.inRangeFunc l' :: k') (mark' ++ ds) r :: st') (fun cs => (st_rangeFunc (P := P) (k := k') (ds := ds) (cs := st' ++ cs) (w' := w2) (params := params) (assign := assign) (body := body) hvf e1).1 g ys' e2) rfl (hK1.trans hK2) (hrun b _ _ H3 v1 H1 h π2 _ _ w2 (enterL_sim hen ha.list) (.cons hfr (hs.mono hle)) (hG.mono hle) hE2)
        | round hk0 g ha as bd =>
          rename_i ys ys'
          simp only [applyR] at h
          cases hen : roundL _ g ys.toList as bd with
          | none => rw [hen] at h; cases h
          | some fr =>
            rw [hen] at h
            refine Ends.stepK (st1 := fra fn tmps (.inRangeFunc l' :: k') (mark' ++ ds) r :: st') (fun cs => (st_rangeFunc (P := P) (k := k') (ds := ds) (cs := st' ++ cs) (w' := w2) (params := params) (assign := assign) (body := body) hvf e1).2 _ g ys' as bd e2) rfl (hK1.trans hK2) (hrun b _ _ H3 v1 H1 h π2 _ _ w2 (roundL_sim hen hk0 ha) (.cons hfr (hs.mono hle)) (hG.mono hle) hE2)
        | value _ => cases h
        | skip => cases h

theorem retR_sim (hrun : RunOk P G run) {fn : FuncId} {todo todo' : List Item} {defers ds : List Deferred} {round r : Option Nat} {st : List LF} {st' : List Frame} {v1 : Value} {H1 : Heap}
    (h : retR run P b ⟨fn, n, t, todo, defers, true, round⟩ st H = some (v1, H1)) (hT : TR π n t tmps) (hk : TodoR π todo todo') (hd : DsR π defers ds) (hr : RoundR π round r) (hs : FramesR π st st') (hG : Glob G π) (hE : Emb P π H w) :
    Ends P b π H w (fret fn tmps todo' ds r) st' v1 H1 := by
  simp only [retR] at h
  cases defers with
  | nil =>
    have hds : ds = [] := by
      have := hd.1
      cases ds with
      | nil => rfl
      | cons => simp at this
    subst hds
    simp only at h
    cases hf : P.funcs.toList[fn]? with
    | none => rw [hf] at h; cases h
    | some f =>
      rw [hf] at h
      simp only at h
      cases hl : resultsL P b n t H f.results.toList with
      | none => rw [hl] at h; cases h
      | some l =>
        rw [hl] at h
        simp only at h
        obtain ⟨v', hv, hlv⟩ := leaves (todo := todo') (r := r) hE hT hf hl
        cases hs with
        | nil =>
          simp only [returnTo] at h
          cases h
          exact ⟨π, v', w, _, hE, hv, .refl, hlv, rfl, fun cs => Steps.refl P _⟩
        | cons hx ht =>
          simp only [returnTo] at h
          exact Ends.step1 (fun cs => step_leave_returned hlv) (by
            rename_i x y xs ys
            show lastFn (y.finish v').fn ys = lastFn y.fn ys
            cases hx with
            | mk hfr => simp only [Frame.finish]; split <;> rfl) (finishR_sim hrun h hx ht hG hE hv)
  | cons d dl =>
    cases ds with
    | nil => have := hd.1; simp at this
    | cons d' dl' =>
      obtain ⟨hdd, hdt⟩ := hd.tail
      obtain ⟨tg, ar⟩ := d
      obtain ⟨tg', ar'⟩ := d'
      obtain ⟨htg, har⟩ := hdd
      simp only at htg har h
      cases htg with
      | collected hk0 =>
        simp only at h
        rename_i r0 k0 m0
        cases he : lsem P b (Instr.takeDeferred r0) H with
        | none => rw [he] at h; cases h
        | some x =>
          obtain ⟨dd, H2⟩ := x
          rw [he] at h
          cases dd with
          | cons _ _ => cases h
          | nil =>
            simp only at h
            obtain ⟨π1, dd', w1, e1, hE1, hdd', hK1⟩ := (SemR.takeDeferred (P := P) (lo := b) hk0) π (Pl.le_refl _) H w hE _ H2 he
            have hnil : dd' = [] := by
              have := hdd'.1
              cases dd' with
              | nil => rfl
              | cons => simp at this
            subst hnil
            have hle := hK1.le
            refine Ends.stepK (fun cs => st_take e1) rfl hK1 (hrun b _ st H2 v1 H1 h π1 _ st' w1 ?_ (hs.mono hle) (hG.mono hle) hE1)
            exact .mk (fr := ⟨fn, n, t, todo, dl, true, round⟩) ⟨hT.mono hle, hk.mono hle, hdt.mono hle, hr.mono hle⟩
      | _ => cases h
theorem condR_sim (hrun : RunOk P G run) {fn : FuncId} {todo k k' : List Item} {defers ds : List Deferred} {round r : Option Nat} {st : List LF} {st' : List Frame} {c : Operand} {thn els : Code} {v1 : Value} {H1 : Heap}
    (h : condR run b ⟨fn, n, t, todo, defers, false, round⟩ st H c thn els k = some (v1, H1)) (hT : TR π n t tmps) (hk : TodoR π k k') (hd : DsR π defers ds) (hr : RoundR π round r) (hs : FramesR π st st') (hG : Glob G π) (hE : Emb P π H w) :
    Ends P b π H w (fra fn tmps (.code (.cond c thn els) :: k') ds r) st' v1 H1 := by
  simp only [condR] at h
  have hc : ∀ x, evT n t c = .bool x → actE tmps c = .bool x := by
    intro x hx
    cases c with
    | tmp i =>
      have := hT.get i
      rw [show (bif Nat.ble (Nat.succ i) n then tget t i else undef) = .bool x from hx] at this
      show tmps.getD i undef = _
      generalize tmps.getD i undef = y at this
      cases this
      rfl
    | const v => exact hx
    | global g => cases hx
    | func f => cases hx
  cases hv : evT n t c with
  | bool x =>
    rw [hv] at h
    cases x with
    | true =>
      exact Ends.step1 (fun cs => st_cond (hc true hv)) rfl (hrun b _ st H v1 H1 h π _ st' w (FR.fra hT (.cons (.code _) hk) hd hr) hs hG hE)
    | false =>
      exact Ends.step1 (fun cs => st_cond (hc false hv)) rfl (hrun b _ st H v1 H1 h π _ st' w (FR.fra hT (.cons (.code _) hk) hd hr) hs hG hE)
  | _ => rw [hv] at h; cases h

/-- A round's end. -/
theorem roundOut_sim (hrun : RunOk P G run) {l : Nat} {r : Option Nat} {st : List LF} {st' : List Frame} {jump : Option Code} {v1 : Value} {H1 : Heap} {fr : Frame}
    (h : (match st with
      | [] => none
      | c :: st =>
        match lsem P b (Instr.endRound l jump) H with
        | some (v, h) => finishR run b c st h v
        | none => none) = some (v1, H1)) (hr : RoundR π (some l) r) (hs : FramesR π st st') (hG : Glob G π) (hE : Emb P π H w)
    (hst : ∀ l' c cs v' w', r = some l' → (Instr.endRound l' jump).run P w = .ok v' w' → step P (lone fr (c :: cs) w) = .next (lone (c.finish v') cs w')) :
    Ends P b π H w fr st' v1 H1 := by
  cases r with
  | none => exact hr.elim
  | some l' =>
    obtain ⟨m, hl⟩ := hr
    cases hs with
    | nil => cases h
    | cons hx ht =>
      rename_i x y xs ys
      simp only at h
      cases he : lsem P b (Instr.endRound l jump) H with
      | none => rw [he] at h; cases h
      | some z =>
        obtain ⟨v, H2⟩ := z
        rw [he] at h
        simp only at h
        obtain ⟨π1, v', w1, e1, hE1, hv, hK1⟩ := (SemR.endRound (P := P) (lo := b) hl jump) π (Pl.le_refl _) H w hE _ H2 he
        have hle := hK1.le
        refine Ends.stepK (fun cs => hst l' y (ys ++ cs) v' w1 rfl e1) ?_ hK1 (finishR_sim hrun h (hx.mono hle) (ht.mono hle) (hG.mono hle) hE1 hv)
        show lastFn (y.finish v').fn ys = lastFn y.fn ys
        cases hx with
        | mk hfr => simp only [Frame.finish]; split <;> rfl
end
end Go.Proofs.YtdnccdobnhbpeaaDoor.Ev

namespace Go.Proofs.YtdnccdobnhbpeaaDoor.Ev
open Go
set_option linter.unusedVariables false
set_option linter.unusedSimpArgs false

/-- A drawn region keeps what was evaluated. -/
def RegionOk (P : Program) (G : Nat) : Prop :=
  ∀ run, RunOk P G run → ∀ (b : Bar) (π : Pl) (n : Nat) (t : Trie Value) (tmps : Array Value) (H : Heap) (w : World) (fn : FuncId) (todo k k' : List Item) (defers ds : List Deferred) (round r : Option Nat) (st : List LF) (st' : List Frame) (i : Nat) (ops : Array Oper) (v1 : Value) (H1 : Heap),
    regionR run P G b ⟨fn, n, t, todo, defers, false, round⟩ st H ops k = some (v1, H1) → TR π n t tmps → TodoR π k k' → DsR π defers ds → RoundR π round r → FramesR π st st' → Glob G π → Emb P π H w →
    Ends P b π H w (fra fn tmps (.code (.region i ops true) :: k') ds r) st' v1 H1
section
variable {P : Program} {b : Bar} {π : Pl} {G n : Nat} {t : Trie Value} {tmps : Array Value} {H H' : Heap} {w : World} {v : Value} {run : Runner}

theorem codeR_sim (hreg : RegionOk P G) (hrun : RunOk P G run) {fn : FuncId} {k k' : List Item} {defers ds : List Deferred} {round r : Option Nat} {st : List LF} {st' : List Frame} {c : Code} {v1 : Value} {H1 : Heap}
    (h : codeR run P G b ⟨fn, n, t, .code c :: k, defers, false, round⟩ st H c k = some (v1, H1)) (hT : TR π n t tmps) (hk : TodoR π k k') (hd : DsR π defers ds) (hr : RoundR π round r) (hs : FramesR π st st') (hG : Glob G π) (hE : Emb P π H w) :
    Ends P b π H w (fra fn tmps (.code c :: k') ds r) st' v1 H1 := by
  have go : ∀ {k2 k2' : List Item}, run b ⟨fn, n, t, k2, defers, false, round⟩ st H = some (v1, H1) → TodoR π k2 k2' → Ends P b π H w (fra fn tmps k2' ds r) st' v1 H1 :=
    fun h1 h2 => hrun b _ st H v1 H1 h1 π _ st' w (FR.fra hT h2 hd hr) hs hG hE
  have back : ∀ {c : Code}, run b ⟨fn, n, t, .code c :: k, defers, true, round⟩ st H = some (v1, H1) → Ends P b π H w (fret fn tmps (.code c :: k') ds r) st' v1 H1 :=
    fun h1 => hrun b _ st H v1 H1 h1 π _ st' w (.mk (fr := ⟨fn, n, t, _, defers, true, round⟩) ⟨hT, .cons (.code _) hk, hd, hr⟩) hs hG hE
  cases c with
  | skip => exact Ends.step1 (fun cs => st_skip) rfl (go h hk)
  | label l => exact Ends.step1 (fun cs => st_label) rfl (go h hk)
  | seq a c => exact Ends.step1 (fun cs => st_seq) rfl (go h (.cons (.code _) (.cons (.code _) hk)))
  | cond x thn els => exact condR_sim (todo := k) hrun h hT hk hd hr hs hG hE
  | block id body => exact Ends.step1 (fun cs => st_block) rfl (go h (.cons (.code _) (.cons (.inBlock _) hk)))
  | loop body => exact Ends.step1 (fun cs => st_loop) rfl (go h (.cons (.code _) (.cons (.inLoop _) hk)))
  | scope body => exact Ends.step1 (fun cs => st_scope) rfl (go h (.cons (.code _) (.cons (.inScope _) hk)))
  | ret =>
    simp only [codeR, leaveR] at h
    cases round with
    | none =>
      have hr' : r = none := by
        cases r with
        | none => rfl
        | some _ => exact hr.elim
      subst hr'
      exact Ends.step1 (fun cs => st_ret) rfl (back h)
    | some l =>
      exact roundOut_sim hrun h hr hs hG hE fun l' c cs v' w' hrl he => by subst hrl; exact st_roundRet he
  | exit id =>
    simp only [codeR] at h
    obtain ⟨hx1, hx2⟩ := exitTo_sim (i := id) hk
    cases hx : exitTo id k with
    | some k1 =>
      rw [hx] at h
      obtain ⟨k1', e, hk1⟩ := hx1 k1 hx
      exact Ends.step1 (fun cs => st_exit e) rfl (go h hk1)
    | none =>
      rw [hx] at h
      simp only [leaveR] at h
      have hx' := hx2 hx
      cases round with
      | none => cases h
      | some l => exact roundOut_sim hrun h hr hs hG hE fun l' c cs v' w' hrl he => by subst hrl; exact st_roundExit hx' he
  | goto id =>
    simp only [codeR] at h
    obtain ⟨hx1, hx2⟩ := gotoIn_sim (i := id) hk
    cases hx : gotoIn id k with
    | some k1 =>
      rw [hx] at h
      obtain ⟨k1', e, hk1⟩ := hx1 k1 hx
      exact Ends.step1 (fun cs => st_goto e) rfl (go h hk1)
    | none =>
      rw [hx] at h
      simp only [leaveR] at h
      have hx' := hx2 hx
      cases round with
      | none => cases h
      | some l => exact roundOut_sim hrun h hr hs hG hE fun l' c cs v' w' hrl he => by subst hrl; exact st_roundGoto hx' he
  | rangeFunc f params assign body => exact rangeFuncR_sim (todo := k) hrun h hT hk hd hr hs hG hE
  | region id ops draw =>
    cases draw with
    | false =>
      simp only [codeR] at h
      have e : List.range ops.toList.length = List.range ops.size := by simp
      rw [e] at h
      exact Ends.step1 (fun cs => st_region) rfl (seqR_sim hrun _ _ _ π w tmps k' ds r h hT hk hd hr hs hG hE)
    | true => exact hreg run hrun b π n t tmps H w fn k k k' defers ds round r st st' id ops v1 H1 h hT hk hd hr hs hG hE
  | refuse _ => cases h
theorem itemR_sim (hreg : RegionOk P G) (hrun : RunOk P G run) {fn : FuncId} {it it' : Item} {k k' : List Item} {defers ds : List Deferred} {round r : Option Nat} {st : List LF} {st' : List Frame} {v1 : Value} {H1 : Heap}
    (h : itemR run P G b ⟨fn, n, t, it :: k, defers, false, round⟩ st H it k = some (v1, H1)) (hi : ItemR π it it') (hT : TR π n t tmps) (hk : TodoR π k k') (hd : DsR π defers ds) (hr : RoundR π round r) (hs : FramesR π st st') (hG : Glob G π) (hE : Emb P π H w) :
    Ends P b π H w (fra fn tmps (it' :: k') ds r) st' v1 H1 := by
  have go : ∀ {k2 k2' : List Item}, run b ⟨fn, n, t, k2, defers, false, round⟩ st H = some (v1, H1) → TodoR π k2 k2' → Ends P b π H w (fra fn tmps k2' ds r) st' v1 H1 :=
    fun h1 h2 => hrun b _ st H v1 H1 h1 π _ st' w (FR.fra hT h2 hd hr) hs hG hE
  cases hi with
  | code c => exact codeR_sim hreg hrun h hT hk hd hr hs hG hE
  | inBlock i => exact Ends.step1 (fun cs => st_inBlock) rfl (go h hk)
  | inScope c => exact Ends.step1 (fun cs => st_inScope) rfl (go h hk)
  | inLoop c => exact Ends.step1 (fun cs => st_inLoop) rfl (go h (.cons (.code _) (.cons (.inLoop _) hk)))
  | inRegion ops l =>
    cases l with
    | nil => exact Ends.step1 (fun cs => st_regionEnd) rfl (go h hk)
    | cons i rest => exact seqR_sim hrun _ _ _ π w tmps k' ds r h hT hk hd hr hs hG hE
  | inRangeFunc hl => cases h
  | endRangeFunc hl =>
    rename_i l l' m
    simp only [itemR] at h
    cases he : lsem P b (Instr.endLoop l) H with
    | none => rw [he] at h; cases h
    | some z =>
      obtain ⟨jump, H2⟩ := z
      rw [he] at h
      simp only at h
      obtain ⟨π1, jump', w1, e1, hE1, hj, hK1⟩ := (SemR.endLoop (P := P) (lo := b) hl) π (Pl.le_refl _) H w hE _ H2 he
      have hj' : jump = jump' := hj
      subst hj'
      have hle := hK1.le
      refine Ends.stepK (fun cs => st_endRange e1) rfl hK1 (hrun b _ st H2 v1 H1 h π1 _ st' w1 (FR.fra (hT.mono hle) ?_ (hd.mono hle) (hr.mono hle)) (hs.mono hle) (hG.mono hle) hE1)
      cases jump with
      | none => exact hk.mono hle
      | some c => exact .cons (.code c) (hk.mono hle)
  | beginRound =>
    simp only [itemR] at h
    cases round with
    | none => cases h
    | some l =>
      cases r with
      | none => exact hr.elim
      | some l' =>
        obtain ⟨m, hl⟩ := hr
        simp only at h
        cases he : lsem P b (Instr.beginRound l) H with
        | none => rw [he] at h; cases h
        | some z =>
          obtain ⟨u, H2⟩ := z
          rw [he] at h
          simp only at h
          obtain ⟨π1, u', w1, e1, hE1, _, hK1⟩ := (SemR.beginRound (P := P) (lo := b) hl) π (Pl.le_refl _) H w hE _ H2 he
          have hle := hK1.le
          exact Ends.stepK (fun cs => st_beginRound e1) rfl hK1 (hrun b _ st H2 v1 H1 h π1 _ st' w1 (FR.fra (hT.mono hle) (hk.mono hle) (hd.mono hle) (r := some l') ⟨m, hle _ _ hl⟩) (hs.mono hle) (hG.mono hle) hE1)
theorem runBody_sim (hreg : RegionOk P G) (hrun : RunOk P G run) : RunOk P G (runBody P G run) := by
  intro b fr st h v h' hr π fr' st' w hf hs hG hE
  obtain ⟨fn, n, t, todo, defers, ret, round⟩ := fr
  cases hf with
  | mk hfr =>
  rename_i tmps' todo' ds' r'
  obtain ⟨hT, hto, hds, hrd⟩ := hfr
  simp only at hT hto hds hrd
  cases ret with
  | true => exact retR_sim hrun hr hT hto hds hrd hs hG hE
  | false =>
    simp only [runBody] at hr
    cases hto with
    | nil =>
      simp only [leaveR] at hr
      cases round with
      | none =>
        have hr' : r' = none := by
          cases r' with
          | none => rfl
          | some _ => exact hrd.elim
        subst hr'
        exact Ends.step1 (fun cs => st_end) rfl (hrun b _ st h v h' hr π _ st' w (.mk (fr := ⟨fn, n, t, [], defers, true, none⟩) ⟨hT, .nil, hds, trivial⟩) hs hG hE)
      | some l => exact roundOut_sim hrun hr hrd hs hG hE fun l' c cs v' w' hrl he => by subst hrl; exact st_roundEnd he
    | cons hx ht => exact itemR_sim hreg hrun hr hx hT ht hds hrd hs hG hE
theorem lrun_sim (hreg : RegionOk P G) : ∀ m, RunOk P G (lrun P G m) := by
  intro m
  induction m with
  | zero => intro b fr st h v h' hr; cases hr
  | succ m ih => exact runBody_sim hreg ih

/-- Below G all numbers stand for themselves. -/
def Pl.base (G : Nat) : Pl := fun i => if i < G then some (i, 0) else none
theorem lstart_calls (hreg : RegionOk P G) {m : Nat} {f : FuncId} {x : Bool} {h' : Heap} (h : lstart P G m f = some (.bool x, h')) (hGs : G ≤ 1048576) {w : World} (hw : G ≤ w.heap.size) :
    Calls P f #[] w (fun e w' => e = .returned (.bool x) ∧ (w'.os = w.os ∧ w'.tape = w.tape ∧ w'.output = w.output) ∧ w.heap.size ≤ w'.heap.size ∧ ∀ k, k < w.heap.size → w'.heap[k]? = w.heap[k]?) := by
  unfold lstart at h
  split at h
  · rename_i fr hen
    have hfr : FrameR (Pl.base G) fr (Frame.enter P f #[] .normal) := enterL_sim hen LR.nil
    have hleaf : ∀ i o, (⟨G, .leaf⟩ : Heap).get i ≠ some o := by
      intro i o
      rw [Heap.get_eq]
      split
      · rw [Trie.at_leaf]; simp
      · simp
    have hE : Emb P (Pl.base G) ⟨G, .leaf⟩ w := by
      refine ⟨hGs, fun i o hi => (hleaf i o hi).elim, fun i j oi oj k m m' hi => (hleaf i oi hi).elim, fun i hi => ?_, fun i k m hk => ?_⟩
      · have : ¬ i < G := by simp at hi; omega
        simp [Pl.base, this]
      · unfold Pl.base at hk
        split at hk
        · cases hk; omega
        · cases hk
    have hG : Glob G (Pl.base G) := fun g hg => ⟨0, by simp [Pl.base, hg]⟩
    obtain ⟨π', v', w', fe, e1, e2, e3, e4, e5, e6⟩ := lrun_sim hreg m _ fr [] _ _ h' h (Pl.base G) _ [] w hfr .nil hG hE
    cases e2
    intro cs
    refine ⟨.returned (.bool x), w', fe, ⟨rfl, ⟨e3.os, e3.tape, e3.output⟩, e3.size, fun k hk => e3.frame k hk fun i o m _ hi => (hleaf i o hi).elim⟩, e6 cs, e5, e4⟩
  · cases h
end
end Go.Proofs.YtdnccdobnhbpeaaDoor.Ev

