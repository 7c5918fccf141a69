/-
  The evaluator: append, methods, operations.
-/
import Derived.Test.YtdnccdobnhbpeaaDoorEvB
import Derived.Laws.BytesString
namespace Go.Proofs.YtdnccdobnhbpeaaDoor.Ev
open Go
set_option linter.unusedVariables false
section
variable {P : Program} {lo : Bar} {π : Pl}

/-! ## Steps that only read -/
def ReadR (P : Program) (lo : Bar) {α β : Type} (π : Pl) (s : Sem α) (s' : Sem β) (R : α → β → Prop) : Prop :=
  ∀ H w, Emb P π H w → ∀ a H', lsem P lo s H = some (a, H') → H' = H ∧ ∃ b, s'.run P w = .ok b w ∧ R a b
theorem ReadR.pure {α β : Type} {a : α} {b : β} {R : α → β → Prop} (h : R a b) : ReadR P lo π (Pure.pure a) (Pure.pure b) R := by
  intro H w hE x H' hs
  cases hs
  exact ⟨rfl, b, rfl, h⟩
theorem ReadR.bind {α β γ δ : Type} {s : Sem α} {s' : Sem β} {f : α → Sem γ} {f' : β → Sem δ} {R : α → β → Prop} {R' : γ → δ → Prop}
    (h : ReadR P lo π s s' R) (hf : ∀ a b, R a b → ReadR P lo π (f a) (f' b) R') : ReadR P lo π (s >>= f) (s' >>= f') R' := by
  intro H w hE x H' hs
  rw [lsem_bind'] at hs
  cases h0 : lsem P lo s H with
  | none => rw [h0] at hs; cases hs
  | some r =>
    obtain ⟨a, H₁⟩ := r
    rw [h0] at hs
    obtain ⟨rfl, b, e, hr⟩ := h H w hE a H₁ h0
    obtain ⟨rfl, c, e₂, hr₂⟩ := hf a b hr _ w hE x H' hs
    exact ⟨rfl, c, by simp [e, e₂], hr₂⟩
theorem ReadR.stuck {α β : Type} {x : String} {s' : Sem β} {R : α → β → Prop} : ReadR P lo π (Go.stuck x : Sem α) s' R := by
  intro H w hE x H' hs; cases hs
theorem ReadR.load {a a' : Addr} {md : Mode} (h : AddrR π a a') : ReadR P lo π (Go.load a md) (Go.load a' md) (VR π) := by
  obtain ⟨k, m, hk, rfl⟩ := h
  intro H w hE x H' hs
  simp only [Go.load, lsem] at hs
  split at hs
  · rename_i v hv
    cases hs
    obtain ⟨v', hv', hr⟩ := hE.cell hv hk
    exact ⟨rfl, v', by simp [hv'], hr⟩
  · cases hs
theorem ReadR.loadCellsFrom {a a' : Addr} (h : AddrR π a a') (n : Nat) : ∀ (i : Nat) (acc acc' : Array Value), AR π acc acc' → ReadR P lo π (Go.loadCellsFrom a i n acc) (Go.loadCellsFrom a' i n acc') (fun xs ys => AR π xs ys ∧ xs.size = acc.size + n) := by
  induction n with
  | zero => intro i acc acc' hr; exact ReadR.pure ⟨hr, rfl⟩
  | succ n ih =>
    intro i acc acc' hr
    unfold Go.loadCellsFrom
    refine ReadR.bind (ReadR.load (h.add i)) fun v v' hv => ?_
    intro H w hE x H' hs
    obtain ⟨e, b, e1, h1, h2⟩ := ih (i + 1) _ _ (hr.push hv) H w hE x H' hs
    exact ⟨e, b, e1, h1, by simp at h2; omega⟩
theorem ReadR.firstCells {size n : Nat} {v v' : Value} (h : VR π v v') : ReadR P lo π (Builtin.firstCells size n v) (Builtin.firstCells size n v') (AR π) := by
  cases h <;> try exact ReadR.stuck
  case string s => exact ReadR.pure (AR.map _ fun x _ => .int _ _)
  case snil l c => exact ReadR.pure AR.nil
  case sl hb =>
    intro H w hE x H' hs
    obtain ⟨e, b, e1, h1, h2⟩ := ReadR.loadCellsFrom ⟨_, _, hb, rfl⟩ _ 0 #[] #[] AR.nil H w hE x H' hs
    exact ⟨e, b, e1, h1⟩
theorem ReadR.lenOf {v v' : Value} (h : VR π v v') : ReadR P lo π (Builtin.lenOf v) (Builtin.lenOf v') Eq := by
  cases h <;> first | (exact ReadR.pure rfl) | exact ReadR.stuck
theorem Emb.drew {H : Heap} {w : World} (h : Emb P π H w) : Emb P π H w.drew := ⟨h.small, h.blk, h.inj, h.fresh, h.range⟩
theorem Emb.kill {H : Heap} {w : World} (h : Emb P π H w) {i : Nat} (hi : i < H.size) : Emb P π (H.set i none) w ∧ Keep lo H π w (H.set i none) π w := by
  have hg := Heap.get_set h.small hi none
  refine ⟨⟨h.small, ?_, ?_, h.fresh, h.range⟩, ⟨rfl, rfl, rfl, Nat.le_refl _, Nat.le_refl _, fun _ _ _ => rfl, ?_, Pl.le_refl _, fun _ _ => rfl⟩⟩
  · intro j o hj
    rw [hg] at hj
    split at hj
    · cases hj
    · exact h.blk j o hj
  · intro a b oa ob k m m' ha hb
    rw [hg] at ha hb
    split at ha
    · cases ha
    split at hb
    · cases hb
    exact h.inj a b oa ob k m m' ha hb
  · intro j o k m hbj hj hk
    rw [hg] at hj
    split at hj
    · cases hj
    · exact .inr ⟨j, o, m, hbj, hj, hk⟩

/-! ## Runs of small steps -/
theorem run_und {t : TypeId} {d : TypeDesc} (h : P.underlying t = some d) (w : World) : (Go.underlying t).run P w = .ok d w := by unfold Go.underlying; simp [h]
theorem run_info {t : TypeId} {d : TypeInfo} (h : P.info? t = some d) (w : World) : (Go.typeInfo t).run P w = .ok d w := by unfold Go.typeInfo; simp [h]
theorem run_size {t : TypeId} {d : TypeInfo} (h : P.info? t = some d) (w : World) : (Go.sizeOf t).run P w = .ok d.size w := by unfold Go.sizeOf; simp [run_info h]
theorem run_zero {t : TypeId} {d : TypeInfo} {z : Value} (h : P.info? t = some d) (hz : d.zero = some z) (w : World) : (Go.zeroValue t).run P w = .ok z w := by unfold Go.zeroValue; simp [run_info h, hz]

theorem zeroCells_size (z : Array Value) (n : Nat) : (Builtin.zeroCells z n).size = n * z.size := by simp [Builtin.zeroCells]
theorem growBy_le (newLen : Nat) : ∀ (r c : Nat), c < newLen + 1000000 → Builtin.growBy newLen r c ≤ 2 * newLen + 2000000 := by
  intro r
  induction r with
  | zero => intro c h; simp only [Builtin.growBy]; omega
  | succ r ih =>
    intro c h
    simp only [Builtin.growBy]
    split
    · omega
    · exact Nat.le_trans (by
        by_cases h2 : c + (c + 768) / 4 < newLen + 1000000
        · exact ih _ h2
        · cases r with
          | zero => simp only [Builtin.growBy]; omega
          | succ r => simp only [Builtin.growBy]; rw [if_pos (by omega)]; omega) (Nat.le_refl _)
theorem nextcap_le {need cap : Nat} (h : cap < need) : Builtin.nextslicecap need cap ≤ 2 * need + 2000000 := by
  unfold Builtin.nextslicecap
  split
  · omega
  · split
    · omega
    · exact growBy_le _ _ _ (by omega)
end
end Go.Proofs.YtdnccdobnhbpeaaDoor.Ev

namespace Go.Proofs.YtdnccdobnhbpeaaDoor.Ev
open Go
set_option linter.unusedVariables false
section
variable {P : Program} {lo : Bar} {π : Pl}

theorem isInt_matches (xd : TypeDesc) : (xd matches .int _) = isInt xd := by cases xd <;> rfl

/-- Cells written one behind the other. -/
theorem run_storeCells_at (k o : Nat) (e : TypeId) : ∀ (vs : List Value) (i : Nat) (cur : Array Value) (w : World), w.heap[k]? = some (.cells cur e (0, 0)) → o + i + vs.length ≤ cur.size → (∀ v ∈ vs, v.oneCell' = true) →
    ∃ cur', (Go.storeCells ⟨k, o, none⟩ vs i).run P w = .ok () { w with heap := w.heap.setIfInBounds k (.cells cur' e (0, 0)) } ∧ cur'.size = cur.size ∧
      (∀ j, j < o + i → cur'[j]? = cur[j]?) ∧ (∀ j, o + i + vs.length ≤ j → cur'[j]? = cur[j]?) ∧ ∀ j, j < vs.length → cur'[o + i + j]? = vs[j]? := by
  intro vs
  induction vs with
  | nil =>
    intro i cur w hw hle _
    refine ⟨cur, ?_, rfl, fun _ _ => rfl, fun _ _ => rfl, fun j hj => by simp at hj⟩
    have hk := Array.getElem?_eq_some_iff.1 hw
    obtain ⟨hk, hv⟩ := hk
    have : w.heap.setIfInBounds k (.cells cur e (0, 0)) = w.heap := by
      apply Array.ext
      · simp
      · intro j h1 h2
        rw [Array.getElem_setIfInBounds h2]
        split
        · rename_i e; subst e; exact hv.symm
        · rfl
    rw [this]
    rfl
  | cons v vs ih =>
    intro i cur w hw hle hone
    have hv : v.oneCell' = true := hone v (by simp)
    have hk := (Array.getElem?_eq_some_iff.1 hw).1
    simp only [List.length_cons] at hle
    have hadd : (⟨k, o, none⟩ : Addr).add i = ⟨k, o + i, none⟩ := by
      unfold Addr.add
      split
      · rename_i h0; subst h0; rfl
      · rfl
    have hcell : w.cell? ⟨k, o + i, none⟩ = some (cur[o + i]'(by omega)) := by
      simp only [World.cell?, hw, Option.isSome_none, Bool.false_eq_true, if_false]
      exact Array.getElem?_eq_getElem (by omega)
    have hfr : w.frozen? ⟨k, o + i, none⟩ = false := by simp [World.frozen?, hw]
    have hset : (w.setCell ⟨k, o + i, none⟩ v).heap = w.heap.setIfInBounds k (.cells (cur.setIfInBounds (o + i) v) e (0, 0)) := by
      apply Array.ext
      · simp [World.setCell]
      · intro j h1 h2
        have h2' : j < w.heap.size := by simpa using h2
        simp only [World.setCell, Array.getElem_modify]
        rw [Array.getElem_setIfInBounds h2']
        split
        · rename_i e
          subst e
          have : w.heap[k] = .cells cur e (0, 0) := (Array.getElem?_eq_some_iff.1 hw).2
          simp [this]
        · rfl
    have hw2 : (w.setCell ⟨k, o + i, none⟩ v).heap[k]? = some (.cells (cur.setIfInBounds (o + i) v) e (0, 0)) := by rw [hset]; simp [hk]
    obtain ⟨cur', hrun, hsz, hlow, hhigh, hmid⟩ := ih (i + 1) _ _ hw2 (by simp; omega) fun u hu => hone u (by simp [hu])
    refine ⟨cur', ?_, by simpa using hsz, ?_, ?_, ?_⟩
    · unfold Go.storeCells
      rw [Sem.run_bind, hadd, run_store P w _ v .plain hv]
      simp only [hcell, hfr, Bool.false_eq_true, if_false, Result.andThen_ok]
      rw [hrun, hset]
      congr 1
      simp only [World.setCell]
      congr 1
      apply Array.ext
      · simp
      · intro j h1 h2
        simp only [Array.size_setIfInBounds] at h1 h2
        rw [Array.getElem_setIfInBounds (by simpa using h1)]
        by_cases hkj : k = j
        · subst hkj
          simp
        · rw [if_neg hkj, Array.getElem_setIfInBounds h2, Array.getElem_setIfInBounds h2, if_neg hkj, if_neg hkj]
    · intro j hj
      rw [hlow j (by omega)]
      rw [Array.getElem?_setIfInBounds_ne (by omega)]
    · intro j hj
      simp only [List.length_cons] at hj
      rw [hhigh j (by omega)]
      rw [Array.getElem?_setIfInBounds_ne (by omega)]
    · intro j hj
      cases j with
      | zero =>
        simp only [Nat.add_zero, List.getElem?_cons_zero]
        rw [hlow _ (by omega)]
        have hlt : o + i < cur.size := by omega
        simp [hlt]
      | succ j =>
        simp only [List.length_cons] at hj
        have := hmid j (by omega)
        rw [show o + i + (j + 1) = o + (i + 1) + j from by omega, this]
        simp
theorem append_start {ts : Array TypeId} {ty : TypeId} {args : Array Value} {sType xType elem : TypeId} {xd : TypeDesc} {base : Option Addr} {sLen sCap : Nat} {x : Value} {info : TypeInfo} {n : Nat}
    (h0 : ts[0]? = some sType) (h1 : ts[1]? = some xType) (h2 : args[0]? = some (.slice base sLen sCap)) (h3 : args[1]? = some x) (h4 : P.underlying sType = some (.slice elem)) (h5 : P.underlying xType = some xd)
    (h6 : isInt xd = false) (h7 : P.info? elem = some info) (w : World) (h8 : (Builtin.lenOf x).run P w = .ok n w) (hn : n ≤ 2 ^ 20) (hs : sLen ≤ 2 ^ 20) (hb : info.bytes ≤ 2 ^ 20) :
    (Builtin.append_ ts ty args).run P w = ((do
      if sLen + n ≤ sCap then
        let new ← Builtin.firstCells info.size n x
        if let some a := base then Go.storeCells (a.add (sLen * info.size)) new.toList
        Pure.pure (Value.slice base (sLen + n) sCap)
      else
        let newCap ← Go.choose (.appendCap (sLen + n) sCap elem)
        Go.askRoom (newCap * info.bytes)
        let old ← Builtin.firstCells info.size sLen (.slice base sLen sCap)
        let new ← Builtin.firstCells info.size n x
        let rest := Builtin.zeroCells (← Go.zeroValue elem).cells (newCap - (sLen + n))
        Pure.pure (Value.slice (some (← Go.newRow elem (old ++ new ++ rest))) (sLen + n) newCap)) : Sem Value).run P w := by
  unfold Builtin.append_
  simp only [h0, h1, h2, h3]
  rw [Sem.run_bind, run_und h4, Result.andThen_ok]
  simp only
  rw [Sem.run_bind, run_size h7, Result.andThen_ok]
  rw [Sem.run_bind, run_und h5, Result.andThen_ok]
  have big : ¬ (((sLen + n : Nat) : Int) > IntKind.i64.max ∧ (false = true ∨ info.bytes = 0)) := by
    intro h
    have e : IntKind.i64.max = 9223372036854775807 := by decide
    rw [e] at h
    omega
  cases xd <;> first | (exfalso; simp [isInt] at h6; done) | skip
  all_goals
    rw [Sem.run_bind, Sem.run_pure, Result.andThen_ok]
    simp only [Bool.false_eq_true, if_false, Bool.not_false, if_true]
    rw [Sem.run_bind, h8, Result.andThen_ok]
    by_cases hc : sLen + n ≤ sCap
    · simp only [hc, if_true]
      cases base <;> rfl
    · simp only [hc, if_false]
      rw [Sem.run_bind, run_info h7, Result.andThen_ok]
      simp only [Bool.false_eq_true] at big
      rw [if_neg big, Sem.run_bind, run_info h7, Result.andThen_ok]
      have small : ¬ Builtin.nextslicecap (sLen + n) sCap * info.bytes > 2 ^ 48 := by
        have h1 := nextcap_le (need := sLen + n) (cap := sCap) (by omega)
        have h2 : Builtin.nextslicecap (sLen + n) sCap * info.bytes ≤ (2 * (sLen + n) + 2000000) * 2 ^ 20 := Nat.mul_le_mul h1 hb
        omega
      rw [if_neg small, Sem.run_bind, Sem.run_bind]
      congr 1
      funext c w'
      rw [Sem.run_bind, run_info h7, Result.andThen_ok]
theorem lsem_loads (H : Heap) (a : Addr) : ∀ (n i : Nat) (acc r : Array Value) (H' : Heap), lsem P lo (Go.loadCellsFrom a i n acc) H = some (r, H') →
    H' = H ∧ r.size = acc.size + n ∧ (∀ q, q < acc.size → r[q]? = acc[q]?) ∧ ∀ q, q < n → r[acc.size + q]? = H.cell (a.add (i + q)) := by
  intro n
  induction n with
  | zero =>
    intro i acc r H' h
    cases h
    exact ⟨rfl, rfl, fun _ _ => rfl, fun q hq => by omega⟩
  | succ n ih =>
    intro i acc r H' h
    unfold Go.loadCellsFrom at h
    rw [lsem_bind'] at h
    simp only [Go.load, lsem] at h
    cases hc : H.cell (a.add i) with
    | none => rw [hc] at h; cases h
    | some v =>
      rw [hc] at h
      obtain ⟨e, hs, hp, hq⟩ := ih (i + 1) (acc.push v) r H' h
      simp only [Array.size_push] at hs hp hq
      refine ⟨e, by omega, fun q hlt => ?_, fun q hlt => ?_⟩
      · rw [hp q (by omega), Array.getElem?_push, if_neg (by omega)]
      · cases q with
        | zero =>
          rw [Nat.add_zero, hp _ (by omega), Array.getElem?_push, if_pos rfl, Nat.add_zero, hc]
        | succ q =>
          have := hq q (by omega)
          rw [show acc.size + (q + 1) = acc.size + 1 + q from by omega, this, show i + 1 + q = i + (q + 1) from by omega]

/-- What append does when it makes a new block. -/
theorem grow_new {H H₁ H₂ : Heap} {w : World} (hE : Emb P π H w) (hE₁ : Emb P π H₁ w) (hK : Keep lo H π w H₁ π w) {elem : TypeId} {info : TypeInfo} (h7 : P.info? elem = some info) {z : Value} (hz : info.zero = some z) (hzs : z.cells.size = info.size)
    {s s' x x' : Value} (hs : VR π s s') (hx : VR π x x') {sLen sCap n : Nat} {old new : Array Value} (ho : lsem P lo (Builtin.firstCells info.size sLen s) H = some (old, H)) (hn : lsem P lo (Builtin.firstCells info.size n x) H = some (new, H))
    (hos : old.size = sLen * info.size) (hns : new.size = n * info.size) (hp : H₁.push (.pending (old ++ new) elem) = some H₂) (sCap' : Nat) :
    ∃ π' v' w', ((do
        let newCap ← Go.choose (.appendCap (sLen + n) sCap' elem)
        Go.askRoom (newCap * info.bytes)
        let old ← Builtin.firstCells info.size sLen s'
        let new ← Builtin.firstCells info.size n x'
        let rest := Builtin.zeroCells (← Go.zeroValue elem).cells (newCap - (sLen + n))
        Pure.pure (Value.slice (some (← Go.newRow elem (old ++ new ++ rest))) (sLen + n) newCap)) : Sem Value).run P w = .ok v' w' ∧ Emb P π' H₂ w' ∧ VR π' (.slice (some ⟨H₁.size, 0, none⟩) (sLen + n) (sLen + n)) v' ∧ Keep lo H π w H₂ π' w' := by
  obtain ⟨_, old', ho', hro⟩ := ReadR.firstCells hs H w.drew hE.drew old H ho
  obtain ⟨_, new', hn', hrn⟩ := ReadR.firstCells hx H w.drew hE.drew new H hn
  generalize hq : Question.appendCap (sLen + n) sCap' elem = q
  have hforced : q.forced = false := by rw [← hq]; rfl
  obtain ⟨c, hc, hle⟩ : ∃ c, q.cut (w.tape w.drawn q) = c ∧ sLen + n ≤ c := by
    refine ⟨_, rfl, ?_⟩
    rw [← hq]
    simp only [Question.cut]
    omega
  have hdrew : ({ w with drawn := w.drawn + 1 } : World) = w.drew := rfl
  have hle' : π.le (π.with H₁.size w.drew.heap.size (c - (sLen + n))) := Pl.le_with (hE₁.fresh _ (Nat.le_refl _))
  have hobj : ObjR P (π.with H₁.size w.drew.heap.size (c - (sLen + n))) (c - (sLen + n)) (.pending (old ++ new) elem) (.cells (old' ++ new' ++ Builtin.zeroCells z.cells (c - (sLen + n))) elem (0, 0)) := by
    refine .grown elem info h7 ?_ ?_
    · simp only [Array.size_append, zeroCells_size, hzs, hro.1.symm, hrn.1.symm]
    · have h1 := hro.append hrn
      have e : (old' ++ new' ++ Builtin.zeroCells z.cells (c - (sLen + n))).extract 0 (old ++ new).size = old' ++ new' := by
        rw [h1.1]
        apply Array.ext
        · simp
        · intro i a b
          simp only [Array.getElem_extract, Nat.zero_add]
          rw [Array.getElem_append_left]
      rw [e]
      exact h1.mono hle'
  obtain ⟨e1, e2⟩ := hE₁.drew.push (w' := { w.drew with heap := w.drew.heap.push (.cells (old' ++ new' ++ Builtin.zeroCells z.cells (c - (sLen + n))) elem (0, 0)) }) hp hobj rfl rfl rfl rfl
  refine ⟨_, .slice (some ⟨w.drew.heap.size, 0, none⟩) (sLen + n) c, _, ?_, e1, ?_, ?_⟩
  · rw [Sem.run_bind, run_choose]
    simp only [hforced, Bool.false_eq_true, if_false, hc, hdrew, Result.andThen_ok]
    rw [Sem.run_bind, run_askRoom, Result.andThen_ok, Sem.run_bind, ho', Result.andThen_ok, Sem.run_bind, hn', Result.andThen_ok, Sem.run_bind, run_zero h7 hz, Result.andThen_ok, Sem.run_bind]
    simp only [Go.newRow]
    rw [Sem.run_bind, run_newObj, Result.andThen_ok]
    rfl
  · have := VR.sl (π := π.with H₁.size w.drew.heap.size (c - (sLen + n))) (b := H₁.size) (k := w.drew.heap.size) (m := c - (sLen + n)) (off := 0) (spot := none) (l := sLen + n) (c := sLen + n) (by simp [Pl.with])
    rw [show sLen + n + (c - (sLen + n)) = c from by omega] at this
    exact this
  · exact hK.trans ⟨e2.os, e2.tape, e2.output, e2.size, e2.hsize, e2.frame, e2.live, e2.le, e2.old⟩
end
end Go.Proofs.YtdnccdobnhbpeaaDoor.Ev

namespace Go.Proofs.YtdnccdobnhbpeaaDoor.Ev
open Go
set_option linter.unusedVariables false
section
variable {P : Program} {lo : Bar} {π : Pl}

/-- The append once it is known how many are appended, and what reads them. -/
def appTail (elem : TypeId) (info : TypeInfo) (base : Option Addr) (sLen sCap n : Nat) (app : Sem (Array Value)) : Sem Value := do
  if sLen + n ≤ sCap then
    let new ← app
    if let some a := base then Go.storeCells (a.add (sLen * info.size)) new.toList
    Pure.pure (Value.slice base (sLen + n) sCap)
  else
    let newCap ← Go.choose (.appendCap (sLen + n) sCap elem)
    Go.askRoom (newCap * info.bytes)
    let old ← Builtin.firstCells info.size sLen (.slice base sLen sCap)
    let new ← app
    let rest := Builtin.zeroCells (← Go.zeroValue elem).cells (newCap - (sLen + n))
    Pure.pure (Value.slice (some (← Go.newRow elem (old ++ new ++ rest))) (sLen + n) newCap)

theorem append_start_zeros {ts : Array TypeId} {ty : TypeId} {args : Array Value} {sType xType elem : TypeId} {k : IntKind} {base : Option Addr} {sLen sCap : Nat} {k' : IntKind} {info : TypeInfo} {n : Nat} {z : Value}
    (h0 : ts[0]? = some sType) (h1 : ts[1]? = some xType) (h2 : args[0]? = some (.slice base sLen sCap)) (h3 : args[1]? = some (.int k' n)) (h4 : P.underlying sType = some (.slice elem)) (h5 : P.underlying xType = some (.int k))
    (h7 : P.info? elem = some info) (hz : info.zero = some z) (hzs : z.cells.size = info.size) (w : World) (hn : n ≤ 2 ^ 20) (hs : sLen ≤ 2 ^ 20) (hb : info.bytes ≤ 2 ^ 20) :
    (Builtin.append_ ts ty args).run P w = (appTail elem info base sLen sCap n (Pure.pure (Builtin.zeroCells z.cells n))).run P w := by
  have hw : IntKind.i64.wrap (n : Int) = n := by
    unfold IntKind.wrap
    have e1 : ((2 : Int) ^ IntKind.i64.bits) = 18446744073709551616 := by decide
    have e2 : ((2 : Int) ^ (IntKind.i64.bits - 1)) = 9223372036854775808 := by decide
    simp only [e1, e2]
    have e3 : (n : Int) % 18446744073709551616 = n := Int.emod_eq_of_lt (by omega) (by omega)
    rw [e3]
    have e4 : decide ((n : Int) ≥ 9223372036854775808) = false := by simp; omega
    simp [e4]
  have app : ∀ w : World, (if n * info.size = 0 then Pure.pure #[] else do Pure.pure (Builtin.zeroCells (← Go.zeroValue elem).cells n) : Sem (Array Value)).run P w = .ok (Builtin.zeroCells z.cells n) w := by
    intro w
    split
    · rename_i h
      have e : Builtin.zeroCells z.cells n = #[] := by
        apply Array.eq_empty_of_size_eq_zero
        rw [zeroCells_size, hzs, h]
      rw [e]
      rfl
    · rw [Sem.run_bind, run_zero h7 hz]; rfl
  unfold Builtin.append_ appTail
  simp only [h0, h1, h2, h3]
  rw [Sem.run_bind, run_und h4, Result.andThen_ok]
  simp only
  rw [Sem.run_bind, run_size h7, Result.andThen_ok]
  rw [Sem.run_bind, run_und h5, Result.andThen_ok]
  have big : ¬ (((sLen + n : Nat) : Int) > IntKind.i64.max ∧ (True ∨ info.bytes = 0)) := by
    intro h
    have e : IntKind.i64.max = 9223372036854775807 := by decide
    rw [e] at h
    omega
  have hneg : ¬ ((n : Int) < 0) := by omega
  have hlim : ¬ ((n : Int) * (info.bytes : Int) > 2 ^ 48) := by
    have : n * info.bytes ≤ 2 ^ 20 * 2 ^ 20 := Nat.mul_le_mul hn hb
    have h2 : ((n * info.bytes : Nat) : Int) ≤ 2 ^ 40 := by exact_mod_cast this
    rw [Int.natCast_mul] at h2
    intro h
    have : (2 : Int) ^ 48 = 281474976710656 := by decide
    have : (2 : Int) ^ 40 = 1099511627776 := by decide
    omega
  rw [Sem.run_bind, Sem.run_pure, Result.andThen_ok]
  simp only [if_true]
  rw [Sem.run_bind]
  show ((Go.asInt (.int k' n)).run P w).andThen _ = _
  rw [show (Go.asInt (.int k' n)).run P w = .ok (n : Int) w from rfl, Result.andThen_ok]
  simp only [hw, hneg, if_false]
  rw [Sem.run_bind, run_info h7, Result.andThen_ok, if_neg hlim, Sem.run_bind, Sem.run_pure, Result.andThen_ok]
  simp only [Int.toNat_natCast, Bool.not_true, Bool.false_eq_true, if_false]
  by_cases hc : sLen + n ≤ sCap
  · simp only [hc, if_true]
    rw [Sem.run_bind, app, Result.andThen_ok, Sem.run_bind, Sem.run_pure, Result.andThen_ok]
    cases base <;> rfl
  · simp only [hc, if_false]
    rw [Sem.run_bind, run_info h7, Result.andThen_ok, if_neg big, Sem.run_bind, run_info h7, Result.andThen_ok]
    have small : ¬ Builtin.nextslicecap (sLen + n) sCap * info.bytes > 2 ^ 48 := by
      have h1 := nextcap_le (need := sLen + n) (cap := sCap) (by omega)
      have h2 : Builtin.nextslicecap (sLen + n) sCap * info.bytes ≤ (2 * (sLen + n) + 2000000) * 2 ^ 20 := Nat.mul_le_mul h1 hb
      omega
    rw [if_neg small, Sem.run_bind, Sem.run_bind]
    congr 1
    funext c w'
    rw [Sem.run_bind, run_info h7, Result.andThen_ok, Sem.run_bind, Sem.run_bind]
    congr 1
    funext _ w2
    rw [Sem.run_bind, Sem.run_bind]
    congr 1
    funext old w3
    rw [Sem.run_bind, Sem.run_bind, app, Sem.run_pure]

/-- What reads the new elements, over the great world. -/
def Reads (P : Program) (π : Pl) (H : Heap) (new : Array Value) (app : Sem (Array Value)) : Prop :=
  ∀ w, Emb P π H w → ∃ new', app.run P w = .ok new' w ∧ AR π new new'

/-- What append does when it makes a new block. -/
theorem grow_new' {H H₁ H₂ : Heap} {w : World} (hE : Emb P π H w) (hE₁ : Emb P π H₁ w) (hK : Keep lo H π w H₁ π w) {elem : TypeId} {info : TypeInfo} (h7 : P.info? elem = some info) {z : Value} (hz : info.zero = some z) (hzs : z.cells.size = info.size)
    {base base' : Option Addr} {sLen sCap sCap' : Nat} (hs : VR π (.slice base sLen sCap) (.slice base' sLen sCap')) {n : Nat} {old new : Array Value} (ho : lsem P lo (Builtin.firstCells info.size sLen (.slice base sLen sCap)) H = some (old, H))
    {app : Sem (Array Value)} (hA : Reads P π H new app) (hos : old.size = sLen * info.size) (hns : new.size = n * info.size) (hp : H₁.push (.pending (old ++ new) elem) = some H₂) (hc : ¬ sLen + n ≤ sCap') :
    ∃ π' v' w', (appTail elem info base' sLen sCap' n app).run P w = .ok v' w' ∧ Emb P π' H₂ w' ∧ VR π' (.slice (some ⟨H₁.size, 0, none⟩) (sLen + n) (sLen + n)) v' ∧ Keep lo H π w H₂ π' w' := by
  obtain ⟨_, old', ho', hro⟩ := ReadR.firstCells hs H w.drew hE.drew old H ho
  obtain ⟨new', hn', hrn⟩ := hA w.drew hE.drew
  generalize hq : Question.appendCap (sLen + n) sCap' elem = q
  have hforced : q.forced = false := by rw [← hq]; rfl
  obtain ⟨c, hcc, hle⟩ : ∃ c, q.cut (w.tape w.drawn q) = c ∧ sLen + n ≤ c := by
    refine ⟨_, rfl, ?_⟩
    rw [← hq]
    simp only [Question.cut]
    omega
  have hdrew : ({ w with drawn := w.drawn + 1 } : World) = w.drew := rfl
  have hle' : π.le (π.with H₁.size w.drew.heap.size (c - (sLen + n))) := Pl.le_with (hE₁.fresh _ (Nat.le_refl _))
  have hobj : ObjR P (π.with H₁.size w.drew.heap.size (c - (sLen + n))) (c - (sLen + n)) (.pending (old ++ new) elem) (.cells (old' ++ new' ++ Builtin.zeroCells z.cells (c - (sLen + n))) elem (0, 0)) := by
    refine .grown elem info h7 ?_ ?_
    · simp only [Array.size_append, zeroCells_size, hzs, hro.1.symm, hrn.1.symm]
    · have h1 := hro.append hrn
      have e : (old' ++ new' ++ Builtin.zeroCells z.cells (c - (sLen + n))).extract 0 (old ++ new).size = old' ++ new' := by
        rw [h1.1]
        apply Array.ext
        · simp
        · intro i a b
          simp only [Array.getElem_extract, Nat.zero_add]
          rw [Array.getElem_append_left]
      rw [e]
      exact h1.mono hle'
  obtain ⟨e1, e2⟩ := hE₁.drew.push (w' := { w.drew with heap := w.drew.heap.push (.cells (old' ++ new' ++ Builtin.zeroCells z.cells (c - (sLen + n))) elem (0, 0)) }) hp hobj rfl rfl rfl rfl
  refine ⟨_, .slice (some ⟨w.drew.heap.size, 0, none⟩) (sLen + n) c, _, ?_, e1, ?_, ?_⟩
  · unfold appTail
    rw [if_neg hc, Sem.run_bind, run_choose, hq]
    simp only [hforced, Bool.false_eq_true, if_false, hcc, hdrew, Result.andThen_ok]
    rw [Sem.run_bind, run_askRoom, Result.andThen_ok, Sem.run_bind, ho', Result.andThen_ok, Sem.run_bind, hn', Result.andThen_ok, Sem.run_bind, run_zero h7 hz, Result.andThen_ok, Sem.run_bind]
    simp only [Go.newRow]
    rw [Sem.run_bind, run_newObj, Result.andThen_ok]
    rfl
  · have := VR.sl (π := π.with H₁.size w.drew.heap.size (c - (sLen + n))) (b := H₁.size) (k := w.drew.heap.size) (m := c - (sLen + n)) (off := 0) (spot := none) (l := sLen + n) (c := sLen + n) (by simp [Pl.with])
    rw [show sLen + n + (c - (sLen + n)) = c from by omega] at this
    exact this
  · exact hK.trans ⟨e2.os, e2.tape, e2.output, e2.size, e2.hsize, e2.frame, e2.live, e2.le, e2.old⟩

/-- append into room that was there: the block is the old one, the number is new. -/
theorem grow_place {H H₂ : Heap} {w : World} (hE : Emb P π H w) {elem : TypeId} {info : TypeInfo} (h7 : P.info? elem = some info) {b k m : Nat} (hbok : lo.ok b = true) (hb : π b = some (k, m)) {c : Array Value} (hg : H.get b = some (.pending c elem))
    {sLen sCap n : Nat} (hcs : c.size = sCap * info.size) (hsz : info.size ≠ 0) {old new : Array Value} (ho : lsem P lo (Builtin.firstCells info.size sLen (.slice (some ⟨b, 0, none⟩) sLen sCap)) H = some (old, H)) {app : Sem (Array Value)} (hA : Reads P π H new app)
    (hos : old.size = sLen * info.size) (hns : new.size = n * info.size) (hwide : ∀ v ∈ new.toList, wide v = false) (hp : (H.set b none).push (.pending (old ++ new) elem) = some H₂) (hc : sLen + n ≤ sCap + m) (hgrow : sCap < sLen + n) :
    ∃ π' v' w', (appTail elem info (some ⟨k, 0, none⟩) sLen (sCap + m) n app).run P w = .ok v' w' ∧ Emb P π' H₂ w' ∧ VR π' (.slice (some ⟨(H.set b none).size, 0, none⟩) (sLen + n) (sLen + n)) v' ∧ Keep lo H π w H₂ π' w' := by
  obtain ⟨new', hn', hrn⟩ := hA w hE
  obtain ⟨k0, m0, o', hb0, hwk, hobj⟩ := hE.blk b _ hg
  rw [hb] at hb0
  cases hb0
  cases hobj with
  | @grown _ _ c' _ i hi hs ha =>
  have e : i = info := by rw [h7] at hi; exact (Option.some.inj hi).symm
  subst e
  have hkl : k < w.heap.size := (Array.getElem?_eq_some_iff.1 hwk).1
  have hone : ∀ v ∈ new'.toList, v.oneCell' = true := by
    intro v hv
    obtain ⟨j, hj, rfl⟩ := List.mem_iff_getElem.1 hv
    have hj' : j < new.size := by rw [hrn.1]; simpa using hj
    have := hrn.2 j hj' (by simpa using hj)
    simpa using this.oneCell (hwide _ (by simp))
  have hsizes : sLen * i.size + new'.toList.length ≤ c'.size := by
    simp only [Array.length_toList]
    rw [← hrn.1, hns, hs, hcs, ← Nat.add_mul, ← Nat.add_mul]
    exact Nat.mul_le_mul_right _ hc
  obtain ⟨cur', hrun, hcsz, hlow, hhigh, hmid⟩ := run_storeCells_at (P := P) k (sLen * i.size) elem new'.toList 0 c' w hwk (by simpa using hsizes) hone
  have hadd : (⟨k, 0, none⟩ : Addr).add (sLen * i.size) = ⟨k, sLen * i.size, none⟩ := by
    unfold Addr.add
    split
    · rename_i h0; rw [h0]
    · simp
  obtain ⟨hsz2, hsm2, hget2⟩ := Heap.push_spec hp
  have hbl := Heap.get_lt hg
  have hget1 := Heap.get_set hE.small hbl none
  rw [Heap.set_size] at hsz2 hget2
  have hj : π H.size = none := hE.fresh _ (Nat.le_refl _)
  have hle : π.le (π.with H.size k (sCap + m - (sLen + n))) := Pl.le_with hj
  have hold : ∀ i, i ≠ H.size → (π.with H.size k (sCap + m - (sLen + n))) i = π i := fun i hi => by unfold Pl.with; rw [if_neg hi]
  have hnew : (π.with H.size k (sCap + m - (sLen + n))) H.size = some (k, sCap + m - (sLen + n)) := by simp [Pl.with]
  have hwj : ∀ j, (w.heap.setIfInBounds k (.cells cur' elem (0, 0)))[j]? = if j = k then some (.cells cur' elem (0, 0)) else w.heap[j]? := by
    intro j
    rw [Array.getElem?_setIfInBounds]
    by_cases hjk : j = k
    · subst hjk; simp [hkl]
    · have : ¬ k = j := fun e => hjk e.symm
      simp [hjk, this]
  have hget : ∀ q, H₂.get q = if q = H.size then some (.pending (old ++ new) elem) else if q = b then none else H.get q := by
    intro q; rw [hget2]; split
    · rfl
    · rw [hget1]
  -- the cells of the new number
  have hcells : AR π (old ++ new) (cur'.extract 0 (old ++ new).size) := by
    have hsum : (old ++ new).size = (sLen + n) * i.size := by simp [hos, hns, Nat.add_mul]
    have hle3 : (sLen + n) * i.size ≤ cur'.size := by
      rw [hcsz, hs, hcs, ← Nat.add_mul]; exact Nat.mul_le_mul_right _ hc
    refine ⟨by rw [Array.size_extract, hsum]; omega, fun q a b' => ?_⟩
    have hq : q < (sLen + n) * i.size := by rw [← hsum]; exact a
    have hqc : q < cur'.size := by omega
    simp only [Array.getElem_extract, Nat.zero_add]
    rw [Array.getElem_append]
    split
    · rename_i hqo
      have hqs : q < sLen * i.size := by rw [← hos]; exact hqo
      have e1 : cur'[q]? = c'[q]? := hlow q (by simpa using hqs)
      obtain ⟨_, _, _, hrd⟩ := lsem_loads H ⟨b, 0, none⟩ (sLen * i.size) 0 #[] old H (by
        simpa [Builtin.firstCells, Go.loadCells] using ho)
      have e2 := hrd q hqs
      have hcell : H.cell ((⟨b, 0, none⟩ : Addr).add (0 + q)) = c[q]? := by
        have : (⟨b, 0, none⟩ : Addr).add (0 + q) = ⟨b, q, none⟩ := by
          unfold Addr.add
          split
          · rename_i h0; have : q = 0 := by omega
            rw [this]
          · simp
        rw [this]
        simp [Heap.cell, hg]
      rw [hcell] at e2
      simp only [List.size_toArray, List.length_nil, Nat.zero_add] at e2
      have hqlt : q < c.size := by
        have : sLen * i.size ≤ sCap * i.size ∨ sCap * i.size < sLen * i.size := by omega
        rcases this with h | h
        · omega
        · have h9 : old[q]? = some old[q] := Array.getElem?_eq_getElem hqo
          rw [e2] at h9
          exact (Array.getElem?_eq_some_iff.1 h9).1
      have h5 := ha.2 q hqlt (by simp; omega)
      simp only [Array.getElem_extract, Nat.zero_add] at h5
      have e3 : old[q] = c[q] := by
        have h9 : old[q]? = some old[q] := Array.getElem?_eq_getElem hqo
        rw [e2, Array.getElem?_eq_getElem hqlt] at h9
        exact (Option.some.inj h9).symm
      have e4 : cur'[q] = c'[q]'(by omega) := by
        rw [Array.getElem?_eq_getElem hqc, Array.getElem?_eq_getElem (by omega)] at e1
        exact Option.some.inj e1
      rw [e3, e4]
      exact h5
    · rename_i hqo
      have hge : sLen * i.size ≤ q := by rw [← hos]; omega
      have hlt : q - sLen * i.size < new.size := by rw [hns]; rw [Nat.add_mul] at hq; omega
      have hm := hmid (q - sLen * i.size) (by simpa [← hrn.1] using hlt)
      have e5 : sLen * i.size + 0 + (q - sLen * i.size) = q := by omega
      rw [e5, Array.getElem?_eq_getElem hqc] at hm
      have hlt' : q - sLen * i.size < new'.size := by rw [← hrn.1]; exact hlt
      have e6 : cur'[q] = new'[q - sLen * i.size] := by
        have : new'.toList[q - sLen * i.size]? = some new'[q - sLen * i.size] := by simp [hlt']
        rw [this] at hm
        exact Option.some.inj hm
      rw [e6]
      have := hrn.2 _ hlt hlt'
      simpa only [hos] using this
  refine ⟨π.with H.size k (sCap + m - (sLen + n)), .slice (some ⟨k, 0, none⟩) (sLen + n) (sCap + m), { w with heap := w.heap.setIfInBounds k (.cells cur' elem (0, 0)) }, ?_, ⟨hsm2, ?_, ?_, ?_, ?_⟩, ?_, ⟨rfl, rfl, rfl, by simp, by omega, ?_, ?_, hle, fun q hq => hold q (by omega)⟩⟩
  · unfold appTail
    rw [if_pos hc, Sem.run_bind, hn', Result.andThen_ok]
    simp only
    rw [Sem.run_bind, hadd, hrun]
    rfl
  · intro q o hq
    rw [hget] at hq
    split at hq
    · rename_i e; subst e
      cases hq
      refine ⟨k, sCap + m - (sLen + n), _, hnew, by simp only [hwj]; simp, .grown elem i h7 ?_ (hcells.mono hle)⟩
      have hsum : (old ++ new).size = (sLen + n) * i.size := by simp [hos, hns, Nat.add_mul]
      rw [hsum, hcsz, hs, hcs, ← Nat.add_mul, ← Nat.add_mul]
      congr 1
      omega
    · rename_i h1
      split at hq
      · cases hq
      · rename_i h2
        obtain ⟨k2, m2, o2, a1, a2, a3⟩ := hE.blk q o hq
        have hne : k2 ≠ k := fun e => h2 (hE.inj q b o _ k m2 m hq hg (e ▸ a1) hb)
        exact ⟨k2, m2, o2, by rw [hold q h1]; exact a1, by simp only [hwj]; rw [if_neg hne]; exact a2, a3.mono hle⟩
  · intro q r oq or_ k1 m1 m2 hq hr a1 a2
    rw [hget] at hq hr
    by_cases eq : q = H.size
    · by_cases er : r = H.size
      · rw [eq, er]
      · exfalso
        rw [if_neg er] at hr
        split at hr
        · cases hr
        · rename_i hrb
          rw [eq, hnew] at a1
          cases a1
          rw [hold r er] at a2
          exact hrb (hE.inj r b _ _ _ _ _ hr hg a2 hb)
    · rw [if_neg eq] at hq
      split at hq
      · cases hq
      · rename_i hqb
        rw [hold q eq] at a1
        by_cases er : r = H.size
        · exfalso
          rw [er, hnew] at a2
          cases a2
          exact hqb (hE.inj q b _ _ _ _ _ hq hg a1 hb)
        · rw [if_neg er] at hr
          split at hr
          · cases hr
          · rw [hold r er] at a2
            exact hE.inj q r _ _ k1 m1 m2 hq hr a1 a2
  · intro q hq
    rw [hold q (by omega)]
    exact hE.fresh q (by omega)
  · intro q k1 m1 hq
    simp only [Array.size_setIfInBounds]
    by_cases eq : q = H.size
    · rw [eq, hnew] at hq; cases hq; exact hkl
    · rw [hold q eq] at hq; exact hE.range q k1 m1 hq
  · have := VR.sl (π := π.with H.size k (sCap + m - (sLen + n))) (b := H.size) (k := k) (m := sCap + m - (sLen + n)) (off := 0) (spot := none) (l := sLen + n) (c := sLen + n) hnew
    rw [show sLen + n + (sCap + m - (sLen + n)) = sCap + m from by omega] at this
    rw [Heap.set_size]
    exact this
  · intro j hjl hn
    simp only [hwj]
    rw [if_neg]
    rintro rfl
    exact hn b _ m hbok hg hb
  · intro q o k1 m1 hbq hq a1
    rw [hget] at hq
    split at hq
    · rename_i e; subst e
      rw [hnew] at a1
      cases a1
      exact .inr ⟨b, _, m, hbok, hg, hb⟩
    · rename_i h1
      split at hq
      · cases hq
      · rw [hold q h1] at a1
        exact .inr ⟨q, o, m1, hbq, hq, a1⟩
end
end Go.Proofs.YtdnccdobnhbpeaaDoor.Ev

namespace Go.Proofs.YtdnccdobnhbpeaaDoor.Ev
open Go
set_option linter.unusedVariables false
section
variable {P : Program} {lo : Bar} {π : Pl}
theorem eq_of_beq {m n : Nat} (h : Nat.beq m n = true) : m = n := Nat.eq_of_beq_eq_true h

theorem lgrow_sim {H H' : Heap} {w : World} (hE : Emb P π H w) {elem : TypeId} {info : TypeInfo} (h7 : P.info? elem = some info) (hsz : info.size ≠ 0) {base base' : Option Addr} {sLen sCap sCap' n : Nat}
    (hs : VR π (.slice base sLen sCap) (.slice base' sLen sCap')) {new : Array Value} {app : Sem (Array Value)} (hA : Reads P π H new app) {v : Value} (hl : lgrow P lo elem info base sLen sCap n new H = some (v, H')) :
    ∃ π' v' w', (appTail elem info base' sLen sCap' n app).run P w = .ok v' w' ∧ Emb P π' H' w' ∧ VR π' v v' ∧ Keep lo H π w H' π' w' := by
  unfold lgrow at hl
  cases hb : Nat.ble (sLen + n) sCap with
  | true =>
    have hle := le_of_ble hb
    rw [hb] at hl
    simp only [cond_true] at hl
    obtain ⟨new', hn', hrn⟩ := hA w hE
    cases base with
    | none =>
      simp only [Option.some.injEq, Prod.mk.injEq] at hl
      obtain ⟨rfl, rfl⟩ := hl
      cases hs
      refine ⟨π, .slice none (sLen + n) sCap, w, ?_, hE, .snil _ _, .refl⟩
      unfold appTail
      rw [if_pos hle, Sem.run_bind, hn']
      rfl
    | some a =>
      simp only at hl
      split at hl
      · rename_i u h2 hst
        simp only [Option.some.injEq, Prod.mk.injEq] at hl
        obtain ⟨rfl, rfl⟩ := hl
        cases hs with
        | @sl b k m off spot _ _ hk =>
          have hst' := SemR.storeCells (P := P) (lo := lo) (AddrR.add ⟨k, m, hk, rfl⟩ (sLen * info.size) : AddrR π (Addr.add ⟨b, off, spot⟩ (sLen * info.size)) _) new.toList new'.toList 0 (Pl.le_refl _) hrn.list
          obtain ⟨π₂, u', w', e1, e2, _, e4⟩ := hst' π (Pl.le_refl _) H w hE _ _ hst
          refine ⟨π₂, .slice (some ⟨k, off, spot⟩) (sLen + n) (sCap + m), w', ?_, e2, .sl (e4.le _ _ hk), e4⟩
          unfold appTail
          rw [if_pos (by omega), Sem.run_bind, hn', Result.andThen_ok]
          simp only
          rw [Sem.run_bind, e1]
          rfl
      · cases hl
  | false =>
    have hgt : sCap < sLen + n := by
      rcases Nat.lt_or_ge sCap (sLen + n) with h | h
      · exact h
      · rw [ble_true h] at hb; cases hb
    rw [hb] at hl
    simp only [cond_false] at hl
    cases hz : info.zero with
    | none => rw [hz] at hl; cases hl
    | some z =>
    rw [hz] at hl
    simp only at hl
    cases ho : lsem P lo (Builtin.firstCells info.size sLen (.slice base sLen sCap)) H with
    | none => rw [ho] at hl; cases hl
    | some r =>
    obtain ⟨old, Hx⟩ := r
    have eH : Hx = H := (ReadR.firstCells hs H w hE old Hx ho).1
    subst eH
    rw [ho] at hl
    simp only at hl
    split at hl
    · rename_i hch
      simp only [Bool.and_eq_true, List.all_eq_true, Bool.not_eq_true'] at hch
      obtain ⟨⟨⟨c1, c2⟩, c3⟩, c4⟩ := hch
      have hzs : z.cells.size = info.size := by simpa using eq_of_beq c1
      have hns : new.size = n * info.size := by simpa using eq_of_beq c2
      have hos : old.size = sLen * info.size := by simpa using eq_of_beq c3
      have earr : (⟨old.toList ++ new.toList⟩ : Array Value) = old ++ new := by apply Array.ext'; simp
      rw [earr] at hl
      cases hroom : lroom lo elem base (sCap * info.size) Hx with
      | none => rw [hroom] at hl; cases hl
      | some H1 =>
      rw [hroom] at hl
      simp only at hl
      cases hp : H1.push (.pending (old ++ new) elem) with
      | none => rw [hp] at hl; cases hl
      | some H2 =>
      rw [hp] at hl
      simp only [Option.some.injEq, Prod.mk.injEq] at hl
      obtain ⟨rfl, rfl⟩ := hl
      unfold lroom at hroom
      cases base with
      | none =>
        cases hroom
        cases hs
        exact grow_new' hE hE .refl h7 hz hzs (.snil _ _) ho hA hos hns hp (by omega)
      | some a =>
        simp only at hroom
        cases hs with
        | @sl b k m off spot _ _ hk =>
        simp only at hroom
        split at hroom
        · rename_i c e fz hg
          cases hroom
          obtain ⟨k', m', o', h1, h2, h3⟩ := hE.blk _ _ hg
          rw [hk] at h1
          cases h1
          cases h3 with
          | cells e' ha =>
            exact grow_new' hE hE .refl h7 hz hzs (VR.sl (m := 0) hk) ho hA hos hns hp (by omega)
          | table e' _ _ _ ha =>
            exact grow_new' hE hE .refl h7 hz hzs (VR.sl (m := 0) hk) ho hA hos hns hp (by omega)
        · rename_i c e hg
          split at hroom
          · rename_i hcond
            simp only [Bool.and_eq_true] at hcond
            obtain ⟨⟨⟨⟨hbok, d1⟩, d2⟩, d3⟩, d4⟩ := hcond
            have e0 : off = 0 := eq_of_beq d1
            have e1 : spot = none := by cases spot with | none => rfl | some _ => simp at d2
            have e2 : c.size = sCap * info.size := by simpa using eq_of_beq d3
            have e3 : e = elem := eq_of_beq d4
            subst e0 e1 e3
            cases hroom
            by_cases hc : sLen + n ≤ sCap + m
            · exact grow_place hE h7 hbok hk hg e2 hsz ho hA hos hns (fun v hv => c4 v hv) hp hc hgt
            · obtain ⟨k1, k2⟩ := hE.kill (Heap.get_lt hg)
              exact grow_new' hE k1 k2 h7 hz hzs (VR.sl hk) ho hA hos hns hp hc
          · cases hroom
        · cases hroom
    · cases hl

theorem append_start' {ts : Array TypeId} {ty : TypeId} {args : Array Value} {sType xType elem : TypeId} {xd : TypeDesc} {base : Option Addr} {sLen sCap : Nat} {x : Value} {info : TypeInfo} {n : Nat}
    (h0 : ts[0]? = some sType) (h1 : ts[1]? = some xType) (h2 : args[0]? = some (.slice base sLen sCap)) (h3 : args[1]? = some x) (h4 : P.underlying sType = some (.slice elem)) (h5 : P.underlying xType = some xd)
    (h6 : isInt xd = false) (h7 : P.info? elem = some info) (w : World) (h8 : (Builtin.lenOf x).run P w = .ok n w) (hn : n ≤ 2 ^ 20) (hs : sLen ≤ 2 ^ 20) (hb : info.bytes ≤ 2 ^ 20) :
    (Builtin.append_ ts ty args).run P w = (appTail elem info base sLen sCap n (Builtin.firstCells info.size n x)).run P w := append_start h0 h1 h2 h3 h4 h5 h6 h7 w h8 hn hs hb

theorem lappend_sim {H H' : Heap} {w : World} (hE : Emb P π H w) {ts : Array TypeId} {ty : TypeId} {args args' : List Value} (ha : LR π args args') {v : Value} (hl : lappend P lo ts args H = some (v, H')) :
    ∃ π' v' w', (Builtin.append_ ts ty ⟨args'⟩).run P w = .ok v' w' ∧ Emb P π' H' w' ∧ VR π' v v' ∧ Keep lo H π w H' π' w' := by
  unfold lappend at hl
  split at hl
  · rename_i sType xType base sLen sCap x hts
    have h0 : ts[0]? = some sType := by have := congrArg (fun l => l[0]?) hts; simpa using this
    have h1 : ts[1]? = some xType := by have := congrArg (fun l => l[1]?) hts; simpa using this
    match args', ha with
    | [s', x'], ha =>
    have hvs := ha.tail.1
    have hvx := ha.tail.2.tail.1
    split at hl
    · rename_i elem xd h4 h5
      cases h7 : P.info? elem with
      | none => rw [h7] at hl; cases hl
      | some info =>
      rw [h7] at hl
      simp only at hl
      split at hl
      · cases hl
      rename_i hbig
      simp only [Bool.or_eq_true, not_or, Bool.not_eq_true, Bool.not_eq_true', Bool.not_eq_false] at hbig
      obtain ⟨⟨⟨⟨b1, b2⟩, b3⟩, b4⟩, b5⟩ := hbig
      have hsz : info.size ≠ 0 := by intro e; rw [e] at b1; cases b1
      have hby : info.bytes ≤ 2 ^ 20 := le_of_ble b3
      have hsl : sLen ≤ 2 ^ 20 := le_of_ble b5
      obtain ⟨base', sCap', rfl⟩ : ∃ base' sCap', s' = .slice base' sLen sCap' := by cases hvs <;> exact ⟨_, _, rfl⟩
      split at hl
      · rename_i hint
        have hxd : ∃ k, xd = .int k := by cases xd <;> simp [isInt] at hint; exact ⟨_, rfl⟩
        obtain ⟨k, rfl⟩ := hxd
        split at hl
        · rename_i _ _ k' n z hz _
          split at hl
          · rename_i hc2
            simp only [Bool.and_eq_true] at hc2
            cases hvx
            have hn : n ≤ 2 ^ 20 := le_of_ble hc2.1.1
            have hzs : z.cells.size = info.size := by simpa using eq_of_beq hc2.2
            have hzf : ∀ π', AR π' z.cells z.cells := fun π' => (VR.of_flat z hc2.1.2 : VR π' z z).cells
            have hA : Reads P π H (Builtin.zeroCells z.cells n) (Pure.pure (Builtin.zeroCells z.cells n)) := fun w _ => ⟨_, rfl, AR.zeros' (hzf π) _⟩
            rw [show (Builtin.append_ ts ty ⟨[.slice base' sLen sCap', .int k' (.ofNat n)]⟩).run P w = _ from append_start_zeros (k' := k') (n := n) h0 h1 rfl rfl h4 h5 h7 hz hzs w hn hsl hby]
            exact lgrow_sim hE h7 hsz hvs hA hl
          · cases hl
        · cases hl
      · rename_i hint
        have hint : isInt xd = false := by simpa using hint
        cases hlen : lsem P lo (Builtin.lenOf x) H with
        | none => rw [hlen] at hl; cases hl
        | some r =>
        obtain ⟨n, Hx⟩ := r
        obtain ⟨eH, n', hrunlen, en⟩ := ReadR.lenOf hvx H w hE n Hx hlen
        subst eH en
        rw [hlen] at hl
        simp only at hl
        split at hl
        · cases hl
        rename_i hnb
        have hn : n ≤ 2 ^ 20 := le_of_ble (by simpa using hnb)
        cases hfc : lsem P lo (Builtin.firstCells info.size n x) Hx with
        | none => rw [hfc] at hl; cases hl
        | some r =>
        obtain ⟨new, Hy⟩ := r
        have eH := (ReadR.firstCells hvx Hx w hE new Hy hfc).1
        subst eH
        rw [hfc] at hl
        simp only at hl
        have hA : Reads P π Hy new (Builtin.firstCells info.size n x') := fun w1 hE1 => (ReadR.firstCells hvx Hy w1 hE1 new Hy hfc).2
        rw [append_start' (args := ⟨[.slice base' sLen sCap', x']⟩) h0 h1 rfl rfl h4 h5 hint h7 w hrunlen hn hsl hby]
        exact lgrow_sim hE h7 hsz hvs hA hl
    · cases hl
  · cases hl
end
end Go.Proofs.YtdnccdobnhbpeaaDoor.Ev

namespace Go.Proofs.YtdnccdobnhbpeaaDoor.Ev
open Go
set_option linter.unusedVariables false
section
variable {P : Program} {lo : Bar} {π : Pl}
inductive PlaceR (π : Pl) : Place → Place → Prop
  | val {v v' : Value} (h : VR π v v') : PlaceR π (.val v) (.val v')
  | var {a a' : Addr} (h : AddrR π a a') : PlaceR π (.var a) (.var a')
theorem PlaceR.mono {π π' : Pl} (h : π.le π') {x y : Place} (r : PlaceR π x y) : PlaceR π' x y := by
  cases r with
  | val hv => exact .val (hv.mono h)
  | var ha => exact .var (ha.mono h)
theorem SemR.placeGet {t : TypeId} {x y : Place} (h : PlaceR π x y) : SemR P lo π (x.get t) (y.get t) VR := by
  cases h with
  | val hv => exact SemR.pure' fun _ hl => hv.mono hl
  | var ha => exact SemR.loadVar ha
theorem SemR.follow : ∀ (l : List FieldStep) (t : TypeId) {π : Pl} {x y : Place}, PlaceR π x y → SemR P lo π (Go.follow l t x) (Go.follow l t y) (fun π a b => a.1 = b.1 ∧ PlaceR π a.2 b.2) := by
  intro l
  induction l with
  | nil => intro t π x y h; exact SemR.pure' fun _ hl => ⟨rfl, h.mono hl⟩
  | cons s rest ih =>
    intro t π x y h
    unfold Go.follow
    refine SemR.bind SemR.underlying fun π1 hl1 d d' hd => ?_
    obtain ⟨rfl, hu⟩ := hd
    cases d <;> try exact SemR.stuck
    rename_i fields
    simp only
    cases hf : fields[s.index]? with
    | none => exact SemR.stuck
    | some f =>
      simp only
      split
      · refine SemR.bind (SemR.placeGet (h.mono hl1)) fun π2 hl2 v v' hv => ?_
        refine SemR.bind (SemR.asAddr hv) fun π3 hl3 a a' ha => ?_
        refine SemR.bind (SemR.fieldPlace ha) fun π4 hl4 b b' hb => ?_
        exact ih f.type (.var hb)
      · cases h with
        | var ha =>
          refine SemR.bind (SemR.fieldPlace (ha.mono hl1)) fun π4 hl4 b b' hb => ?_
          exact ih f.type (.var hb)
        | val hv =>
          have hv1 := hv.mono hl1
          cases hv1 <;> try exact SemR.stuck
          rename_i cs cs' h1 h2
          refine SemR.bind (SemR.part (AR.mk h1 h2) _) fun π4 hl4 b b' hb => ?_
          exact ih f.type (.val hb)
theorem SemR.wrapNilChk {ts : Array TypeId} {t : TypeId} {v v' : Value} (h : VR π v v') (s1 s2 : String) : SemR P lo π (Builtin.ssaWrapNilChk_ ts t #[v, strVal s1, strVal s2]) (Builtin.ssaWrapNilChk_ ts t #[v', strVal s1, strVal s2]) VR := by
  cases h <;> try exact SemR.stuck
  · -- a nil pointer never ends well
    refine SemR.never ?_
    unfold Builtin.ssaWrapNilChk_
    refine never_head ?_
    intro H
    rfl
  · rename_i hb
    exact SemR.pure' fun _ hl => .ptr (hl _ _ hb)
theorem SemR.receiverAt {xt : TypeId} {x y : Place} (h : PlaceR π x y) (pr : Bool) (w : Option String) : SemR P lo π (Go.receiverAt xt x pr w) (Go.receiverAt xt y pr w) VR := by
  unfold Go.receiverAt
  refine SemR.bind SemR.underlying fun π1 hl1 d d' hd => ?_
  obtain ⟨rfl, hu⟩ := hd
  have h' := h.mono hl1
  have tail : ∀ {π2 : Pl} (elem : TypeId) {p p' : Value}, VR π2 p p' → SemR P lo π2 (do Go.loadVar elem (← Go.asAddr p)) (do Go.loadVar elem (← Go.asAddr p')) VR := by
    intro π2 elem p p' hp
    exact SemR.bind (SemR.asAddr hp) fun π3 hl3 a a' ha => SemR.loadVar ha
  have ptr : ∀ elem : TypeId, SemR P lo π1
      (do
        let ptr ← x.get xt
        let ptr ← match w with
          | some name => Builtin.ssaWrapNilChk_ #[xt] xt #[ptr, strVal "", strVal name]
          | none => Pure.pure ptr
        Go.loadVar elem (← Go.asAddr ptr))
      (do
        let ptr ← y.get xt
        let ptr ← match w with
          | some name => Builtin.ssaWrapNilChk_ #[xt] xt #[ptr, strVal "", strVal name]
          | none => Pure.pure ptr
        Go.loadVar elem (← Go.asAddr ptr)) VR := by
    intro elem
    refine SemR.bind (SemR.placeGet h') fun π2 hl2 v v' hv => ?_
    cases w with
    | none => exact tail elem hv
    | some name =>
      refine SemR.bind (SemR.wrapNilChk hv "" name) fun π3 hl3 p p' hp => ?_
      exact tail elem hp
  cases pr with
  | true =>
    cases d with
    | pointer e => exact SemR.placeGet h'
    | _ => cases h' with
      | val hv => exact SemR.stuck
      | var ha => exact SemR.pure' fun _ hl => (ha.mono hl).ptr
  | false =>
    cases d with
    | pointer e => exact ptr e
    | _ => exact SemR.placeGet h'
theorem SemR.receiverVia {t : TypeId} {v v' : Value} (h : VR π v v') (p : Array FieldStep) (b : Bool) : SemR P lo π (Go.receiverVia t v p b) (Go.receiverVia t v' p b) VR := by
  unfold Go.receiverVia
  refine SemR.bind (SemR.follow _ _ (.val h)) fun π1 hl1 x y hxy => ?_
  obtain ⟨xt, x⟩ := x
  obtain ⟨yt, y⟩ := y
  simp only at hxy
  obtain ⟨rfl, hp⟩ := hxy
  exact SemR.receiverAt hp _ _
theorem SemR.method : ∀ (n : Nat) {π : Pl} (t : TypeId) {v v' : Value} (h : VR π v v') (name : String), SemR P lo π (Go.method n t v name) (Go.method n t v' name) (fun π a b => a.1 = b.1 ∧ VR π a.2 b.2) := by
  intro n
  induction n with
  | zero => intro π t v v' h name; exact SemR.unsupported
  | succ n ih =>
    intro π t v v' h name
    unfold Go.method
    refine SemR.bind SemR.typeInfo fun π1 hl1 i i' hi => ?_
    obtain ⟨rfl, hi⟩ := hi
    cases hm : i.methods.find? (·.name == name) with
    | none => exact SemR.stuck
    | some m =>
      simp only
      refine SemR.bind (SemR.follow _ _ (.val (h.mono hl1))) fun π2 hl2 x y hxy => ?_
      obtain ⟨xt, x⟩ := x
      obtain ⟨yt, y⟩ := y
      simp only at hxy
      obtain ⟨rfl, hp⟩ := hxy
      simp only
      cases hf : m.func with
      | none =>
        simp only
        refine SemR.bind (SemR.placeGet hp) fun π3 hl3 p p' hpp => ?_
        cases hpp <;> try exact SemR.stuck
        · rename_i t0 w w' hw
          exact ih t0 hw name
        · exact SemR.runtimePanic
      | some fp =>
        obtain ⟨f, pr⟩ := fp
        simp only
        refine SemR.bind (SemR.receiverAt hp _ _) fun π3 hl3 p p' hpp => ?_
        exact SemR.pure' fun _ hl => ⟨rfl, hpp.mono hl⟩
end
end Go.Proofs.YtdnccdobnhbpeaaDoor.Ev

namespace Go.Proofs.YtdnccdobnhbpeaaDoor.Ev
open Go
set_option linter.unusedVariables false
section
variable {P : Program} {lo : Bar} {π : Pl}

theorem operandsL_eq (op : Op) : operandsL op = op.operands.toList := by
  cases op <;> simp [operandsL, Op.operands, Call.operands]
  case call c => cases c.callee <;> simp
  case go c => cases c.callee <;> simp
  case defer c => cases c.callee <;> simp
theorem mem_operandsL {op : Op} {x : Operand} : x ∈ operandsL op ↔ x ∈ op.operands := by rw [operandsL_eq, Array.mem_toList_iff]

/-- What an operation needs nothing of memory for. -/
theorem quietS_run {α : Type} : ∀ (s : Sem α) (a : α), quietS P s = some a → (∀ w, s.run P w = .ok a w) ∧ ∀ H, lsem P lo s H = some (a, H) := by
  intro s
  induction s with
  | pure x => intro a h; cases h; exact ⟨fun _ => rfl, fun _ => rfl⟩
  | program k ih => intro a h; exact ih P a h
  | mark m k ih => intro a h; exact ih a h
  | _ => intro a h; cases h

/-- What a run of an operation comes to. -/
def Does (P : Program) (lo : Bar) (π : Pl) (H : Heap) (w : World) (n : Next) (H' : Heap) (r : Result Next) : Prop :=
  ∃ π' n' w', r = .ok n' w' ∧ Emb P π' H' w' ∧ NextR π' n n' ∧ Keep lo H π w H' π' w'
theorem SemR.does {s s' : Sem Next} (h : SemR P lo π s s' NextR) {H H' : Heap} {w : World} (hE : Emb P π H w) {n : Next} (hl : lsem P lo s H = some (n, H')) : Does P lo π H w n H' (s'.run P w) := by
  obtain ⟨π', n', w', a, b, c, d⟩ := h π (Pl.le_refl _) H w hE n H' hl
  exact ⟨π', n', w', a, b, c, d⟩
theorem SemR.val {s s' : Sem Value} (h : SemR P lo π s s' VR) : SemR P lo π (do Pure.pure (Next.value (← s))) (do Pure.pure (Next.value (← s'))) NextR :=
  SemR.bind h fun π1 hl1 a b hab => SemR.pure' fun _ hl => .value (hab.mono hl)
theorem SemR.unit {s s' : Sem Unit} (h : SemR P lo π s s' fun _ _ _ => True) : SemR P lo π (do s; Pure.pure Next.skip) (do s'; Pure.pure Next.skip) NextR :=
  SemR.bind h fun π1 hl1 a b hab => SemR.pure' fun _ hl => .skip

section
variable {ev ev' : Operand → Value} {o : Oper}
theorem PR.of (ps : Array (Nat × Operand)) (h : ∀ x ∈ ps.toList.map (·.2), VR π (ev x) (ev' x)) : PR π (ps.map fun (i, x) => (i, ev x)).toList (ps.map fun (i, x) => (i, ev' x)).toList := by
  refine ⟨by simp, fun i a b => ?_⟩
  simp only [Array.toList_map, List.getElem_map]
  have hi : i < ps.toList.length := by simpa using a
  refine ⟨trivial, h _ ?_⟩
  exact List.mem_map.2 ⟨_, List.getElem_mem hi, rfl⟩
theorem AR.of (xs : Array Operand) (h : ∀ x ∈ xs.toList, VR π (ev x) (ev' x)) : AR π (xs.map ev) (xs.map ev') := AR.map xs fun x hx => h x (by simpa using hx)
theorem OR.of (x : Option Operand) (h : ∀ y ∈ x.toList, VR π (ev y) (ev' y)) : OR π (x.map ev) (x.map ev') := by
  cases x with
  | none => exact .none
  | some y => exact .some (h y (by simp))

/-- The operations that may be done as they stand. -/
theorem SemR.exec (ha : allowed o.op = true) (hz : opZeros P o.op = true) (hv : ∀ x ∈ operandsL o.op, VR π (ev x) (ev' x)) : SemR P lo π (execOp ev o) (execOp ev' o) NextR := by
  obtain ⟨dst, op, type, pos, after, guard⟩ := o
  simp only at ha hz hv
  cases op <;> first | (exfalso; simp [allowed] at ha; done) | skip
  all_goals simp only [execOp]
  all_goals simp only [operandsL] at hv
  case move x => exact SemR.pure' fun _ hl => .value ((hv x (by simp)).mono hl)
  case assign x => exact SemR.pure' fun _ hl => .value ((hv x (by simp)).mono hl)
  case pick c a b =>
    refine SemR.bind (SemR.asBool (hv c (by simp))) fun π1 hl1 x y hxy => ?_
    cases hxy
    refine SemR.pure' fun _ hl => .value ?_
    split
    · exact ((hv a (by simp)).mono hl1).mono hl
    · exact ((hv b (by simp)).mono hl1).mono hl
  case alloc e => exact SemR.val (SemR.alloc hz)
  case box e x => exact SemR.val (SemR.box (hv x (by simp)))
  case build t ps => exact SemR.val (SemR.build hz (PR.of ps hv))
  case buildSlice t n ps =>
    refine SemR.val (SemR.buildSlice (fun e he => ?_) (PR.of ps hv))
    simp only [opZeros, he] at hz
    exact hz
  case load t a => exact SemR.val (SemR.loadAt (hv a (by simp)))
  case store t a x => exact SemR.unit (SemR.storeAt (hv a (by simp)) (hv x (by simp)))
  case makeInterface t x => exact SemR.val (SemR.makeInterface (hv x (by simp)))
  case makeFunc fn xs ys =>
    have hf : FnR π fn fn := by
      cases fn with
      | yield l => simp [allowed] at ha
      | _ => constructor
    exact SemR.val (SemR.makeFunc hf (AR.of xs fun x hx => hv x (by simp [hx])) (AR.of ys fun x hx => hv x (by simp [hx])))
  case makeMap t r => exact SemR.val (SemR.makeMap (OR.of r hv))
  case makeSlice t l c =>
    refine SemR.val (SemR.makeSlice (fun e he => ?_) (hv l (by simp)) (hv c (by simp)))
    simp only [opZeros, he] at hz
    exact hz
  case fieldAddr t x f => exact SemR.val (SemR.fieldAt (hv x (by simp)) f)
  case field t x f => exact SemR.val (SemR.field (hv x (by simp)) f)
  case indexAddr t x i => exact SemR.val (SemR.indexAt (hv x (by simp)) (hv i (by simp)))
  case index t x i => exact SemR.val (SemR.index (hv x (by simp)) (hv i (by simp)))
  case typeAssert x t a ok => exact SemR.val (SemR.typeAssert hz (hv x (by simp)))
  case extract x i => exact SemR.val (SemR.extract (hv x (by simp)) i)
end

/-! ## Calls -/
theorem bodied_spec {f : FuncId} (h : bodied P f = true) : ∃ fn body, P.funcs[f]? = some fn ∧ fn.body = some body ∧ fn.name ≠ "runtime.NumGoroutine" := by
  unfold bodied at h
  cases hf : P.funcs[f]? with
  | none => rw [hf] at h; cases h
  | some fn =>
    rw [hf] at h
    simp only [Bool.and_eq_true, bne_iff_ne, ne_eq] at h
    obtain ⟨body, hb⟩ := Option.isSome_iff_exists.1 h.1
    exact ⟨fn, body, rfl, hb, h.2⟩
theorem run_callFunc {f : FuncId} (h : bodied P f = true) (args : Array Value) (w : World) : (callFunc f args).run P w = .ok (.enter f args) w := by
  obtain ⟨fn, body, h1, h2, h3⟩ := bodied_spec h
  unfold callFunc
  rw [Sem.run_bind, run_program, Result.andThen_ok]
  simp only [h1]
  have h4 : (fn.name == "runtime.NumGoroutine") = false := by simpa using h3
  simp only [h4, Bool.false_eq_true, if_false, h2, Option.isNone_some]
  rfl
theorem LR.arr {l l' : List Value} (h : LR π l l') : AR π ⟨l⟩ ⟨l'⟩ := h.array
theorem LR.append : ∀ {a a' b b' : List Value}, LR π a a' → LR π b b' → LR π (a ++ b) (a' ++ b')
  | [], [], _, _, _, h => h
  | [], _ :: _, _, _, h, _ => by simp [LR] at h
  | _ :: _, [], _, _, h, _ => by simp [LR] at h
  | x :: a, y :: a', b, b', h, h' => LR.cons h.tail.1 (LR.append h.tail.2 h')
theorem LR.nil : LR π [] [] := ⟨rfl, fun i a => by simp at a⟩
theorem LR.of {ev ev' : Operand → Value} (xs : List Operand) (h : ∀ x ∈ xs, VR π (ev x) (ev' x)) : LR π (xs.map ev) (xs.map ev') := by
  induction xs with
  | nil => exact LR.nil
  | cons x xs ih => exact LR.cons (h x (by simp)) (ih fun y hy => h y (by simp [hy]))

theorem cons_arr (x : Value) (l : List Value) : (#[x] ++ (⟨l⟩ : Array Value)) = ⟨x :: l⟩ := by apply Array.ext'; simp
theorem tail_arr (x : Value) (l : List Value) : (⟨x :: l⟩ : Array Value).extract 1 (⟨x :: l⟩ : Array Value).size = ⟨l⟩ := by apply Array.ext'; simp
theorem LR.cons_left {x : Value} {l l' : List Value} (h : LR π (x :: l) l') : ∃ y m, l' = y :: m ∧ VR π x y ∧ LR π l m := by
  cases l' with
  | nil => simp [LR] at h
  | cons y m => exact ⟨y, m, rfl, h.tail.1, h.tail.2⟩

theorem lmethod_sim {H H' : Heap} {w : World} (hE : Emb P π H w) {recv recv' : Value} (hr : VR π recv recv') {name : String} {args args' : List Value} (ha : LR π args args') {n : Next} (hl : lmethod P lo recv name args H = some (n, H')) :
    Does P lo π H w n H' ((callMethod recv' name ⟨args'⟩).run P w) := by
  unfold lmethod at hl
  cases hr with
  | @iface t v v' hv =>
    simp only at hl
    cases hm : lsem P lo (method (P.types.size + Made.depth) t v name) H with
    | none => rw [hm] at hl; cases hl
    | some r =>
      obtain ⟨⟨f, rc⟩, H1⟩ := r
      rw [hm] at hl
      simp only at hl
      split at hl
      · rename_i hb
        cases hl
        obtain ⟨π', fr, w', e1, e2, e3, e4⟩ := SemR.method (P := P) (lo := lo) _ t hv name π (Pl.le_refl _) H w hE _ _ hm
        obtain ⟨f', rc'⟩ := fr
        simp only at e3
        obtain ⟨rfl, hrc⟩ := e3
        refine ⟨π', .enter f ⟨rc' :: args'⟩, w', ?_, e2, .enter f (LR.cons hrc (ha.mono e4.le)).arr, e4⟩
        unfold callMethod
        simp only
        rw [Sem.run_bind, run_program, Result.andThen_ok, Sem.run_bind, e1, Result.andThen_ok]
        simp only
        rw [run_callFunc hb, cons_arr]
      · cases hl
  | _ => cases hl
theorem linvoke_sim {H H' : Heap} {w : World} (hE : Emb P π H w) {fn fn' : Fn} {cs cs' : Array Value} (hf : FnR π fn fn') (hc : AR π cs cs') {args args' : List Value} (ha : LR π args args') {n : Next} (hl : linvoke P lo (.fn fn cs) args H = some (n, H')) :
    Does P lo π H w n H' ((invoke (.fn fn' cs') ⟨args'⟩).run P w) := by
  cases hf with
  | func f =>
    simp only [linvoke] at hl
    split at hl
    · rename_i hb
      cases hl
      refine ⟨π, .enter f (⟨args'⟩ ++ cs'), w, ?_, hE, .enter f ?_, .refl⟩
      · unfold invoke; exact run_callFunc hb _ w
      · have := ha.arr.append hc
        have e : (⟨args⟩ ++ cs : Array Value) = ⟨args ++ cs.toList⟩ := by apply Array.ext'; simp
        rw [e] at this
        exact this
    · cases hl
  | yield hk =>
    simp only [linvoke] at hl
    unfold invoke
    exact (SemR.yield hk ha.arr).does hE hl
  | method name =>
    simp only [linvoke] at hl
    cases args with
    | nil => cases hl
    | cons r args =>
      obtain ⟨r', rest', rfl, hr, hrest⟩ := ha.cons_left
      have := lmethod_sim hE hr hrest hl
      unfold invoke
      simp only [List.getElem?_toArray, List.getElem?_cons_zero]
      rw [tail_arr]
      exact this
  | methodOf t name =>
    simp only [linvoke] at hl
    cases args with
    | nil => cases hl
    | cons r args =>
      obtain ⟨r', rest', rfl, hr, hrest⟩ := ha.cons_left
      cases hu : P.underlying t with
      | none => rw [hu] at hl; cases hl
      | some d =>
        have main : ∀ d, P.underlying t = some d → ∀ x x' : Value, VR π x x' → lmethod P lo x name args H = some (n, H') → (match d with | TypeDesc.interface _ => r' | _ => Value.iface t r') = x' → Does P lo π H w n H' ((invoke (.fn (.methodOf t name) cs') ⟨r' :: rest'⟩).run P w) := by
          intro d hd x x' hx hm he
          have := lmethod_sim hE hx hrest hm
          unfold invoke
          simp only [List.getElem?_toArray, List.getElem?_cons_zero]
          rw [Sem.run_bind, run_und hd, Result.andThen_ok, tail_arr]
          cases d <;> (simp only at he; subst he; exact this)
        rw [hu] at hl
        cases d with
        | interface ms => exact main _ hu r r' hr hl rfl
        | _ => exact main _ hu (.iface t r) (.iface t r') (.iface t hr) hl rfl
  | via t p f b =>
    simp only [linvoke] at hl
    cases args with
    | nil => cases hl
    | cons r args =>
      obtain ⟨r', rest', rfl, hr, hrest⟩ := ha.cons_left
      simp only at hl
      cases hm : lsem P lo (receiverVia t r p b) H with
      | none => rw [hm] at hl; cases hl
      | some q =>
        obtain ⟨rc, H1⟩ := q
        rw [hm] at hl
        simp only at hl
        split at hl
        · rename_i hb
          cases hl
          obtain ⟨π', rc', w', e1, e2, e3, e4⟩ := SemR.receiverVia (P := P) (lo := lo) hr p b π (Pl.le_refl _) H w hE _ _ hm
          refine ⟨π', .enter f ⟨rc' :: rest'⟩, w', ?_, e2, .enter f (LR.cons e3 (hrest.mono e4.le)).arr, e4⟩
          unfold invoke
          simp only [List.getElem?_toArray, List.getElem?_cons_zero]
          rw [Sem.run_bind, e1, Result.andThen_ok, tail_arr, run_callFunc hb, cons_arr]
        · cases hl

theorem lcap_sim {H H' : Heap} {w : World} (hE : Emb P π H w) {ts : Array TypeId} {ty : TypeId} {args args' : List Value} (ha : LR π args args') {v : Value} (hl : lcap P ts args H = some (v, H')) :
    H' = H ∧ ∃ v', (Builtin.cap_ ts ty ⟨args'⟩).run P w = .ok v' w ∧ VR π v v' := by
  unfold lcap at hl
  split at hl
  · rename_i t base l c hts
    have h0 : ts[0]? = some t := by have := congrArg (fun l => l[0]?) hts; simpa using this
    match args', ha with
    | [s'], ha =>
    have hv := ha.tail.1
    split at hl
    · rename_i e hu
      have run : ∀ b c', (Builtin.cap_ ts ty ⟨[.slice b l c']⟩).run P w = .ok (Go.goInt c') w := by
        intro b c'
        unfold Builtin.cap_
        simp only [h0, List.getElem?_toArray, List.getElem?_cons_zero]
        rw [Sem.run_bind, run_und hu]
        rfl
      cases hv with
      | snil _ _ =>
        simp only [Option.some.injEq, Prod.mk.injEq] at hl
        obtain ⟨rfl, rfl⟩ := hl
        exact ⟨rfl, _, run _ _, .int _ _⟩
      | @sl b k m off spot _ _ hk =>
        simp only at hl
        split at hl
        · rename_i c2 e2 f2 hg
          simp only [Option.some.injEq, Prod.mk.injEq] at hl
          obtain ⟨rfl, rfl⟩ := hl
          obtain ⟨k', m', o', h1, h2, h3⟩ := hE.blk _ _ hg
          rw [hk] at h1
          cases h1
          cases h3 <;> exact ⟨rfl, _, run _ _, .int _ _⟩
        · cases hl
    · cases hl
  · cases hl
theorem bytesL_run {w : World} {k : Nat} : ∀ (l : List Value) (off : Nat) (r : List UInt8) (acc : ByteArray), bytesL l = some r → (∀ i v, l[i]? = some v → w.cell? ⟨k, off + i, none⟩ = some v) →
    (Go.loadBytes ⟨k, off, none⟩ acc l.length).run P w = .ok ⟨acc.data ++ r.toArray⟩ w := by
  intro l
  induction l with
  | nil =>
    intro off r acc h hc
    cases h
    show Result.ok acc w = _
    simp
  | cons v l ih =>
    intro off r acc h hc
    cases v <;> (try (cases h; done))
    rename_i kd n
    cases kd <;> (try (cases h; done))
    cases n with
    | negSucc _ => cases h
    | ofNat b =>
      simp only [bytesL] at h
      cases hl : bytesL l with
      | none => rw [hl] at h; cases h
      | some r' =>
        rw [hl] at h
        cases h
        have h0 := hc 0 _ rfl
        simp only [Nat.add_zero] at h0
        have ih' := ih (off + 1) r' (acc.push b.toUInt8) hl (fun i v hv => by
          have := hc (i + 1) v (by simpa using hv)
          rw [show off + 1 + i = off + (i + 1) by omega]
          exact this)
        simp only [List.length_cons, Go.loadBytes]
        rw [Sem.run_bind]
        have hload : (Go.load ⟨k, off, none⟩).run P w = .ok (.int .u8 (.ofNat b)) w := by simp [h0]
        rw [hload]
        simp only [Result.andThen_ok]
        have ha : (⟨k, off, none⟩ : Addr).add 1 = ⟨k, off + 1, none⟩ := by unfold Addr.add; split <;> simp_all
        rw [ha]
        have hb : (Int.ofNat b).toNat.toUInt8 = b.toUInt8 := rfl
        rw [hb, ih']
        congr 2
        simp [ByteArray.push]
theorem Emb.freeze {H : Heap} {w : World} (hE : Emb P π H w) {b k m : Nat} {o : Obj} (hg : H.get b = some o) (hk : π b = some (k, m)) (hb : lo.ok b = true) (off n : Nat) :
    Emb P π (H.set b none) (w.freeze ⟨k, off, none⟩ n) ∧ Keep lo H π w (H.set b none) π (w.freeze ⟨k, off, none⟩ n) := by
  have hset := Heap.get_set hE.small (Heap.get_lt hg) none
  have hw : ∀ j, j ≠ k → (w.freeze ⟨k, off, none⟩ n).heap[j]? = w.heap[j]? := by
    intro j hj
    unfold World.freeze
    split
    · rfl
    · simp only [Array.getElem?_modify]
      rw [if_neg (fun e => hj e.symm)]
  have hsz : (w.freeze ⟨k, off, none⟩ n).heap.size = w.heap.size := by unfold World.freeze; split <;> simp
  have h1 : (w.freeze ⟨k, off, none⟩ n).os = w.os := by unfold World.freeze; split <;> rfl
  have h2 : (w.freeze ⟨k, off, none⟩ n).tape = w.tape := by unfold World.freeze; split <;> rfl
  have h3 : (w.freeze ⟨k, off, none⟩ n).output = w.output := by unfold World.freeze; split <;> rfl
  refine ⟨⟨by unfold Heap.small; rw [Heap.set_size]; exact hE.small, ?_, ?_, fun i hi => hE.fresh i (by rwa [Heap.set_size] at hi), fun i k1 m1 hi => by rw [hsz]; exact hE.range i k1 m1 hi⟩, ⟨h1, h2, h3, by rw [hsz]; exact Nat.le_refl _, by rw [Heap.set_size]; exact Nat.le_refl _, ?_, ?_, Pl.le_refl _, fun _ _ => rfl⟩⟩
  · intro j oj hj
    rw [hset] at hj
    split at hj
    · cases hj
    · rename_i hne
      obtain ⟨k1, m1, o1, a1, a2, a3⟩ := hE.blk j oj hj
      have : k1 ≠ k := fun e => hne (hE.inj j b oj o k m1 m hj hg (e ▸ a1) hk)
      exact ⟨k1, m1, o1, a1, by rw [hw _ this]; exact a2, a3⟩
  · intro i j oi oj k1 m1 m2 hi hj a1 a2
    rw [hset] at hi hj
    split at hi
    · cases hi
    · split at hj
      · cases hj
      · exact hE.inj i j oi oj k1 m1 m2 hi hj a1 a2
  · intro j hj hn
    refine hw j ?_
    rintro rfl
    exact hn b o m hb hg hk
  · intro i oi k1 m1 hbi hi a1
    rw [hset] at hi
    split at hi
    · cases hi
    · exact .inr ⟨i, oi, m1, hbi, hi, a1⟩
theorem lies_run {w : World} {k off n : Nat} {e u : TypeId} {c : Array Value} {fz : Nat × Nat} (hw : w.heap[k]? = some (.cells c e fz)) (h1 : P.cellsOf e = 1) (h2 : off + n ≤ c.size) (h3 : Go.sameLayout P P.depth e u = true) :
    (Go.variablesAt ⟨k, off, none⟩ u n).run P w = .ok true w := by
  have hd : P.depth = (2 * (P.types.size + Made.depth) + 1) + 1 := rfl
  have hrow : Go.rowAt P (Go.sameLayout P P.depth · u) P.depth e (c.size / 1) off n = true := by
    rw [hd]
    unfold Go.rowAt
    simp only [h1, Nat.div_one, Nat.mod_one]
    rw [← hd, h3]
    simp [h2]
  have hl : Go.liesAt P P.depth e (c.size / 1) off u n = true := by
    rw [hd]
    unfold Go.liesAt
    rw [hrow]
    rfl
  unfold Go.variablesAt
  rw [Sem.run_bind]
  show (match w.shape? k with | some (e, cells) => (Pure.pure (Go.liesAt P P.depth e (cells / P.cellsOf e) off u n) : Sem Bool) | none => Pure.pure false).run P w = _
  have hs : w.shape? k = some (e, c.size) := by simp [World.shape?, hw]
  rw [hs]
  simp only [h1]
  rw [hl]
  rfl
theorem asInt_run {kd : IntKind} {i : Int} {w : World} : (Go.asInt (.int kd i)).run P w = .ok i w := rfl
theorem string_zero {ts : Array TypeId} {ty pt : TypeId} {kd : IntKind} {p : Option Addr} {w : World} (h0 : ts[0]? = some pt) :
    (Builtin.unsafeString_ ts ty ⟨[.pointer p, .int kd 0]⟩).run P w = .ok (.string .empty) w := by
  unfold Builtin.unsafeString_
  change (Go.asInt (.int kd 0) >>= fun n => _).run P w = _
  rw [Sem.run_bind, asInt_run]
  simp only [Result.andThen_ok, h0]
  rw [if_neg (by omega), if_neg (by decide)]
  cases p <;> rfl
theorem string_some {ts : Array TypeId} {ty pt u : TypeId} {kd : IntKind} {n : Nat} {a : Addr} {s : ByteArray} {w : World} (h0 : ts[0]? = some pt) (hu : P.underlying pt = some (.pointer u)) (hn : n ≤ 1048576) (hn0 : n ≠ 0)
    (hv : (Go.variablesAt a u n).run P w = .ok true w) (hl : (Go.loadBytes a .empty n).run P w = .ok s w) :
    (Builtin.unsafeString_ ts ty ⟨[.pointer (some a), .int kd (.ofNat n)]⟩).run P w = .ok (.string s) (w.freeze a n) := by
  unfold Builtin.unsafeString_
  change (Go.asInt (.int kd (.ofNat n)) >>= fun n => _).run P w = _
  rw [Sem.run_bind, asInt_run]
  simp only [Result.andThen_ok, h0]
  have e0 : (Int.ofNat n).toNat = n := rfl
  have e2 : ¬ (Int.ofNat n > IntKind.i64.max) := by
    have : IntKind.i64.max = 9223372036854775807 := by decide
    rw [this]
    have : (Int.ofNat n) = (n : Int) := rfl
    omega
  have e3 : ¬ (Int.ofNat n = 0) := by
    have : (Int.ofNat n) = (n : Int) := rfl
    omega
  rw [if_neg (by have : (Int.ofNat n) = (n : Int) := rfl; omega), if_neg e2, if_neg e3]
  have he : (Go.elemOf pt).run P w = .ok u w := by
    unfold Go.elemOf
    rw [Sem.run_bind, run_und hu]
    rfl
  rw [Sem.run_bind, he]
  simp only [Result.andThen_ok]
  rw [Sem.run_bind, e0, hv]
  simp only [Result.andThen_ok, if_true]
  rw [Sem.run_bind, hl]
  rfl
theorem lview_sim {H H' : Heap} {w : World} (hE : Emb P π H w) {ts : Array TypeId} {ty pt u : TypeId} {kd : IntKind} {n b off k m : Nat} {spot : Option Nat} {cs : Array Value} {e : TypeId} {o : Obj} (ho : H.get b = some o) (hk : π b = some (k, m))
    (h0 : ts[0]? = some pt) (hu : P.underlying pt = some (.pointer u)) (hn : n ≤ 1048576) (hn0 : n ≠ 0)
    (hw : ∃ c' fz, w.heap[k]? = some (.cells c' e fz) ∧ cs.size ≤ c'.size) (hc : ∀ i v, cs[i]? = some v → H.cell ⟨b, i, none⟩ = some v)
    {v : Value} (hl : lview P lo u ⟨b, off, spot⟩ n cs.toList e H = some (v, H')) :
    ∃ w', (Builtin.unsafeString_ ts ty ⟨[.pointer (some ⟨k, off, spot⟩), .int kd (.ofNat n)]⟩).run P w = .ok v w' ∧ Emb P π H' w' ∧ VR π v v ∧ Keep lo H π w H' π w' := by
  unfold lview at hl
  cases hcond : lo.ok b && spot.isNone && Nat.beq (P.cellsOf e) 1 && Nat.ble (off + n) cs.toList.length && Go.sameLayout P P.depth e u with
  | false => simp only [hcond, cond_false] at hl; cases hl
  | true =>
    simp only [hcond, cond_true] at hl
    simp only [Bool.and_eq_true] at hcond
    obtain ⟨⟨⟨⟨c1, c2⟩, c3⟩, c4⟩, c5⟩ := hcond
    have c2 : spot = none := by cases spot with | none => rfl | some _ => simp at c2
    subst c2
    have c3 : P.cellsOf e = 1 := eq_of_beq c3
    have c4 : off + n ≤ cs.size := by simpa using le_of_ble c4
    split at hl
    · rename_i l hb
      cases hl
      obtain ⟨c', fz, hw1, hw2⟩ := hw
      have hlen : ((cs.toList.drop off).take n).length = n := by simp; omega
      have hcell : ∀ i v, ((cs.toList.drop off).take n)[i]? = some v → w.cell? ⟨k, off + i, none⟩ = some v := by
        intro i v hi
        have hin : i < n := by
          have := (List.getElem?_eq_some_iff.1 hi).1
          omega
        rw [List.getElem?_take, if_pos hin, List.getElem?_drop] at hi
        obtain ⟨v', a1, a2⟩ := hE.cell (hc (off + i) v (by simpa using hi)) hk
        have hint : ∃ x, v = .int .u8 x := by
          have hmem : v ∈ (cs.toList.drop off).take n := List.mem_of_getElem? (i := i) (by rw [List.getElem?_take, if_pos hin, List.getElem?_drop]; exact hi)
          clear hlen
          revert hmem
          generalize (cs.toList.drop off).take n = L at hb
          clear hi
          induction L generalizing l with
          | nil => intro hm; simp at hm
          | cons y L ih =>
            intro hm
            cases y <;> (try (cases hb; done))
            rename_i kd x
            cases kd <;> (try (cases hb; done))
            cases x with
            | negSucc _ => cases hb
            | ofNat x =>
              simp only [bytesL] at hb
              cases hL : bytesL L with
              | none => rw [hL] at hb; cases hb
              | some r =>
                rcases List.mem_cons.1 hm with h | h
                · exact ⟨_, h⟩
                · exact ih _ hL h
        obtain ⟨x, rfl⟩ := hint
        cases a2
        exact a1
      have hload := bytesL_run (P := P) (w := w) (k := k) _ off l .empty hb hcell
      rw [hlen] at hload
      have hs := string_some (P := P) (ty := ty) (kd := kd) h0 hu hn hn0 (lies_run hw1 c3 (by omega) c5) hload
      obtain ⟨a1, a2⟩ := Emb.freeze (lo := lo) hE ho hk c1 off n
      refine ⟨_, ?_, a1, .string _, a2⟩
      rw [hs]
      congr 2
      simp
    · cases hl
theorem lstring_sim {H H' : Heap} {w : World} (hE : Emb P π H w) {ts : Array TypeId} {ty : TypeId} {args args' : List Value} (ha : LR π args args') {v : Value} (hl : lstring P lo ts args H = some (v, H')) :
    ∃ w', (Builtin.unsafeString_ ts ty ⟨args'⟩).run P w = .ok v w' ∧ Emb P π H' w' ∧ VR π v v ∧ Keep lo H π w H' π w' := by
  unfold lstring at hl
  split at hl
  · rename_i pt tail p kd n hts
    have h0 : ts[0]? = some pt := by have := congrArg (fun l => l[0]?) hts; simpa using this
    match args', ha with
    | [p', n'], ha =>
    have hp := ha.tail.1
    have hn := ha.tail.2.tail.1
    cases hn
    split at hl
    · rename_i u hu
      split at hl
      · cases hl
        refine ⟨w, ?_, hE, .string _, .refl⟩
        cases hp <;> exact string_zero h0
      · rename_i n2 nn hx2
        split at hl
        · cases hl
        · rename_i a
          cases hp with
          | @ptr b k m off spot hk =>
          cases hble : Nat.ble (nn + 1) 1048576 with
          | false => rw [hble] at hl; cases hl
          | true =>
          rw [hble] at hl
          simp only [cond_true] at hl
          have hn := le_of_ble hble
          split at hl
          · rename_i cs e hg
            obtain ⟨k', m', o', h1, h2, h3⟩ := hE.blk _ _ hg
            rw [hk] at h1
            cases h1
            cases h3 with
            | @grown _ _ c' _ i hi hs hr => exact lview_sim hE hg hk h0 hu hn (by omega) ⟨c', _, h2, by omega⟩ (fun i v hv => by simp [Heap.cell, hg, hv]) hl
          · rename_i cs e hg
            obtain ⟨k', m', o', h1, h2, h3⟩ := hE.blk _ _ hg
            rw [hk] at h1
            cases h1
            cases h3 with
            | @cells _ c' _ hr => exact lview_sim hE hg hk h0 hu hn (by omega) ⟨c', _, h2, by rw [hr.1]; exact Nat.le_refl _⟩ (fun i v hv => by simp [Heap.cell, hg, hv]) hl
          · cases hl
    · cases hl
  · cases hl
theorem lbuiltin_sim {H H' : Heap} {w : World} (hE : Emb P π H w) {bi : Builtin} {ts : Array TypeId} {ty : TypeId} {cs cs2 : Array Bool} {args args' : List Value} (ha : LR π args args') {n : Next} (hl : linvoke P lo (.builtin bi ts ty cs) args H = some (n, H')) :
    Does P lo π H w n H' ((invoke (.builtin bi ts ty cs2) ⟨args'⟩).run P w) := by
  cases bi <;> try (cases hl; done)
  case cap =>
    simp only [linvoke] at hl
    cases hc : lcap P ts args H with
    | none => rw [hc] at hl; cases hl
    | some r =>
      obtain ⟨v, H1⟩ := r
      rw [hc] at hl
      cases hl
      obtain ⟨rfl, v', e1, e2⟩ := lcap_sim (ty := ty) hE ha hc
      refine ⟨π, .value v', w, ?_, hE, .value e2, .refl⟩
      unfold invoke builtin
      simp only
      rw [Sem.run_bind, e1]
      rfl
  case unsafeString =>
    simp only [linvoke] at hl
    cases hc : lstring P lo ts args H with
    | none => rw [hc] at hl; cases hl
    | some r =>
      obtain ⟨v, H1⟩ := r
      rw [hc] at hl
      cases hl
      obtain ⟨w', e1, e2, e3, e4⟩ := lstring_sim (ty := ty) hE ha hc
      refine ⟨π, .value v, w', ?_, e2, .value e3, e4⟩
      unfold invoke builtin
      simp only
      rw [Sem.run_bind, e1]
      rfl
  case unsafeSliceData =>
    simp only [linvoke] at hl
    cases hd : ldata args H with
    | none => rw [hd] at hl; cases hl
    | some r =>
      obtain ⟨v, H1⟩ := r
      rw [hd] at hl
      cases hl
      unfold ldata at hd
      split at hd
      · rename_i l c
        cases hd
        match args', ha with
        | [s'], ha =>
        cases ha.tail.1
        exact ⟨π, .value (.pointer none), w, rfl, hE, .value .pnil, .refl⟩
      · rename_i a l c
        cases hd
        match args', ha with
        | [s'], ha =>
        cases ha.tail.1 with
        | @sl b k m off spot _ _ hk =>
          refine ⟨π, .value (.pointer (some ⟨k, off, spot⟩)), w, ?_, hE, .value (.ptr hk), .refl⟩
          have hne : c + 1 + m ≠ 0 := by omega
          show (Builtin.unsafeSliceData_ ts ty ⟨[.slice (some ⟨k, off, spot⟩) l (c + 1 + m)]⟩ >>= fun v => Pure.pure (Next.value v)).run P w = _
          have : Builtin.unsafeSliceData_ ts ty ⟨[.slice (some ⟨k, off, spot⟩) l (c + 1 + m)]⟩ = (Pure.pure (Value.pointer (some ⟨k, off, spot⟩)) : Sem Value) := by
            show (if c + 1 + m ≠ 0 then (Pure.pure (Value.pointer (some ⟨k, off, spot⟩)) : Sem Value) else _) = _
            rw [if_pos hne]
          rw [this]
          rfl
      · cases hd
  case copy =>
    simp only [linvoke] at hl
    cases hc : lsem P lo (Builtin.copy_ ts ty ⟨args⟩) H with
    | none => rw [hc] at hl; cases hl
    | some r =>
      obtain ⟨v, H1⟩ := r
      rw [hc] at hl
      cases hl
      obtain ⟨π', v', w', e1, e2, e3, e4⟩ := SemR.copy (P := P) (lo := lo) (ts := ts) (t := ty) ha.arr π (Pl.le_refl _) H w hE _ _ hc
      refine ⟨π', .value v', w', ?_, e2, .value e3, e4⟩
      unfold invoke builtin
      simp only
      rw [Sem.run_bind, e1]
      rfl
  case len =>
    simp only [linvoke] at hl
    cases hc : lsem P lo (Builtin.len_ ts ty ⟨args⟩) H with
    | none => rw [hc] at hl; cases hl
    | some r =>
      obtain ⟨v, H1⟩ := r
      rw [hc] at hl
      cases hl
      obtain ⟨π', v', w', e1, e2, e3, e4⟩ := SemR.len (P := P) (lo := lo) (ts := ts) (t := ty) ha.arr π (Pl.le_refl _) H w hE _ _ hc
      refine ⟨π', .value v', w', ?_, e2, .value e3, e4⟩
      unfold invoke builtin
      simp only
      rw [Sem.run_bind, e1]
      rfl
theorem arr_map {ev : Operand → Value} (xs : Array Operand) : xs.map ev = ⟨xs.toList.map ev⟩ := by apply Array.ext'; simp
theorem lcall_sim {H H' : Heap} {w : World} (hE : Emb P π H w) {ev ev' : Operand → Value} {c : Call} {ty : TypeId} (hv : ∀ x ∈ operandsL (.call c), VR π (ev x) (ev' x)) {n : Next} (hl : lcall P lo ev c ty H = some (n, H')) :
    Does P lo π H w n H' ((do let d ← resolve ev' c ty; invoke d.target d.args : Sem Next).run P w) := by
  unfold lcall at hl
  rw [Sem.run_bind]
  cases hc : c.callee with
  | builtin bi =>
    have hargs : LR π (c.args.toList.map ev) (c.args.toList.map ev') := LR.of _ fun x hx => hv x (by simp only [operandsL, hc]; exact hx)
    have hr : ∀ w, (resolve ev' c ty).run P w = .ok { target := .builtin bi c.argTypes ty (c.args.map fun | .const _ => true | _ => false), args := c.args.map ev' } w := by
      intro w; unfold resolve; simp only [hc]; rfl
    rw [hr, Result.andThen_ok, arr_map]
    rw [hc] at hl
    by_cases hap : bi = .append
    · subst hap
      simp only at hl
      cases ha : lappend P lo c.argTypes (c.args.toList.map ev) H with
      | none => rw [ha] at hl; cases hl
      | some r =>
        obtain ⟨v, H1⟩ := r
        rw [ha] at hl
        cases hl
        obtain ⟨π', v', w', e1, e2, e3, e4⟩ := lappend_sim (ty := ty) hE hargs ha
        refine ⟨π', .value v', w', ?_, e2, .value e3, e4⟩
        unfold invoke builtin
        simp only
        rw [Sem.run_bind, e1]
        rfl
    · have hl' : linvoke P lo (.builtin bi c.argTypes ty #[]) (c.args.toList.map ev) H = some (n, H') := by
        cases bi <;> first | exact hl | exact absurd rfl hap
      exact lbuiltin_sim hE hargs hl'
  | invoke recv name =>
    have hargs : LR π (ev recv :: c.args.toList.map ev) (ev' recv :: c.args.toList.map ev') := LR.cons (hv recv (by simp [operandsL, hc])) (LR.of _ fun x hx => hv x (by simp only [operandsL, hc]; simp at hx ⊢; exact .inr hx))
    have hr : ∀ w, (resolve ev' c ty).run P w = .ok { target := .fn (.method name) #[], args := #[ev' recv] ++ c.args.map ev' } w := by
      intro w; unfold resolve; simp only [hc]; rfl
    rw [hr, Result.andThen_ok, arr_map, cons_arr]
    rw [hc] at hl
    exact linvoke_sim hE (.method name) AR.nil hargs hl
  | value f =>
    have hf := hv f (by simp [operandsL, hc])
    have hargs : LR π (c.args.toList.map ev) (c.args.toList.map ev') := LR.of _ fun x hx => hv x (by simp only [operandsL, hc]; simp at hx ⊢; exact .inr hx)
    rw [hc] at hl
    simp only at hl
    generalize hev : ev f = vf at hf hl
    generalize hev' : ev' f = vf' at hf
    cases hf <;> try (cases hl; done)
    rename_i fn fn' xs xs' cs cs' hfn hx hxs hcs hcss
    simp only at hl
    have hr : ∀ w, (resolve ev' c ty).run P w = .ok { target := .fn fn' cs', args := xs' ++ c.args.map ev' } w := by
      intro w; unfold resolve; simp only [hc, hev', Deferred.ofValue]; rfl
    rw [hr, Result.andThen_ok]
    have hxr : AR π xs xs' := ⟨hx, hxs⟩
    have := linvoke_sim hE hfn ⟨hcs, hcss⟩ (LR.append hxr.list hargs) hl
    have e : (xs' ++ c.args.map ev' : Array Value) = ⟨xs'.toList ++ c.args.toList.map ev'⟩ := by apply Array.ext'; simp
    rw [e]
    exact this

/-! ## An operation -/
theorem sliceFit_fit {H : Heap} {w : World} (hE : Emb P π H w) {x x' : Value} (hx : VR π x x') {low mx : Option Value} (h : sliceFit H x low mx = true) : FitR π low mx x := by
  unfold sliceFit at h
  unfold FitR
  cases hx <;> simp only at h ⊢
  case ptr hb =>
    rename_i b k m off spot
    split at h
    · rename_i c e f hg
      obtain ⟨k', m', o', h1, h2, h3⟩ := hE.blk _ _ hg
      rw [hb] at h1
      cases h1
      cases h3 <;> exact ⟨k, hb⟩
    · cases h
  case sl hb =>
    rename_i b k m off spot l c
    split at h
    · rename_i c2 e f hg
      obtain ⟨k', m', o', h1, h2, h3⟩ := hE.blk _ _ hg
      rw [hb] at h1
      cases h1
      cases h3 <;> exact .inl ⟨k, hb⟩
    · simp only [Bool.and_eq_true, decide_eq_true_eq, Option.isNone_iff_eq_none] at h
      exact .inr h
    · cases h
theorem nil_left {t : TypeId} {x y y' : Value} (hx : nilLike x = true) (hy : VR π y y') (n : Nat) : Op.equalIn (n + 1) t x y = Op.equalIn (n + 1) t x y' := by
  unfold Op.equalIn
  congr 1
  funext d
  cases x with
  | pointer a => cases a with
    | none => cases hy <;> cases d <;> rfl
    | some a => cases hx
  | slice a l c => cases a with
    | none => cases hy <;> cases d <;> rfl
    | some a => cases hx
  | map r => cases r with
    | none => cases hy <;> cases d <;> rfl
    | some a => cases hx
  | nilFunc => cases hy <;> cases d <;> rfl
  | nilIface => cases hy <;> cases d <;> rfl
  | _ => cases hx
theorem nil_right {t : TypeId} {x y y' : Value} (hx : nilLike x = true) (hy : VR π y y') (n : Nat) : Op.equalIn (n + 1) t y x = Op.equalIn (n + 1) t y' x := by
  unfold Op.equalIn
  congr 1
  funext d
  cases x with
  | pointer a => cases a with
    | none => cases hy <;> cases d <;> rfl
    | some a => cases hx
  | slice a l c => cases a with
    | none => cases hy <;> cases d <;> rfl
    | some a => cases hx
  | map r => cases r with
    | none => cases hy <;> cases d <;> rfl
    | some a => cases hx
  | nilFunc => cases hy <;> cases d <;> rfl
  | nilIface => cases hy <;> cases d <;> rfl
  | _ => cases hx
theorem VR.nilLike {x x' : Value} (hx : VR π x x') (h : nilLike x = true) : x' = x := by
  cases hx <;> first | rfl | (cases h)
end
end Go.Proofs.YtdnccdobnhbpeaaDoor.Ev

namespace Go.Proofs.YtdnccdobnhbpeaaDoor.Ev
open Go
set_option linter.unusedVariables false
set_option linter.unusedSimpArgs false
section
variable {P : Program} {lo : Bar} {π : Pl}

theorem SemR.quiet {α : Type} {s : Sem α} : SemR P lo π (quietQ P s) s Same := by
  unfold quietQ
  cases h : quietS P s with
  | none => exact SemR.stuck
  | some a =>
    intro π₁ h1 H w hE x H' hs
    simp only [lsem, Option.some.injEq, Prod.mk.injEq] at hs
    obtain ⟨rfl, rfl⟩ := hs
    exact ⟨π₁, a, w, (quietS_run (lo := lo) s a h).1 w, hE, rfl, .refl⟩

theorem quietS_bind {α β : Type} (s : Sem α) (f : α → Sem β) : quietS P (s >>= f) = match quietS P s with | some a => quietS P (f a) | none => none := by
  show quietS P (s.bind f) = _
  induction s with
  | pure a => rfl
  | program k ih => exact ih _
  | mark m k ih => exact ih
  | _ => rfl

def FRel (n : Nat) (l' : List MapEntry) (r r' : Option (Nat × Value)) : Prop :=
  match r with
  | none => r' = none
  | some (j, _) => ∃ e', l'[j - n]? = some e' ∧ n ≤ j ∧ r' = some (j, e'.val)
theorem FRel.tail {n : Nat} {e : MapEntry} {l' : List MapEntry} {r r' : Option (Nat × Value)} (h : FRel (n + 1) l' r r') : FRel n (e :: l') r r' := by
  unfold FRel at *
  cases r with
  | none => exact h
  | some x =>
    obtain ⟨j, v⟩ := x
    obtain ⟨e', h1, h2, h3⟩ := h
    refine ⟨e', ?_, by omega, h3⟩
    have : j - n = (j - (n + 1)) + 1 := by omega
    rw [this, List.getElem?_cons_succ]
    exact h1
theorem findNow_rel {kind : TypeDesc} {k : Value} : ∀ (l l' : List MapEntry) (n : Nat), l.map (·.key) = l'.map (·.key) →
    (∀ r, Instr.findNow kind k l n = some r → ∃ r', Instr.findNow kind k l' n = some r' ∧ FRel n l' r r') ∧ (Instr.findNow kind k l n = none → Instr.findNow kind k l' n = none) := by
  intro l
  induction l with
  | nil =>
    intro l' n hk
    cases l' with
    | nil => exact ⟨fun r h => by cases h; exact ⟨none, rfl, rfl⟩, fun h => h⟩
    | cons _ _ => simp at hk
  | cons e es ih =>
    intro l' n hk
    cases l' with
    | nil => simp at hk
    | cons e' es' =>
      simp only [List.map_cons, List.cons.injEq] at hk
      obtain ⟨hk1, hk2⟩ := hk
      obtain ⟨i1, i2⟩ := ih es' (n + 1) hk2
      simp only [Instr.findNow]
      rw [← hk1]
      cases hs : Instr.sameNow kind k e.key with
      | none => exact ⟨fun r h => by simp at h, fun _ => by simp⟩
      | some b =>
        cases b with
        | true =>
          refine ⟨fun r h => ?_, fun h => by simp at h⟩
          simp only [Option.some.injEq] at h
          subst h
          exact ⟨_, rfl, e', by simp, Nat.le_refl _, rfl⟩
        | false =>
          simp only
          exact ⟨fun r h => let ⟨r', a, b⟩ := i1 r h; ⟨r', a, b.tail⟩, i2⟩
theorem findAsking_rel {kt : TypeId} {k : Value} : ∀ (l l' : List MapEntry) (n : Nat), l.map (·.key) = l'.map (·.key) →
    ∀ r, quietS P (Instr.findAsking kt k l n) = some r → ∃ r', quietS P (Instr.findAsking kt k l' n) = some r' ∧ FRel n l' r r' := by
  intro l
  induction l with
  | nil =>
    intro l' n hk r h
    cases l' with
    | nil =>
      have : r = none := by
        have : some (none : Option (Nat × Value)) = some r := h
        cases this; rfl
      subst this
      exact ⟨none, rfl, rfl⟩
    | cons _ _ => simp at hk
  | cons e es ih =>
    intro l' n hk r h
    cases l' with
    | nil => simp at hk
    | cons e' es' =>
      simp only [List.map_cons, List.cons.injEq] at hk
      obtain ⟨hk1, hk2⟩ := hk
      simp only [Instr.findAsking] at h ⊢
      rw [quietS_bind] at h ⊢
      rw [← hk1]
      cases hq : quietS P (Op.equal kt k e.key) with
      | none => rw [hq] at h; cases h
      | some b =>
        rw [hq] at h
        cases b with
        | true =>
          have : some (some (n, e.val)) = some r := h
          cases this
          exact ⟨some (n, e'.val), rfl, e', by simp, Nat.le_refl _, rfl⟩
        | false =>
          obtain ⟨r', a, b⟩ := ih es' (n + 1) hk2 r h
          exact ⟨r', a, b.tail⟩
theorem findKey_rel {kt : TypeId} {k : Value} {l l' : List MapEntry} (hk : l.map (·.key) = l'.map (·.key)) {r : Option (Nat × Value)} (h : quietS P (Instr.findKey kt k l) = some r) :
    ∃ r', quietS P (Instr.findKey kt k l') = some r' ∧ FRel 0 l' r r' := by
  simp only [Instr.findKey] at h ⊢
  rw [quietS_bind] at h ⊢
  cases hq : quietS P (Go.underlying kt) with
  | none => rw [hq] at h; cases h
  | some d =>
    rw [hq] at h
    simp only at h ⊢
    obtain ⟨h1, h2⟩ := findNow_rel (kind := d) (k := k) l l' 0 hk
    cases hn : Instr.findNow d k l 0 with
    | none =>
      rw [hn] at h
      rw [h2 hn]
      exact findAsking_rel l l' 0 hk r h
    | some r2 =>
      rw [hn] at h
      obtain ⟨r', a, b⟩ := h1 r2 hn
      rw [a]
      have : some r2 = some r := h
      cases this
      exact ⟨r', rfl, b⟩

/-! ## Entries -/
def EsR (π : Pl) (es es' : Array MapEntry) : Prop := es.size = es'.size ∧ ∀ i (a : i < es.size) (b : i < es'.size), EntryR π es[i] es'[i]
theorem EsR.mono {π π' : Pl} (h : π.le π') {es es' : Array MapEntry} (r : EsR π es es') : EsR π' es es' := ⟨r.1, fun i a b => (r.2 i a b).mono h⟩
theorem EsR.get {es es' : Array MapEntry} (h : EsR π es es') {i : Nat} {e : MapEntry} (hi : es[i]? = some e) : ∃ e', es'[i]? = some e' ∧ EntryR π e e' := by
  obtain ⟨a, rfl⟩ := Array.getElem?_eq_some_iff.1 hi
  exact ⟨es'[i]'(h.1 ▸ a), by simp [h.1 ▸ a], h.2 i a _⟩
theorem flatKeys_get : ∀ (l : List MapEntry), flatKeys l = true → ∀ (i : Nat) (e : MapEntry), l[i]? = some e → flat e.key = true := by
  intro l
  induction l with
  | nil => intro _ i e h; simp at h
  | cons x l ih =>
    intro h i e hi
    simp only [flatKeys, Bool.and_eq_true] at h
    cases i with
    | zero => simp at hi; subst hi; exact h.1
    | succ i => exact ih h.2 i e (by simpa using hi)
theorem EsR.keys {es es' : Array MapEntry} (h : EsR π es es') (hf : flatKeys es.toList = true) : es.toList.map (·.key) = es'.toList.map (·.key) := by
  apply List.ext_getElem
  · simp [h.1]
  · intro i a b
    simp only [List.length_map, Array.length_toList] at a b
    simp only [List.getElem_map, Array.getElem_toList]
    have := flatKeys_get _ hf i es[i] (by simp [a])
    exact (VR.eq_of_flat _ this _ (h.2 i a b).key).symm
theorem EsR.empty {es es' : Array MapEntry} (h : EsR π es es') : es'.isEmpty = es.isEmpty := by
  simp [Array.isEmpty, h.1]
theorem setE_get (f : MapEntry → MapEntry) : ∀ (l : List MapEntry) (n i : Nat), (setE f n l)[i]? = if i = n then (l[i]?).map f else l[i]? := by
  intro l
  induction l with
  | nil => intro n i; cases n <;> simp [setE]
  | cons x l ih =>
    intro n i
    cases n with
    | zero => cases i <;> simp [setE]
    | succ n => cases i with
      | zero => simp [setE]
      | succ i => simp [setE, ih]
theorem setE_len (f : MapEntry → MapEntry) : ∀ (l : List MapEntry) (n : Nat), (setE f n l).length = l.length := by
  intro l
  induction l with
  | nil => intro n; cases n <;> rfl
  | cons x l ih => intro n; cases n <;> simp [setE, ih]
theorem EsR.setE {es es' : Array MapEntry} (h : EsR π es es') {f f' : MapEntry → MapEntry} (hf : ∀ e e', EntryR π e e' → EntryR π (f e) (f' e')) (n : Nat) : EsR π ⟨Ev.setE f n es.toList⟩ (es'.modify n f') := by
  refine ⟨by simp [setE_len, h.1], fun i a b => ?_⟩
  have hi : i < es.size := by simpa [setE_len] using a
  have e1 : (⟨Ev.setE f n es.toList⟩ : Array MapEntry)[i] = if i = n then f es[i] else es[i] := by
    have := setE_get f es.toList n i
    have e2 : (Ev.setE f n es.toList)[i]? = some ((⟨Ev.setE f n es.toList⟩ : Array MapEntry)[i]) := by simp
    rw [this] at e2
    have e3 : es.toList[i]? = some es[i] := by simp [hi]
    rw [e3] at e2
    split at e2 <;> rename_i c
    · rw [if_pos c]; exact (Option.some.inj e2).symm
    · rw [if_neg c]; exact (Option.some.inj e2).symm
  rw [e1, Array.getElem_modify]
  have hr := h.2 i hi (h.1 ▸ hi)
  by_cases c : i = n
  · rw [if_pos c, if_pos c.symm]; exact hf _ _ hr
  · rw [if_neg c, if_neg (fun e => c e.symm)]; exact hr
theorem EsR.push {es es' : Array MapEntry} (h : EsR π es es') {e e' : MapEntry} (he : EntryR π e e') : EsR π ⟨es.toList ++ [e]⟩ (es'.push e') := by
  refine ⟨by simp [h.1], fun i a b => ?_⟩
  have hs := h.1
  have e1 : (⟨es.toList ++ [e]⟩ : Array MapEntry) = es.push e := by apply Array.ext'; simp
  simp only [e1]
  simp only [Array.getElem_push]
  split <;> split
  · exact h.2 _ _ _
  · omega
  · omega
  · exact he

def FoundR (es' : Array MapEntry) (a : Option Nat) (b : Option (Nat × Value)) : Prop :=
  match a, b with
  | none, none => True
  | some i, some (j, v) => i = j ∧ ∃ e', es'[i]? = some e' ∧ v = e'.val
  | _, _ => False
theorem SemR.findS {kt : TypeId} {k k' : Value} (hk : VR π k k') {es es' : Array MapEntry} (h : EsR π es es') :
    SemR P lo π (findS P kt k es) (Instr.findKey kt k' es'.toList) (fun _ a b => flatKeys es.toList = true ∧ FoundR es' a b) := by
  unfold Ev.findS
  cases hc : flat k && flatKeys es.toList with
  | false => exact SemR.stuck
  | true =>
    simp only [Bool.and_eq_true] at hc
    have e := VR.eq_of_flat _ hc.1 _ hk
    subst e
    simp only [cond_true]
    cases hq : quietS P (Instr.findKey kt k' es.toList) with
    | none => exact SemR.stuck
    | some r =>
      obtain ⟨r', hr', hrel⟩ := findKey_rel (h.keys hc.2) hq
      have fin : ∀ (x : Option Nat), FoundR es' x r' →
          SemR P lo π (.pure x) (Instr.findKey kt k' es'.toList) (fun _ a b => flatKeys es.toList = true ∧ FoundR es' a b) := by
        intro x hx π₁ h1 H w hE y H' hs
        simp only [lsem, Option.some.injEq, Prod.mk.injEq] at hs
        obtain ⟨rfl, rfl⟩ := hs
        exact ⟨π₁, r', w, (quietS_run (lo := lo) _ r' hr').1 w, hE, ⟨hc.2, hx⟩, .refl⟩
      cases r with
      | none =>
        have : r' = none := hrel
        subst this
        exact fin none trivial
      | some x =>
        obtain ⟨j, v⟩ := x
        obtain ⟨e', h1, h2, h3⟩ := hrel
        subst h3
        exact fin (some j) ⟨rfl, e', by simpa using h1, rfl⟩
theorem SemR.lookupIn {kt et : TypeId} (hz : zeroOk P et = true) {k k' : Value} (hk : VR π k k') {c : Bool} {es es' : Array MapEntry} (he : EsR π es es') :
    SemR P lo π (lookupIn P kt et k c es) (do
      Instr.checkKey es'.isEmpty 10000 kt k'
      let (v, ok) ← match ← Instr.findKey kt k' es'.toList with
        | some (_, v) => Pure.pure (v, true)
        | none => Pure.pure (← Go.zeroValue et, false)
      Pure.pure (if c then .tuple #[v, .bool ok] else v)) VR := by
  unfold Ev.lookupIn
  cases hf : flat k with
  | false => exact SemR.stuck
  | true =>
    have e := VR.eq_of_flat _ hf _ hk
    subst e
    simp only [cond_true]
    rw [he.empty]
    refine SemR.bind SemR.quiet fun π1 hl1 _ _ _ => ?_
    refine SemR.bind (SemR.findS (hk.mono hl1) (he.mono hl1)) fun π2 hl2 a b hab => ?_
    obtain ⟨-, hab⟩ := hab
    have fin : ∀ (π3 : Pl) (v v' : Value) (ok : Bool), VR π3 v v' → SemR P lo π3 (Pure.pure (if c then .tuple #[v, .bool ok] else v) : Sem Value) (Pure.pure (if c then .tuple #[v', .bool ok] else v')) VR := by
      intro π3 v v' ok h
      refine SemR.pure' fun π4 hl4 => ?_
      have h := h.mono hl4
      cases c
      · exact h
      · exact .tuple rfl fun i a b => by
          match i, a with
          | 0, _ => exact h
          | 1, _ => exact .bool _
    cases a with
    | none =>
      cases b with
      | some _ => exact hab.elim
      | none =>
        refine SemR.bind (SemR.zeroValue hz) fun π6 hl6 z z' hzz => ?_
        obtain ⟨rfl, hfz⟩ := hzz
        exact fin π6 _ _ false (VR.of_flat _ hfz)
    | some i =>
      cases b with
      | none => exact hab.elim
      | some y =>
        obtain ⟨j, v⟩ := y
        obtain ⟨rfl, e', h1, rfl⟩ := hab
        dsimp only
        cases hi : es.toList[i]? with
        | none => exact SemR.stuck
        | some e =>
          obtain ⟨e2, h2, h3⟩ := he.get (i := i) (e := e) (by simpa using hi)
          rw [h1] at h2
          cases h2
          exact fin _ _ _ true ((h3.val.mono hl1).mono hl2)
theorem SemR.lookupS {t : TypeId} (hz : ∀ k e, P.underlying t = some (.map k e) → zeroOk P e = true) {x x' k k' : Value} (hx : VR π x x') (hk : VR π k k') {c : Bool} :
    SemR P lo π (lookupS P t x k c) (Instr.lookup t x' k' c) VR := by
  unfold Ev.lookupS Instr.lookup
  refine SemR.bind SemR.underlying fun π1 hl1 a b hab => ?_
  obtain ⟨rfl, hu⟩ := hab
  cases a <;> first | exact SemR.stuck | skip
  rename_i kt et
  have hz' := hz _ _ hu
  have hx1 := hx.mono hl1
  have hk1 := hk.mono hl1
  cases hx1 with
  | mnil => exact SemR.lookupIn hz' hk1 ⟨rfl, fun i a => by simp at a⟩
  | map hb =>
    refine SemR.bind (SemR.getObj hb) fun π3 hl3 o o' ho => ?_
    cases ho <;> first | exact SemR.stuck | skip
    rename_i es es' clock hsz hent
    exact SemR.lookupIn hz' (hk1.mono hl3) ⟨hsz, hent⟩
  | _ => exact SemR.stuck
theorem SemR.updateIn {kt : TypeId} {k k' v v' : Value} (hk : VR π k k') (hv : VR π v v') {r r' m : Nat} (hr : π r = some (r', m)) {es es' : Array MapEntry} (he : EsR π es es') {clock : Nat} :
    SemR P lo π (updateIn P kt k v r es clock) (do
      Instr.checkKey false 10000 kt k'
      match ← Instr.findKey kt k' es'.toList with
      | some (i, _) => do
        let key ← Instr.keyThatStays (((es'[i]?).map (·.key)).getD k') k'
        Go.setObj r' (.map (es'.modify i fun e => { e with key, val := v' }) clock)
      | none => Go.setObj r' (.map (es'.push { key := k', val := v', born := clock }) (clock + 1))) (fun _ _ _ => True) := by
  unfold Ev.updateIn
  cases hf : flat k with
  | false => exact SemR.stuck
  | true =>
    have e := VR.eq_of_flat _ hf _ hk
    subst e
    simp only [cond_true]
    refine SemR.bind SemR.quiet fun π1 hl1 _ _ _ => ?_
    refine SemR.bind (SemR.findS (hk.mono hl1) (he.mono hl1)) fun π2 hl2 a b hab => ?_
    obtain ⟨hfk, hab⟩ := hab
    have he2 := (he.mono hl1).mono hl2
    have hk2 := (hk.mono hl1).mono hl2
    have hv2 := (hv.mono hl1).mono hl2
    have hr2 := hl2 _ _ (hl1 _ _ hr)
    cases a with
    | none =>
      cases b with
      | some _ => exact hab.elim
      | none =>
        refine SemR.setObj hr2 fun _ π3 hl3 => ?_
        have := EsR.push (he2.mono hl3) (e := { key := k', val := v, born := clock }) (e' := { key := k', val := v', born := clock }) ⟨hk2.mono hl3, hv2.mono hl3, rfl⟩
        exact .map _ this.1 this.2
    | some i =>
      cases b with
      | none => exact hab.elim
      | some y =>
        obtain ⟨j, v⟩ := y
        obtain ⟨rfl, e', h1, rfl⟩ := hab
        dsimp only
        cases hi : es.toList[i]? with
        | none => exact SemR.stuck
        | some e =>
          dsimp only
          cases hsb : Instr.sameBits 10000 e.key k' with
          | false => exact SemR.stuck
          | true =>
          simp only [cond_true]
          have hfe := flatKeys_get _ hfk i e hi
          obtain ⟨e2, h2, h3⟩ := he2.get (i := i) (e := e) (by simpa using hi)
          rw [h1] at h2
          cases h2
          have hke := VR.eq_of_flat _ hfe _ h3.key
          have e5 : Instr.keyThatStays (((es'[i]?).map (·.key)).getD k') k' = (Pure.pure k' : Sem Value) := by
            simp only [h1, Option.map_some, Option.getD_some, Instr.keyThatStays, hke, hsb, if_true]
          rw [e5]
          exact SemR.setObj hr2 fun _ π3 hl3 => by
            have := EsR.setE (he2.mono hl3) (f := fun e => { e with key := k', val := v }) (f' := fun e => { e with key := k', val := v' }) (fun e e' hee => ⟨hk2.mono hl3, hv2.mono hl3, hee.born⟩) i
            exact .map _ this.1 this.2
theorem SemR.mapUpdateS {t : TypeId} {x x' k k' v v' : Value} (hx : VR π x x') (hk : VR π k k') (hv : VR π v v') :
    SemR P lo π (mapUpdateS P t x k v) (Instr.mapUpdate t x' k' v') (fun _ _ _ => True) := by
  unfold Ev.mapUpdateS Instr.mapUpdate
  refine SemR.bind SemR.underlying fun π1 hl1 a b hab => ?_
  obtain ⟨rfl, hu⟩ := hab
  cases a <;> first | exact SemR.stuck | skip
  have hx1 := hx.mono hl1
  have hk1 := hk.mono hl1
  have hv1 := hv.mono hl1
  cases hx1 with
  | map hb =>
    refine SemR.bind (SemR.getObj hb) fun π3 hl3 o o' ho => ?_
    cases ho <;> first | exact SemR.stuck | skip
    rename_i es es' clock hsz hent
    exact SemR.updateIn (hk1.mono hl3) (hv1.mono hl3) (hl3 _ _ hb) ⟨hsz, hent⟩
  | _ => exact SemR.stuck
theorem SemR.entryIn {kt et : TypeId} (hz : zeroOk P et = true) {k k' : Value} (hk : VR π k k') {r r' m : Nat} (hr : π r = some (r', m)) {es es' : Array MapEntry} (he : EsR π es es') {clock : Nat} :
    SemR P lo π (entryIn P kt et k r es clock) (do
      Instr.checkKey false 10000 kt k'
      match ← Instr.findKey kt k' es'.toList with
      | some (i, v) =>
        let key ← Instr.keyThatStays (((es'[i]?).map (·.key)).getD k') k'
        Go.setObj r' (.map (es'.modify i fun e => { e with key }) clock)
        Pure.pure (.tuple #[v, goInt (((es'[i]?).map (·.born)).getD 0)])
      | none =>
        let zero ← Go.zeroValue et
        Go.setObj r' (.map (es'.push { key := k', val := zero, born := clock }) (clock + 1))
        Pure.pure (.tuple #[zero, goInt clock])) VR := by
  unfold Ev.entryIn
  cases hf : flat k with
  | false => exact SemR.stuck
  | true =>
    have e := VR.eq_of_flat _ hf _ hk
    subst e
    simp only [cond_true]
    refine SemR.bind SemR.quiet fun π1 hl1 _ _ _ => ?_
    refine SemR.bind (SemR.findS (hk.mono hl1) (he.mono hl1)) fun π2 hl2 a b hab => ?_
    obtain ⟨hfk, hab⟩ := hab
    have he2 := (he.mono hl1).mono hl2
    have hk2 := (hk.mono hl1).mono hl2
    have hr2 := hl2 _ _ (hl1 _ _ hr)
    have two : ∀ {π : Pl} {v v' : Value} (n : Int), VR π v v' → VR π (.tuple #[v, goInt n]) (.tuple #[v', goInt n]) := by
      intro π v v' n h
      exact .tuple rfl fun i a b => by
        match i, a with
        | 0, _ => exact h
        | 1, _ => exact .int _ _
    cases a with
    | none =>
      cases b with
      | some _ => exact hab.elim
      | none =>
        refine SemR.bind (SemR.zeroValue hz) fun π6 hl6 z z' hzz => ?_
        obtain ⟨rfl, hfz⟩ := hzz
        refine SemR.bind (SemR.setObj (hl6 _ _ hr2) fun _ π3 hl3 => ?_) fun π7 hl7 _ _ _ => SemR.pure' fun _ _ => two _ (VR.of_flat _ hfz)
        have := EsR.push ((he2.mono hl6).mono hl3) (e := { key := k', val := z, born := clock }) (e' := { key := k', val := z, born := clock }) ⟨(hk2.mono hl6).mono hl3, VR.of_flat _ hfz, rfl⟩
        exact .map _ this.1 this.2
    | some i =>
      cases b with
      | none => exact hab.elim
      | some y =>
        obtain ⟨j, v⟩ := y
        obtain ⟨rfl, e', h1, rfl⟩ := hab
        dsimp only
        cases hi : es.toList[i]? with
        | none => exact SemR.stuck
        | some e =>
          dsimp only
          cases hsb : Instr.sameBits 10000 e.key k' with
          | false => exact SemR.stuck
          | true =>
          simp only [cond_true]
          have hfe := flatKeys_get _ hfk i e hi
          obtain ⟨e2, h2, h3⟩ := he2.get (i := i) (e := e) (by simpa using hi)
          rw [h1] at h2
          cases h2
          have hke := VR.eq_of_flat _ hfe _ h3.key
          have e5 : Instr.keyThatStays (((es'[i]?).map (·.key)).getD k') k' = (Pure.pure k' : Sem Value) := by
            simp only [h1, Option.map_some, Option.getD_some, Instr.keyThatStays, hke, hsb, if_true]
          have e6 : ((es'[i]?).map (fun x => (x.born : Int))).getD 0 = (e.born : Int) := by
            simp only [h1, Option.map_some, Option.getD_some, h3.born]
          rw [e5, e6]
          refine SemR.bind (s' := Go.setObj r' (.map (es'.modify i fun e => { e with key := k' }) clock)) (SemR.setObj hr2 fun _ π3 hl3 => ?_) fun π7 hl7 _ _ _ => SemR.pure' fun _ hl => two _ ((h3.val.mono hl7).mono hl)
          have := EsR.setE (he2.mono hl3) (f := fun e => { e with key := k' }) (f' := fun e => { e with key := k' }) (fun e e' hee => ⟨hk2.mono hl3, hee.val, hee.born⟩) i
          exact .map _ this.1 this.2
theorem SemR.mapEntryS {t : TypeId} (hz : ∀ k e, P.underlying t = some (.map k e) → zeroOk P e = true) {x x' k k' : Value} (hx : VR π x x') (hk : VR π k k') :
    SemR P lo π (mapEntryS P t x k) (Instr.mapEntry t x' k') VR := by
  unfold Ev.mapEntryS Instr.mapEntry
  refine SemR.bind SemR.underlying fun π1 hl1 a b hab => ?_
  obtain ⟨rfl, hu⟩ := hab
  cases a <;> first | exact SemR.stuck | skip
  have hz' := hz _ _ hu
  have hx1 := hx.mono hl1
  have hk1 := hk.mono hl1
  cases hx1 with
  | map hb =>
    refine SemR.bind (SemR.getObj hb) fun π3 hl3 o o' ho => ?_
    cases ho <;> first | exact SemR.stuck | skip
    rename_i es es' clock hsz hent
    exact SemR.entryIn hz' (hk1.mono hl3) (hl3 _ _ hb) ⟨hsz, hent⟩
  | _ => exact SemR.stuck
theorem SemR.entryStoreS {t : TypeId} {x x' k k' v v' : Value} (hx : VR π x x') (hk : VR π k k') (hv : VR π v v') :
    SemR P lo π (entryStoreS x k v) (Instr.entryStore t x' k' v') (fun _ _ _ => True) := by
  unfold Ev.entryStoreS Instr.entryStore
  cases hx with
  | map hb =>
    refine SemR.bind (SemR.getObj hb) fun π3 hl3 o o' ho => ?_
    cases ho <;> first | exact SemR.stuck | skip
    rename_i es es' clock hsz hent
    have he : EsR π3 es es' := ⟨hsz, hent⟩
    refine SemR.bind (SemR.asInt (hk.mono hl3)) fun π4 hl4 n n' hn => ?_
    have hn : n = n' := hn
    subst hn
    have e : es'.findIdx? (fun e => (e.born : Int) == n) = es.toList.findIdx? (fun e => (e.born : Int) == n) := by
      rw [show es'.findIdx? (fun e => (e.born : Int) == n) = es'.toList.findIdx? (fun e => (e.born : Int) == n) from (List.findIdx?_toArray (l := es'.toList) (p := fun e => (e.born : Int) == n))]
      have hb : es'.toList.map (·.born) = es.toList.map (·.born) := by
        apply List.ext_getElem
        · simp [hsz]
        · intro i a b
          simp only [List.getElem_map, Array.getElem_toList]
          simp only [List.length_map, Array.length_toList] at a b
          exact (hent i b a).born
      have f1 : ∀ l : List MapEntry, l.findIdx? (fun e => (e.born : Int) == n) = (l.map (fun e => e.born)).findIdx? (fun (b : Nat) => (b : Int) == n) := by
        intro l
        rw [List.findIdx?_map]
        rfl
      rw [f1, f1, hb]
    rw [e]
    cases hi : es.toList.findIdx? (fun e => (e.born : Int) == n) with
    | none => exact SemR.stuck
    | some i =>
      exact SemR.setObj (hl4 _ _ (hl3 _ _ hb)) fun _ π5 hl5 => by
        have := EsR.setE ((he.mono hl4).mono hl5) (f := fun e => { e with val := v }) (f' := fun e => { e with val := v' }) (fun e e' hee => ⟨hee.key, ((hv.mono hl3).mono hl4).mono hl5, hee.born⟩) i
        exact .map _ this.1 this.2
  | _ => exact SemR.stuck
theorem SemR.rangeS {t : TypeId} {x x' : Value} (hx : VR π x x') : SemR P lo π (rangeS t x) (Instr.range t x') VR := by
  unfold Ev.rangeS Instr.range
  refine SemR.bind SemR.underlying fun π1 hl1 a b hab => ?_
  obtain ⟨rfl, hu⟩ := hab
  cases a <;> first | exact SemR.stuck | skip
  cases hx with
  | string s =>
    refine SemR.bind (s' := Go.newObj (.stringIter s 0)) (SemR.new fun _ π2 _ => .stringIter s 0) fun π2 hl2 a b hab => ?_
    exact SemR.pure' fun π3 hl3 => .ptr (hl3 _ _ hab)
  | _ => exact SemR.stuck
theorem SemR.nextS {t : TypeId} {x x' : Value} (hx : VR π x x') {s : Bool} : SemR P lo π (nextS x s) (Instr.next x' s t) VR := by
  unfold Ev.nextS Instr.next
  cases hx with
  | ptr hb =>
    rename_i b k m off spot
    cases off with
    | succ n => exact SemR.stuck
    | zero =>
      refine SemR.bind (SemR.getObj hb) fun π3 hl3 o o' ho => ?_
      cases ho <;> (first | exact SemR.stuck | (cases s <;> exact SemR.stuck) | skip)
      rename_i st pos
      cases s with
      | false => exact SemR.stuck
      | true =>
        dsimp only
        split
        · refine SemR.bind (SemR.setObj (hl3 _ _ hb) fun _ π4 _ => .stringIter _ _) fun π4 hl4 _ _ _ => ?_
          exact SemR.pure' fun π5 hl5 => VR.of_flat _ rfl
        · exact SemR.pure' fun π5 hl5 => VR.of_flat _ rfl
  | _ => exact SemR.stuck
theorem bytesL_ints : ∀ (l : List Value) (r : List UInt8), bytesL l = some r → ∃ ns : List Int, l = ns.map (Value.int .u8) ∧ ∀ acc : ByteArray, ns.foldl (fun r n => r.push (UInt8.ofNat n.toNat)) acc = ⟨acc.data ++ r.toArray⟩ := by
  intro l
  induction l with
  | nil =>
    intro r h
    cases h
    exact ⟨[], rfl, fun acc => by simp⟩
  | cons v l ih =>
    intro r h
    cases v <;> (try (cases h; done))
    rename_i kd n
    cases kd <;> (try (cases h; done))
    cases n with
    | negSucc _ => cases h
    | ofNat b =>
      simp only [bytesL] at h
      cases hl : bytesL l with
      | none => rw [hl] at h; cases h
      | some r' =>
        rw [hl] at h
        cases h
        obtain ⟨ns, e1, e2⟩ := ih r' hl
        refine ⟨Int.ofNat b :: ns, by rw [e1]; rfl, fun acc => ?_⟩
        simp only [List.foldl_cons]
        rw [e2]
        congr 1
        have : UInt8.ofNat (Int.ofNat b).toNat = b.toUInt8 := rfl
        rw [this]
        simp [ByteArray.push]
theorem SemR.convertS {src dst : TypeId} {x x' : Value} (hx : VR π x x') : SemR P lo π (convertS P src dst x) (Go.convert src dst x') VR := by
  unfold Ev.convertS
  split
  · rename_i e hs hd
    split
    · rename_i he
      cases hx
      intro π₁ h1 H w hE y H' hr
      cases hr
      exact ⟨π₁, _, w, run_convert_bytes_string w src dst e none _ _ hs he hd, hE, .string _, .refl⟩
    · rename_i he
      cases hx with
      | @sl b k m off spot l c hk =>
        intro π₁ h1 H w hE y H' hr
        rw [lsem_bind'] at hr
        cases hc : lsem P lo (Go.loadCells ⟨b, off, spot⟩ _) H with
        | none => rw [hc] at hr; cases hr
        | some z =>
          obtain ⟨cs, H1⟩ := z
          rw [hc] at hr
          simp only at hr
          obtain ⟨rfl, cs', e1, hcs, _⟩ := ReadR.loadCellsFrom (P := P) (lo := lo) (π := π₁) (a := ⟨b, off, spot⟩) (a' := ⟨k, off, spot⟩) ⟨k, m, h1 _ _ hk, rfl⟩ _ 0 #[] #[] AR.nil H w hE cs H1 hc
          cases hb : bytesL cs.toList with
          | none => rw [hb] at hr; cases hr
          | some r =>
            rw [hb] at hr
            cases hr
            obtain ⟨ns, n1, n2⟩ := bytesL_ints _ _ hb
            have hcs' : cs' = (ns.map (Value.int .u8)).toArray := by
              have hfl : flatA cs = true := by
                have : cs = ⟨ns.map (Value.int .u8)⟩ := by apply Array.ext'; simpa using n1
                rw [this]
                show flatL (ns.map (Value.int .u8)) = true
                clear n1 n2 this hb
                induction ns with
                | nil => rfl
                | cons n ns ih => simp only [List.map_cons, flatL, ih, Bool.and_true]; rfl
              rw [VR.eq_of_flatA cs hfl cs' hcs]
              apply Array.ext'
              simpa using n1
            refine ⟨π₁, _, w, ?_, hE, .string _, .refl⟩
            rw [run_convert_bytes_string w src dst e _ _ _ hs he hd]
            rw [hcs'] at e1
            have := fun cap => run_bytesToString (P := P) w ⟨k, off, spot⟩ _ cap ns e1
            rw [this, n2]
            congr 2
            simp
    · exact SemR.stuck
  · exact SemR.stuck
end
end Go.Proofs.YtdnccdobnhbpeaaDoor.Ev

namespace Go.Proofs.YtdnccdobnhbpeaaDoor.Ev
open Go
set_option linter.unusedVariables false
section
variable {P : Program} {lo : Bar} {π : Pl}

theorem nil_binOp {op : BinOp} (ho : eqOp op = true) {t : TypeId} {xo yo : Operand} {a a' b b' : Value} (ha : VR π a a') (hb : VR π b b') (hn : nilLike a = true ∨ nilLike b = true) :
    eqGuard op t xo yo a b = eqGuard op t xo yo a' b' ∧ binOp op t a b = binOp op t a' b' := by
  rcases hn with hn | hn
  · have e := ha.nilLike hn
    subst e
    have he : Op.equal t a' b = Op.equal t a' b' := nil_left hn hb 9999
    cases op <;> (try (cases ho; done))
    all_goals
      refine ⟨?_, ?_⟩
      · cases a' <;> (try (cases hn; done)) <;> cases hb <;> rfl
      · cases a' with
        | pointer p => cases p with
          | none => cases hb <;> first | rfl | (simp only [binOp]; rw [he])
          | some _ => cases hn
        | slice p l c => cases p with
          | none => cases hb <;> first | rfl | (simp only [binOp]; rw [he])
          | some _ => cases hn
        | map p => cases p with
          | none => cases hb <;> first | rfl | (simp only [binOp]; rw [he])
          | some _ => cases hn
        | nilFunc => cases hb <;> first | rfl | (simp only [binOp]; rw [he])
        | nilIface => cases hb <;> first | rfl | (simp only [binOp]; rw [he])
        | _ => cases hn
  · have e := hb.nilLike hn
    subst e
    have he : Op.equal t a b' = Op.equal t a' b' := nil_right hn ha 9999
    cases op <;> (try (cases ho; done))
    all_goals
      refine ⟨?_, ?_⟩
      · cases b' <;> (try (cases hn; done)) <;> cases ha <;> rfl
      · cases b' with
        | pointer p => cases p with
          | none => cases ha <;> first | rfl | (simp only [binOp]; rw [he])
          | some _ => cases hn
        | slice p l c => cases p with
          | none => cases ha <;> first | rfl | (simp only [binOp]; rw [he])
          | some _ => cases hn
        | map p => cases p with
          | none => cases ha <;> first | rfl | (simp only [binOp]; rw [he])
          | some _ => cases hn
        | nilFunc => cases ha <;> first | rfl | (simp only [binOp]; rw [he])
        | nilIface => cases ha <;> first | rfl | (simp only [binOp]; rw [he])
        | _ => cases hn

theorem plain_noselect {op : Op} (h : plainOp P op = true) : ∀ cs b, op ≠ .select cs b := by
  intro cs b e; subst e; cases h
theorem flat_exec {ev ev' : Operand → Value} {o : Oper} (hns : ∀ cs b, o.op ≠ .select cs b) (hv : ∀ x ∈ operandsL o.op, VR π (ev x) (ev' x)) (hf : ∀ x ∈ operandsL o.op, flat (ev x) = true) : execOp ev' o = execOp ev o :=
  execOp_congr o hns fun x hx => VR.eq_of_flat (ev x) (hf x (mem_operandsL.2 hx)) _ (hv x (mem_operandsL.2 hx))

theorem lexec_sim {G : Nat} {H H' : Heap} {w : World} (hE : Emb P π H w) {ev ev' : Operand → Value} {o : Oper} (hev : ∀ x ∈ operandsL o.op, okOperand G x = true → VR π (ev x) (ev' x)) {n : Next} (hl : lexec P G lo ev o H = some (n, H')) :
    Does P lo π H w n H' ((execOp ev' o).run P w) := by
  unfold lexec at hl
  split at hl
  · rename_i hok
    simp only [Bool.and_eq_true, List.all_eq_true] at hok
    obtain ⟨hok, hz⟩ := hok
    have hv : ∀ x ∈ operandsL o.op, VR π (ev x) (ev' x) := fun x hx => hev x hx (hok x hx)
    cases hp : lplain P ev o with
    | some v =>
      rw [hp] at hl
      cases hl
      unfold lplain at hp
      split at hp
      · rename_i hpl
        simp only [Bool.and_eq_true, List.all_eq_true] at hpl
        have e := flat_exec (plain_noselect hpl.1) hv hpl.2
        split at hp
        · rename_i v' hq
          split at hp
          · rename_i hfv
            cases hp
            refine ⟨π, .value v, w, ?_, hE, .value (VR.of_flat v hfv), .refl⟩
            rw [e]
            exact (quietS_run (lo := lo) _ _ hq).1 w
          · cases hp
        · cases hp
      · cases hp
    | none =>
      rw [hp] at hl
      simp only at hl
      obtain ⟨dst, op, type, pos, after, guard⟩ := o
      simp only at hl hv hz hok
      have other : allowed op = true → lsem P lo (execOp ev { dst, op, type, pos, after, guard }) H = some (n, H') → Does P lo π H w n H' ((execOp ev' { dst, op, type, pos, after, guard }).run P w) := fun ha hs =>
        (SemR.exec (o := { dst, op, type, pos, after, guard }) ha hz hv).does hE hs
      have cold : (if allowed op = true then lsem P lo (execOp ev { dst, op, type, pos, after, guard }) H else none) = some (n, H') → Does P lo π H w n H' ((execOp ev' { dst, op, type, pos, after, guard }).run P w) := by
        intro hs
        split at hs
        · rename_i ha; exact other ha hs
        · cases hs
      cases op with
      | call c =>
        exact lcall_sim hE hv hl
      | slice t x lw hi mx =>
        replace hl : (if sliceFit H (ev x) (lw.map ev) (mx.map ev) = true then lsem P lo (execOp ev { dst, op := .slice t x lw hi mx, type, pos, after, guard }) H else none) = some (n, H') := hl
        split at hl
        · rename_i hfit
          have hx := hv x (by simp [operandsL])
          have h1 : OR π (lw.map ev) (lw.map ev') := OR.of lw fun y hy => hv y (by simp only [operandsL, List.mem_cons, List.mem_append]; exact .inr (.inl (.inl hy)))
          have h2 : OR π (hi.map ev) (hi.map ev') := OR.of hi fun y hy => hv y (by simp only [operandsL, List.mem_cons, List.mem_append]; exact .inr (.inl (.inr hy)))
          have h3 : OR π (mx.map ev) (mx.map ev') := OR.of mx fun y hy => hv y (by simp only [operandsL, List.mem_cons, List.mem_append]; exact .inr (.inr hy))
          exact (SemR.val (SemR.sliceAt hx h1 h2 h3 (sliceFit_fit hE hx hfit))).does hE hl
        · cases hl
      | binOp bo t x y yt =>
        replace hl : (if (eqOp bo && (nilLike (ev x) || nilLike (ev y))) = true then (match quietS P (execOp ev { dst, op := .binOp bo t x y yt, type, pos, after, guard }) with | some (.value (.bool v)) => some (.value (.bool v), H) | _ => none) else none) = some (n, H') := hl
        split at hl
        · rename_i hc
          simp only [Bool.and_eq_true, Bool.or_eq_true] at hc
          have hbo : eqOp bo = true := hc.1
          have hx := hv x (by simp [operandsL])
          have hy := hv y (by simp [operandsL])
          obtain ⟨e1, e2⟩ := nil_binOp (xo := x) (yo := y) (t := t) hbo hx hy hc.2
          have e : execOp ev' { dst, op := .binOp bo t x y yt, type, pos, after, guard } = execOp ev { dst, op := .binOp bo t x y yt, type, pos, after, guard } := by
            simp only [execOp, e1, e2]
          split at hl
          · rename_i bv hq
            cases hl
            refine ⟨π, _, w, ?_, hE, .value (.bool bv), .refl⟩
            rw [e]
            exact (quietS_run (lo := lo) _ _ hq).1 w
          · cases hl
        · cases hl
      | nilCheck x =>
        replace hl : (if notMethod (ev x) = true then lsem P lo (execOp ev { dst, op := .nilCheck x, type, pos, after, guard }) H else none) = some (n, H') := hl
        split at hl
        · rename_i hm
          have hx := hv x (by simp [operandsL])
          simp only [execOp] at hl ⊢
          generalize ev x = a at hx hm hl
          generalize ev' x = a' at hx
          have keep : ∀ {v v' : Value}, VR π v v' → lsem P lo (Pure.pure (Next.value v)) H = some (n, H') → Does P lo π H w n H' ((Pure.pure (Next.value v') : Sem Next).run P w) := by
            intro v v' hvv hs
            cases hs
            exact ⟨π, .value v', w, rfl, hE, .value hvv, .refl⟩
          cases hx with
          | pnil => exact absurd hl (by rw [never_runtimePanic]; simp)
          | nilIface => exact absurd hl (by rw [never_runtimePanic]; simp)
          | nilFunc => exact absurd hl (by rw [never_runtimePanic]; simp)
          | func hf hx hxs hc hcs =>
            cases hf with
            | method nm => cases hm
            | func f => exact keep (.func (.func f) hx hxs hc hcs) hl
            | methodOf t nm => exact keep (.func (.methodOf t nm) hx hxs hc hcs) hl
            | via t p f b => exact keep (.func (.via t p f b) hx hxs hc hcs) hl
            | yield h => exact keep (.func (.yield h) hx hxs hc hcs) hl
          | bool b => exact keep (.bool b) hl
          | int k i => exact keep (.int k i) hl
          | float k b => exact keep (.float k b) hl
          | complex k a b => exact keep (.complex k a b) hl
          | string s => exact keep (.string s) hl
          | ptr h => exact keep (.ptr h) hl
          | snil l c => exact keep (.snil l c) hl
          | sl h => exact keep (.sl h) hl
          | mnil => exact keep .mnil hl
          | map h => exact keep (.map h) hl
          | cnil => exact keep .cnil hl
          | iface t h => exact keep (.iface t h) hl
          | agg a b => exact keep (.agg a b) hl
          | tuple a b => exact keep (.tuple a b) hl
        · cases hl
      | lookup t m k c =>
        refine (SemR.val (SemR.lookupS (fun k e he => ?_) (hv m (by simp [operandsL])) (hv k (by simp [operandsL])))).does hE hl
        simp only [opZeros, he] at hz
        exact hz
      | mapUpdate t m k x => exact (SemR.unit (SemR.mapUpdateS (hv m (by simp [operandsL])) (hv k (by simp [operandsL])) (hv x (by simp [operandsL])))).does hE hl
      | insert t m k x => exact (SemR.unit (SemR.mapUpdateS (hv m (by simp [operandsL])) (hv k (by simp [operandsL])) (hv x (by simp [operandsL])))).does hE hl
      | mapEntry t m k =>
        refine (SemR.val (SemR.mapEntryS (fun k e he => ?_) (hv m (by simp [operandsL])) (hv k (by simp [operandsL])))).does hE hl
        simp only [opZeros, he] at hz
        exact hz
      | entryStore t m k x => exact (SemR.unit (SemR.entryStoreS (hv m (by simp [operandsL])) (hv k (by simp [operandsL])) (hv x (by simp [operandsL])))).does hE hl
      | range t x => exact (SemR.val (SemR.rangeS (hv x (by simp [operandsL])))).does hE hl
      | convert s d x => exact (SemR.val (SemR.convertS (hv x (by simp [operandsL])))).does hE hl
      | next x s => exact (SemR.val (SemR.nextS (hv x (by simp [operandsL])))).does hE hl
      | _ => exact cold hl
  · cases hl
end
end Go.Proofs.YtdnccdobnhbpeaaDoor.Ev

