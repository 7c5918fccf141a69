/-
  The evaluator: values, heaps and instructions against the model.
-/
import Derived.Test.YtdnccdobnhbpeaaDoorEvA
import Derived.Laws.Sem
import Derived.Laws.World
namespace Go.Proofs.YtdnccdobnhbpeaaDoor.Ev
open Go

/-- Where each block of the small world lies in the great one, and how much more room it has there. -/
abbrev Pl := Nat → Option (Nat × Nat)
def Pl.le (π π' : Pl) : Prop := ∀ i x, π i = some x → π' i = some x
theorem Pl.le_refl (π : Pl) : π.le π := fun _ _ h => h
theorem Pl.le.trans {π π' π'' : Pl} (h : π.le π') (h' : π'.le π'') : π.le π'' := fun i x hx => h' i x (h i x hx)

inductive FnR (π : Pl) : Fn → Fn → Prop
  | func (f : FuncId) : FnR π (.func f) (.func f)
  | method (n : String) : FnR π (.method n) (.method n)
  | methodOf (t : TypeId) (n : String) : FnR π (.methodOf t n) (.methodOf t n)
  | via (t : TypeId) (p : Array FieldStep) (f : FuncId) (b : Bool) : FnR π (.via t p f b) (.via t p f b)
  | yield {l k m : Nat} (h : π l = some (k, m)) : FnR π (.yield l) (.yield k)

inductive VR (π : Pl) : Value → Value → Prop
  | bool (b : Bool) : VR π (.bool b) (.bool b)
  | int (k : IntKind) (n : Int) : VR π (.int k n) (.int k n)
  | float (k : FloatKind) (b : Nat) : VR π (.float k b) (.float k b)
  | complex (k : FloatKind) (a b : Nat) : VR π (.complex k a b) (.complex k a b)
  | string (s : ByteArray) : VR π (.string s) (.string s)
  | pnil : VR π (.pointer none) (.pointer none)
  | ptr {b k m off : Nat} {spot : Option Nat} (h : π b = some (k, m)) : VR π (.pointer (some ⟨b, off, spot⟩)) (.pointer (some ⟨k, off, spot⟩))
  | snil (l c : Nat) : VR π (.slice none l c) (.slice none l c)
  | sl {b k m off : Nat} {spot : Option Nat} {l c : Nat} (h : π b = some (k, m)) : VR π (.slice (some ⟨b, off, spot⟩) l c) (.slice (some ⟨k, off, spot⟩) l (c + m))
  | mnil : VR π (.map none) (.map none)
  | map {b k m : Nat} (h : π b = some (k, m)) : VR π (.map (some b)) (.map (some k))
  | cnil : VR π (.chan none) (.chan none)
  | func {fn fn' : Fn} {xs xs' cs cs' : Array Value} (hf : FnR π fn fn') (hx : xs.size = xs'.size) (hxs : ∀ i (h : i < xs.size) (h' : i < xs'.size), VR π xs[i] xs'[i])
      (hc : cs.size = cs'.size) (hcs : ∀ i (h : i < cs.size) (h' : i < cs'.size), VR π cs[i] cs'[i]) : VR π (.func fn xs cs) (.func fn' xs' cs')
  | nilFunc : VR π .nilFunc .nilFunc
  | iface (t : TypeId) {v v' : Value} (h : VR π v v') : VR π (.iface t v) (.iface t v')
  | nilIface : VR π .nilIface .nilIface
  | agg {cs cs' : Array Value} (hc : cs.size = cs'.size) (hcs : ∀ i (h : i < cs.size) (h' : i < cs'.size), VR π cs[i] cs'[i]) : VR π (.agg cs) (.agg cs')
  | tuple {cs cs' : Array Value} (hc : cs.size = cs'.size) (hcs : ∀ i (h : i < cs.size) (h' : i < cs'.size), VR π cs[i] cs'[i]) : VR π (.tuple cs) (.tuple cs')

theorem FnR.mono {π π' : Pl} (h : π.le π') {f f' : Fn} (r : FnR π f f') : FnR π' f f' := by
  cases r with
  | yield hl => exact .yield (h _ _ hl)
  | _ => constructor
theorem VR.mono {π π' : Pl} (h : π.le π') {v v' : Value} (r : VR π v v') : VR π' v v' := by
  induction r with
  | ptr hb => exact .ptr (h _ _ hb)
  | sl hb => exact .sl (h _ _ hb)
  | map hb => exact .map (h _ _ hb)
  | func hf hx _ hc _ ih1 ih2 => exact .func (hf.mono h) hx ih1 hc ih2
  | iface t _ ih => exact .iface t ih
  | agg hc _ ih => exact .agg hc ih
  | tuple hc _ ih => exact .tuple hc ih
  | _ => constructor

/-- Two arrays, place by place. -/
def AR (π : Pl) (xs ys : Array Value) : Prop := xs.size = ys.size ∧ ∀ i (h : i < xs.size) (h' : i < ys.size), VR π xs[i] ys[i]
theorem AR.mk {π : Pl} {xs ys : Array Value} (h : xs.size = ys.size) (h' : ∀ i (h : i < xs.size) (h' : i < ys.size), VR π xs[i] ys[i]) : AR π xs ys := ⟨h, h'⟩
theorem AR.mono {π π' : Pl} (h : π.le π') {v v' : Array Value} (r : AR π v v') : AR π' v v' := ⟨r.1, fun i a b => (r.2 i a b).mono h⟩

mutual
theorem VR.of_flat {π : Pl} : (v : Value) → flat v = true → VR π v v
  | .bool _, _ => .bool _
  | .int _ _, _ => .int _ _
  | .float _ _, _ => .float _ _
  | .complex _ _ _, _ => .complex _ _ _
  | .string _, _ => .string _
  | .nilFunc, _ => .nilFunc
  | .nilIface, _ => .nilIface
  | .pointer none, _ => .pnil
  | .pointer (some _), h => by simp [flat] at h
  | .slice none _ _, _ => .snil _ _
  | .slice (some _) _ _, h => by simp [flat] at h
  | .map none, _ => .mnil
  | .map (some _), h => by simp [flat] at h
  | .chan none, _ => .cnil
  | .chan (some _), h => by simp [flat] at h
  | .func fn first captured, h => by
    simp only [flat, Bool.and_eq_true] at h
    refine .func ?_ rfl (VR.of_flatA first h.1.2).2 rfl (VR.of_flatA captured h.2).2
    cases fn with
    | yield l => simp at h
    | _ => constructor
  | .iface t v, h => .iface t (VR.of_flat v (by simpa [flat] using h))
  | .agg cs, h => .agg rfl (VR.of_flatA cs (by simpa [flat] using h)).2
  | .tuple cs, h => .tuple rfl (VR.of_flatA cs (by simpa [flat] using h)).2
theorem VR.of_flatA {π : Pl} : (cs : Array Value) → flatA cs = true → AR π cs cs
  | ⟨l⟩, h => ⟨rfl, fun i hi _ => VR.of_flatL l (by simpa [flatA] using h) i (by simpa using hi)⟩
theorem VR.of_flatL {π : Pl} : (l : List Value) → flatL l = true → ∀ i (h : i < l.length), VR π l[i] l[i]
  | [], _, i, hi => by simp at hi
  | v :: l, h, 0, _ => VR.of_flat v (by simp [flatL] at h; exact h.1)
  | v :: l, h, i + 1, hi => VR.of_flatL l (by simp [flatL] at h; exact h.2) i (by simpa using hi)
end

mutual
theorem VR.eq_of_flat {π : Pl} : (v : Value) → flat v = true → ∀ v', VR π v v' → v' = v
  | .func fn first captured, h, _, .func hf hx hxs hc hcs => by
    simp only [flat, Bool.and_eq_true] at h
    rw [VR.eq_of_flatA first h.1.2 _ ⟨hx, hxs⟩, VR.eq_of_flatA captured h.2 _ ⟨hc, hcs⟩]
    cases hf <;> first | rfl | (simp at h)
  | .iface t v, h, _, .iface _ hv => by rw [VR.eq_of_flat v (by simpa [flat] using h) _ hv]
  | .agg cs, h, _, .agg hc hcs => by rw [VR.eq_of_flatA cs (by simpa [flat] using h) _ ⟨hc, hcs⟩]
  | .tuple cs, h, _, .tuple hc hcs => by rw [VR.eq_of_flatA cs (by simpa [flat] using h) _ ⟨hc, hcs⟩]
  | .bool _, _, _, .bool _ => rfl
  | .int _ _, _, _, .int _ _ => rfl
  | .float _ _, _, _, .float _ _ => rfl
  | .complex _ _ _, _, _, .complex _ _ _ => rfl
  | .string _, _, _, .string _ => rfl
  | .nilFunc, _, _, .nilFunc => rfl
  | .nilIface, _, _, .nilIface => rfl
  | .pointer none, _, _, .pnil => rfl
  | .slice none _ _, _, _, .snil _ _ => rfl
  | .map none, _, _, .mnil => rfl
  | .chan none, _, _, .cnil => rfl
  | .pointer (some _), h, _, _ => by simp [flat] at h
  | .slice (some _) _ _, h, _, _ => by simp [flat] at h
  | .map (some _), h, _, _ => by simp [flat] at h
theorem VR.eq_of_flatA {π : Pl} : (cs : Array Value) → flatA cs = true → ∀ cs', AR π cs cs' → cs' = cs
  | ⟨l⟩, h, ⟨l'⟩, hr => by
    congr 1
    refine VR.eq_of_flatL (π := π) l (by simpa [flatA] using h) l' (by simpa using hr.1) fun i a b => ?_
    have := hr.2 i (by simpa using a) (by simpa using b)
    simpa using this
theorem VR.eq_of_flatL {π : Pl} : (l : List Value) → flatL l = true → ∀ l' : List Value, l.length = l'.length → (∀ i (h : i < l.length) (h' : i < l'.length), VR π l[i] l'[i]) → l' = l
  | [], _, l', hl, _ => by cases l' with | nil => rfl | cons _ _ => simp at hl
  | v :: l, h, [], hl, _ => by simp at hl
  | v :: l, h, v' :: l', hl, hr => by
    simp only [flatL, Bool.and_eq_true] at h
    rw [VR.eq_of_flat v h.1 v' (hr 0 (by simp) (by simp)), VR.eq_of_flatL l h.2 l' (by simpa using hl) fun i a b => hr (i + 1) (by simpa using a) (by simpa using b)]
end

theorem AR.nil {π : Pl} : AR π #[] #[] := ⟨rfl, fun i h => by simp at h⟩
theorem VR.undef {π : Pl} : VR π undef undef := .tuple rfl fun i h => by simp at h
theorem AR.size {π : Pl} {xs ys : Array Value} (h : AR π xs ys) : ys.size = xs.size := h.1.symm
theorem AR.getD {π : Pl} {xs ys : Array Value} (h : AR π xs ys) (i : Nat) : VR π (xs.getD i Go.undef) (ys.getD i Go.undef) := by
  by_cases hi : i < xs.size
  · have hi' : i < ys.size := h.1 ▸ hi
    simp only [Array.getD, hi, hi', dite_true]
    exact h.2 i hi hi'
  · have hi' : ¬ i < ys.size := h.1 ▸ hi
    simp only [Array.getD, hi, hi', dite_false]
    exact .undef
theorem AR.get? {π : Pl} {xs ys : Array Value} (h : AR π xs ys) {i : Nat} {v : Value} (hv : xs[i]? = some v) : ∃ v', ys[i]? = some v' ∧ VR π v v' := by
  obtain ⟨hi, rfl⟩ := Array.getElem?_eq_some_iff.1 hv
  have hi' : i < ys.size := h.1 ▸ hi
  exact ⟨ys[i], Array.getElem?_eq_some_iff.2 ⟨hi', rfl⟩, h.2 i hi hi'⟩
theorem AR.none? {π : Pl} {xs ys : Array Value} (h : AR π xs ys) {i : Nat} (hv : xs[i]? = none) : ys[i]? = none := by
  rw [Array.getElem?_eq_none_iff] at hv ⊢
  rw [← h.1]; exact hv
theorem AR.push {π : Pl} {xs ys : Array Value} (h : AR π xs ys) {v v' : Value} (hv : VR π v v') : AR π (xs.push v) (ys.push v') := by
  refine ⟨by simp [h.1], fun i a b => ?_⟩
  simp only [Array.getElem_push]
  have e := h.1
  split <;> split
  · exact h.2 _ _ _
  · omega
  · omega
  · exact hv
theorem AR.set {π : Pl} {xs ys : Array Value} (h : AR π xs ys) {v v' : Value} (hv : VR π v v') (i : Nat) : AR π (xs.setIfInBounds i v) (ys.setIfInBounds i v') := by
  refine ⟨by simp [h.1], fun j a b => ?_⟩
  simp only [Array.size_setIfInBounds] at a b
  rw [Array.getElem_setIfInBounds a, Array.getElem_setIfInBounds b]
  split
  · exact hv
  · exact h.2 _ _ _
theorem AR.append {π : Pl} {xs ys xs' ys' : Array Value} (h : AR π xs ys) (h' : AR π xs' ys') : AR π (xs ++ xs') (ys ++ ys') := by
  refine ⟨by simp [h.1, h'.1], fun i a b => ?_⟩
  simp only [Array.getElem_append]
  have e := h.1
  split <;> split
  · exact h.2 _ _ _
  · omega
  · omega
  · have := h'.2 (i - xs.size) (by simp at a; omega) (by simp at b; omega)
    simpa only [e] using this
theorem AR.extract {π : Pl} {xs ys : Array Value} (h : AR π xs ys) (a b : Nat) : AR π (xs.extract a b) (ys.extract a b) := by
  refine ⟨by simp [h.1], fun i x y => ?_⟩
  simp only [Array.getElem_extract]
  exact h.2 _ _ _
theorem AR.map {π : Pl} {α : Type} (xs : Array α) {f g : α → Value} (h : ∀ x, x ∈ xs → VR π (f x) (g x)) : AR π (xs.map f) (xs.map g) := by
  refine ⟨by simp, fun i a b => ?_⟩
  simp only [Array.getElem_map]
  exact h _ (Array.getElem_mem _)
theorem AR.replicate {π : Pl} (n : Nat) {v v' : Value} (h : VR π v v') : AR π (Array.replicate n v) (Array.replicate n v') := by
  refine ⟨by simp, fun i a b => ?_⟩
  simp only [Array.getElem_replicate]
  exact h
theorem AR.one {π : Pl} {v v' : Value} (h : VR π v v') : AR π #[v] #[v'] := AR.nil.push h
end Go.Proofs.YtdnccdobnhbpeaaDoor.Ev

namespace Go.Proofs.YtdnccdobnhbpeaaDoor.Ev
open Go

/-! ## The trie -/
theorem Trie.at_leaf {α : Type} (p : List Bool) : Trie.at p (Trie.leaf : Trie α) = none := by cases p <;> rfl
theorem Trie.at_put {α : Type} (o : Option α) : ∀ (q p : List Bool) (t : Trie α), Trie.at p (Trie.put o q t) = if p = q then o else Trie.at p t := by
  intro q
  induction q with
  | nil =>
    intro p t
    cases p with
    | nil => cases t <;> rfl
    | cons b p =>
      cases t with
      | leaf => cases b <;> (show Trie.at p (Trie.leaf : Trie α) = _) <;> rw [if_neg (by simp)] <;> rw [Trie.at_leaf, Trie.at_leaf]
      | node v l r => cases b <;> (rw [if_neg (by simp)]; rfl)
  | cons b q ih =>
    intro p t
    cases p with
    | nil =>
      rw [if_neg (by simp)]
      cases t <;> cases b <;> rfl
    | cons c p =>
      cases t with
      | leaf =>
        cases b <;> cases c
        · show Trie.at p (Trie.put o q .leaf) = _
          rw [ih]
          simp [Trie.at_leaf]
        · show Trie.at p (Trie.leaf : Trie α) = _
          simp [Trie.at_leaf]
        · show Trie.at p (Trie.leaf : Trie α) = _
          simp [Trie.at_leaf]
        · show Trie.at p (Trie.put o q .leaf) = _
          rw [ih]
          simp [Trie.at_leaf]
      | node v l r =>
        cases b <;> cases c
        · show Trie.at p (Trie.put o q r) = _
          rw [ih]
          simp only [List.cons.injEq, true_and]
          rfl
        · show Trie.at p l = _
          simp only [List.cons.injEq, Bool.true_eq_false, false_and, if_false]
          rfl
        · show Trie.at p r = _
          simp only [List.cons.injEq, Bool.false_eq_true, false_and, if_false]
          rfl
        · show Trie.at p (Trie.put o q l) = _
          rw [ih]
          simp only [List.cons.injEq, true_and]
          rfl
theorem pathF_inj : ∀ (d m n : Nat), m < 2 ^ d - 1 → n < 2 ^ d - 1 → pathF d m = pathF d n → m = n := by
  intro d
  induction d with
  | zero => intro m n hm; simp at hm
  | succ d ih =>
    intro m n hm hn h
    have hp : 2 ^ (d + 1) = 2 * 2 ^ d := by rw [Nat.pow_succ]; omega
    cases m with
    | zero => cases n with
      | zero => rfl
      | succ n => simp [pathF] at h
    | succ m => cases n with
      | zero => simp [pathF] at h
      | succ n =>
        simp only [pathF, List.cons.injEq] at h
        have h2 := ih (m / 2) (n / 2) (by omega) (by omega) h.2
        have h1 : (m % 2 = 0) ↔ (n % 2 = 0) := by
          have h0 := h.1
          have e1 : Nat.beq (m % 2) 0 = decide (m % 2 = 0) := by rcases Nat.mod_two_eq_zero_or_one m with e | e <;> rw [e] <;> rfl
          have e2 : Nat.beq (n % 2) 0 = decide (n % 2 = 0) := by rcases Nat.mod_two_eq_zero_or_one n with e | e <;> rw [e] <;> rfl
          rw [e1, e2] at h0
          simpa using h0
        omega
theorem path_inj {m n : Nat} (hm : m < 2 ^ 24 - 1) (hn : n < 2 ^ 24 - 1) : path m = path n ↔ m = n := ⟨pathF_inj 24 m n hm hn, fun e => by rw [e]⟩

theorem ble_true {m n : Nat} (h : m ≤ n) : Nat.ble m n = true := by rw [Nat.ble_eq]; exact h
theorem ble_false {m n : Nat} (h : n < m) : Nat.ble m n = false := by
  cases hb : Nat.ble m n with
  | false => rfl
  | true => rw [Nat.ble_eq] at hb; omega
theorem le_of_ble {m n : Nat} (h : Nat.ble m n = true) : m ≤ n := by rwa [Nat.ble_eq] at h
theorem forceN_eq {β : Type} (k : Nat → β) (n : Nat) : forceN k n = k n := by cases n <;> rfl

/-- All numbers that were given out have their place. -/
def Heap.small (h : Heap) : Prop := h.size ≤ 1048576
theorem Heap.get_eq (h : Heap) (i : Nat) : h.get i = if i < h.size then h.t.at (path i) else none := by
  obtain ⟨n, t⟩ := h
  show (Bool.rec none (t.at (path i)) (Nat.ble (Nat.succ i) n) : Option Obj) = _
  by_cases hi : i < n
  · have : Nat.ble (Nat.succ i) n = true := ble_true hi
    rw [this, if_pos hi]
  · have : Nat.ble (Nat.succ i) n = false := ble_false (by omega)
    rw [this, if_neg hi]
theorem Heap.set_size (h : Heap) (n : Nat) (o : Option Obj) : (h.set n o).size = h.size := by cases h; rfl
theorem Heap.set_t (h : Heap) (n : Nat) (o : Option Obj) : (h.set n o).t = h.t.put o (path n) := by cases h; rfl
theorem Heap.get_set {h : Heap} (hs : h.small) {n : Nat} (hn : n < h.size) (o : Option Obj) (i : Nat) : (h.set n o).get i = if i = n then o else h.get i := by
  unfold Heap.small at hs
  rw [Heap.get_eq, Heap.get_eq, Heap.set_size, Heap.set_t, Trie.at_put]
  by_cases hi : i < h.size
  · simp only [hi, if_true]
    simp only [path_inj (m := i) (n := n) (by omega) (by omega)]
  · simp only [hi, if_false]
    rw [if_neg (by omega)]
theorem Heap.get_lt {h : Heap} {i : Nat} {o : Obj} (hg : h.get i = some o) : i < h.size := by
  rw [Heap.get_eq] at hg
  split at hg
  · assumption
  · cases hg
theorem Heap.push_spec {h h' : Heap} {o : Obj} (hp : h.push o = some h') : h'.size = h.size + 1 ∧ h'.small ∧ ∀ i, h'.get i = if i = h.size then some o else h.get i := by
  obtain ⟨n, t⟩ := h
  have hp' : (Bool.rec none (forceN (fun m => some ⟨m, t.put (some o) (path n)⟩) (Nat.succ n)) (Nat.ble (Nat.succ n) 1048576) : Option Heap) = some h' := hp
  cases hb : Nat.ble (Nat.succ n) 1048576 with
  | false => rw [hb] at hp'; cases hp'
  | true =>
    rw [hb, forceN_eq] at hp'
    have hn := le_of_ble hb
    simp only [Option.some.injEq] at hp'
    subst hp'
    refine ⟨rfl, hn, fun i => ?_⟩
    rw [Heap.get_eq, Heap.get_eq]
    simp only
    rw [Trie.at_put]
    by_cases hi : i = n
    · subst hi
      simp
    · by_cases h2 : i < n
      · have h3 : i < Nat.succ n := by omega
        have h4 : ¬ path i = path n := fun e => hi ((path_inj (by omega) (by omega)).1 e)
        simp [hi, h2, h3, h4]
      · have h3 : ¬ i < Nat.succ n := by omega
        simp [hi, h2, h3]

/-! ## Objects -/
inductive TargetR (π : Pl) : Target → Target → Prop
  | fn {fn fn' : Fn} {cs cs' : Array Value} (hf : FnR π fn fn') (hc : AR π cs cs') : TargetR π (.fn fn cs) (.fn fn' cs')
  | nil : TargetR π .nil .nil
  | builtin (b : Builtin) (ts : Array TypeId) (t : TypeId) (c : Array Bool) : TargetR π (.builtin b ts t c) (.builtin b ts t c)
  | collected {r k m : Nat} (h : π r = some (k, m)) : TargetR π (.collected r) (.collected k)
structure DefR (π : Pl) (d d' : Deferred) : Prop where
  target : TargetR π d.target d'.target
  args : AR π d.args d'.args
structure LoopR (π : Pl) (l l' : Loop) : Prop where
  state : l'.state = l.state
  pending : l'.pending = l.pending
  fn : l'.fn = l.fn
  tmps : AR π l.tmps l'.tmps
  params : l'.params = l.params
  assign : l'.assign = l.assign
  body : l'.body = l.body
  defers : ∃ m, π l.defers = some (l'.defers, m)
structure EntryR (π : Pl) (e e' : MapEntry) : Prop where
  key : VR π e.key e'.key
  val : VR π e.val e'.val
  born : e'.born = e.born

inductive ObjR (P : Program) (π : Pl) : Nat → Obj → Obj → Prop
  | cells {c c' : Array Value} (e : TypeId) (h : AR π c c') : ObjR P π 0 (.cells c e (0, 0)) (.cells c' e (0, 0))
  | table {c c' : Array Value} (e e' : TypeId) (f : Nat) (f' : Nat × Nat) (h : ∀ (i : Nat) (v : Value), c[i]? = some v → ∃ v', c'[i]? = some v' ∧ VR π v v') : ObjR P π 0 (.cells c e (1, f)) (.cells c' e' f')
  | grown {m : Nat} {c c' : Array Value} (e : TypeId) (i : TypeInfo) (hi : P.info? e = some i) (hs : c'.size = c.size + m * i.size) (h : AR π c (c'.extract 0 c.size)) : ObjR P π m (.pending c e) (.cells c' e (0, 0))
  | loop {l l' : Loop} (h : LoopR π l l') : ObjR P π 0 (.loop l) (.loop l')
  | deferred {ds ds' : List Deferred} (hl : ds.length = ds'.length) (h : ∀ i (a : i < ds.length) (b : i < ds'.length), DefR π ds[i] ds'[i]) : ObjR P π 0 (.deferred (some ds)) (.deferred (some ds'))
  | taken : ObjR P π 0 (.deferred none) (.deferred none)
  | map {es es' : Array MapEntry} (clock : Nat) (hl : es.size = es'.size) (h : ∀ i (a : i < es.size) (b : i < es'.size), EntryR π es[i] es'[i]) : ObjR P π 0 (.map es clock) (.map es' clock)
  | mapIter {r k m : Nat} (h : π r = some (k, m)) (since : Nat) (seen : Array Nat) (stepped : Nat) : ObjR P π 0 (.mapIter (some r) since seen stepped) (.mapIter (some k) since seen stepped)
  | mapIterNil (since : Nat) (seen : Array Nat) (stepped : Nat) : ObjR P π 0 (.mapIter none since seen stepped) (.mapIter none since seen stepped)
  | stringIter (s : ByteArray) (pos : Nat) : ObjR P π 0 (.stringIter s pos) (.stringIter s pos)

theorem TargetR.mono {π π' : Pl} (h : π.le π') {d d' : Target} (r : TargetR π d d') : TargetR π' d d' := by
  cases r with
  | fn hf hc => exact .fn (hf.mono h) (hc.mono h)
  | nil => exact .nil
  | builtin => exact .builtin _ _ _ _
  | collected hr => exact .collected (h _ _ hr)
theorem DefR.mono {π π' : Pl} (h : π.le π') {d d' : Deferred} (r : DefR π d d') : DefR π' d d' := ⟨r.target.mono h, r.args.mono h⟩
theorem LoopR.mono {π π' : Pl} (h : π.le π') {d d' : Loop} (r : LoopR π d d') : LoopR π' d d' := { r with tmps := r.tmps.mono h, defers := let ⟨m, hm⟩ := r.defers; ⟨m, h _ _ hm⟩ }
theorem EntryR.mono {π π' : Pl} (h : π.le π') {d d' : MapEntry} (r : EntryR π d d') : EntryR π' d d' := ⟨r.key.mono h, r.val.mono h, r.born⟩
theorem ObjR.mono {P : Program} {π π' : Pl} (h : π.le π') {m : Nat} {d d' : Obj} (r : ObjR P π m d d') : ObjR P π' m d d' := by
  cases r with
  | cells e hc => exact .cells e (hc.mono h)
  | table e e' f f' hc => exact .table e e' f f' fun i v hv => let ⟨v', a, b⟩ := hc i v hv; ⟨v', a, b.mono h⟩
  | grown e i hi hs hc => exact .grown e i hi hs (hc.mono h)
  | loop hl => exact .loop (hl.mono h)
  | deferred hl hd => exact .deferred hl fun i a b => (hd i a b).mono h
  | taken => exact .taken
  | map c hl hd => exact .map c hl fun i a b => (hd i a b).mono h
  | mapIter hr => exact .mapIter (h _ _ hr) _ _ _
  | mapIterNil => exact .mapIterNil _ _ _
  | stringIter => exact .stringIter _ _

/-- The small heap lies in the great world. -/
structure Emb (P : Program) (π : Pl) (h : Heap) (w : World) : Prop where
  small : h.small
  blk : ∀ i o, h.get i = some o → ∃ k m o', π i = some (k, m) ∧ w.heap[k]? = some o' ∧ ObjR P π m o o'
  inj : ∀ i j oi oj k m m', h.get i = some oi → h.get j = some oj → π i = some (k, m) → π j = some (k, m') → i = j
  fresh : ∀ i, h.size ≤ i → π i = none
  range : ∀ i k m, π i = some (k, m) → k < w.heap.size

/-- What a run over the small heap leaves of the great world. -/
structure Keep (b : Bar) (h : Heap) (π : Pl) (w : World) (h' : Heap) (π' : Pl) (w' : World) : Prop where
  os : w'.os = w.os
  tape : w'.tape = w.tape
  output : w'.output = w.output
  size : w.heap.size ≤ w'.heap.size
  hsize : h.size ≤ h'.size
  frame : ∀ k, k < w.heap.size → (∀ i o m, b.ok i = true → h.get i = some o → π i ≠ some (k, m)) → w'.heap[k]? = w.heap[k]?
  live : ∀ i o k m, b.ok i = true → h'.get i = some o → π' i = some (k, m) → w.heap.size ≤ k ∨ ∃ j oj mj, b.ok j = true ∧ h.get j = some oj ∧ π j = some (k, mj)
  le : π.le π'
  old : ∀ i, i < h.size → π' i = π i
set_option linter.unusedVariables false
theorem Keep.refl {b : Bar} {h : Heap} {π : Pl} {w : World} : Keep b h π w h π w :=
  ⟨rfl, rfl, rfl, Nat.le_refl _, Nat.le_refl _, fun _ _ _ => rfl, fun i o k m hb ho hk => .inr ⟨i, o, m, hb, ho, hk⟩, π.le_refl, fun _ _ => rfl⟩
theorem Keep.trans {c : Bar} {h₁ h₂ h₃ : Heap} {π₁ π₂ π₃ : Pl} {w₁ w₂ w₃ : World} (a : Keep c h₁ π₁ w₁ h₂ π₂ w₂) (b : Keep c h₂ π₂ w₂ h₃ π₃ w₃) : Keep c h₁ π₁ w₁ h₃ π₃ w₃ := by
  refine ⟨b.os.trans a.os, b.tape.trans a.tape, b.output.trans a.output, Nat.le_trans a.size b.size, Nat.le_trans a.hsize b.hsize, fun k hk hn => ?_, fun i o k m hb ho hk => ?_, a.le.trans b.le, fun i hi => (b.old i (Nat.lt_of_lt_of_le hi a.hsize)).trans (a.old i hi)⟩
  · rw [b.frame k (Nat.lt_of_lt_of_le hk a.size) fun i o m hb ho e => ?_, a.frame k hk hn]
    rcases a.live i o k m hb ho e with h | ⟨j, oj, mj, hbj, hj, ej⟩
    · omega
    · exact hn j oj mj hbj hj ej
  · rcases b.live i o k m hb ho hk with h | ⟨j, oj, mj, hbj, hj, ej⟩
    · exact .inl (Nat.le_trans a.size h)
    · exact a.live j oj k mj hbj hj ej

/-- What the small steps do, the great ones do. -/
def SemR (P : Program) (lo : Bar) {α β : Type} (π : Pl) (s : Sem α) (s' : Sem β) (R : Pl → α → β → Prop) : Prop :=
  ∀ π₁, π.le π₁ → ∀ h w, Emb P π₁ h w → ∀ a h', lsem P lo s h = some (a, h') →
    ∃ π₂ b w', s'.run P w = .ok b w' ∧ Emb P π₂ h' w' ∧ R π₂ a b ∧ Keep lo h π₁ w h' π₂ w'

theorem lsem_bind (P : Program) (lo : Bar) {α β : Type} (s : Sem α) (f : α → Sem β) : ∀ h, lsem P lo (s.bind f) h = match lsem P lo s h with | some (a, h) => lsem P lo (f a) h | none => none := by
  induction s with
  | pure a => intro h; rfl
  | load m a k ih => intro h; simp only [Sem.bind, lsem]; cases h.cell a with | none => rfl | some v => exact ih _ _
  | store m a v k ih => intro h; simp only [Sem.bind, lsem]; cases h.put lo a v with | none => rfl | some v => exact ih _
  | new o k ih =>
    intro h
    simp only [Sem.bind, lsem]
    by_cases hf : fine o = true
    · simp only [hf, if_true]
      cases h.push o with | none => rfl | some h' => exact ih _ _
    · simp [hf]
  | getObj r k ih => intro h; simp only [Sem.bind, lsem]; cases h.obj r with | none => rfl | some v => exact ih _ _
  | setObj r o k ih => intro h; simp only [Sem.bind, lsem]; cases h.putObj lo r o with | none => rfl | some v => exact ih _
  | choose q k ih =>
    intro h
    simp only [Sem.bind, lsem]
    cases q.forced with | false => rfl | true => exact ih _ _
  | program k ih => intro h; exact ih _ _
  | mark m k ih => intro h; exact ih _
  | _ => intro h; rfl
theorem lsem_bind' (P : Program) (lo : Bar) {α β : Type} (s : Sem α) (f : α → Sem β) (h : Heap) : lsem P lo (s >>= f) h = match lsem P lo s h with | some (a, h) => lsem P lo (f a) h | none => none := lsem_bind P lo s f h
end Go.Proofs.YtdnccdobnhbpeaaDoor.Ev

namespace Go.Proofs.YtdnccdobnhbpeaaDoor.Ev
open Go
set_option linter.unusedVariables false
section
variable {P : Program} {lo : Bar} {π : Pl}

theorem SemR.mono {α β : Type} {s : Sem α} {s' : Sem β} {R R' : Pl → α → β → Prop} (h : SemR P lo π s s' R) (hr : ∀ π' a b, π.le π' → R π' a b → R' π' a b) : SemR P lo π s s' R' :=
  fun π₁ h1 H w hE a H' hs => let ⟨π₂, b, w', e, hE', r, k⟩ := h π₁ h1 H w hE a H' hs; ⟨π₂, b, w', e, hE', hr _ _ _ (h1.trans k.le) r, k⟩
theorem SemR.le {α β : Type} {s : Sem α} {s' : Sem β} {R : Pl → α → β → Prop} {π' : Pl} (hl : π.le π') (h : SemR P lo π s s' R) : SemR P lo π' s s' R :=
  fun π₁ h1 => h π₁ (hl.trans h1)
theorem SemR.pure {α β : Type} {a : α} {b : β} {R : Pl → α → β → Prop} (h : ∀ π', π.le π' → R π' a b) : SemR P lo π (.pure a) (.pure b) R := by
  intro π₁ h1 H w hE x H' hs
  simp only [lsem, Option.some.injEq, Prod.mk.injEq] at hs
  obtain ⟨rfl, rfl⟩ := hs
  exact ⟨π₁, b, w, rfl, hE, h _ h1, .refl⟩
theorem SemR.pure' {α β : Type} {a : α} {b : β} {R : Pl → α → β → Prop} (h : ∀ π', π.le π' → R π' a b) : SemR P lo π (Pure.pure a) (Pure.pure b) R := SemR.pure h
theorem SemR.bind {α β γ δ : Type} {s : Sem α} {s' : Sem β} {f : α → Sem γ} {f' : β → Sem δ} {R : Pl → α → β → Prop} {R' : Pl → γ → δ → Prop}
    (h : SemR P lo π s s' R) (hf : ∀ π', π.le π' → ∀ a b, R π' a b → SemR P lo π' (f a) (f' b) R') : SemR P lo π (s >>= f) (s' >>= f') R' := by
  intro π₁ h1 H w hE x H' hs
  rw [lsem_bind'] at hs
  cases h0 : lsem P lo s H with
  | none => rw [h0] at hs; cases hs
  | some r =>
    obtain ⟨a, H₁⟩ := r
    rw [h0] at hs
    obtain ⟨π₂, b, w₁, e, hE₁, hr, k⟩ := h π₁ h1 H w hE a H₁ h0
    obtain ⟨π₃, c, w₂, e₂, hE₂, hr₂, k₂⟩ := hf π₂ (h1.trans k.le) a b hr π₂ (Pl.le_refl _) H₁ w₁ hE₁ x H' hs
    exact ⟨π₃, c, w₂, by simp [e, e₂], hE₂, hr₂, k.trans k₂⟩
theorem SemR.halt {α β : Type} {x : Halt} {s' : Sem β} {R : Pl → α → β → Prop} : SemR P lo π (.halt x : Sem α) s' R := by
  intro π₁ h1 H w hE x H' hs; cases hs
theorem SemR.stuck {α β : Type} {x : String} {s' : Sem β} {R : Pl → α → β → Prop} : SemR P lo π (Go.stuck x : Sem α) s' R := SemR.halt
theorem SemR.unsupported {α β : Type} {x : Unsupported} {s' : Sem β} {R : Pl → α → β → Prop} : SemR P lo π (Go.unsupported x : Sem α) s' R := SemR.halt
theorem SemR.goPanic {α β : Type} {x : Value} {s' : Sem β} {R : Pl → α → β → Prop} : SemR P lo π (Go.goPanic x : Sem α) s' R := SemR.halt
theorem SemR.throw {α β : Type} {x : String} {s' : Sem β} {R : Pl → α → β → Prop} : SemR P lo π (Go.throw x : Sem α) s' R := SemR.halt
/-- What never ends well in the small world. -/
theorem SemR.never {α β : Type} {s : Sem α} {s' : Sem β} {R : Pl → α → β → Prop} (h : ∀ H, lsem P lo s H = none) : SemR P lo π s s' R := by
  intro π₁ h1 H w hE x H' hs; rw [h] at hs; cases hs
theorem never_bind {α β : Type} {s : Sem α} {f : α → Sem β} (h : ∀ a H, lsem P lo (f a) H = none) : ∀ H, lsem P lo (s >>= f) H = none := by
  intro H
  rw [lsem_bind']
  cases lsem P lo s H with
  | none => rfl
  | some r => exact h _ _
theorem never_runtimePanic {α : Type} (e : RuntimeError) : ∀ H, lsem P lo (Go.runtimePanic e : Sem α) H = none := by
  unfold Go.runtimePanic
  refine never_bind fun p H => ?_
  cases e <;> first | rfl | (refine never_bind (fun a H => ?_) _; first | rfl | (refine never_bind (fun a H => ?_) _; rfl))
theorem SemR.runtimePanic {α β : Type} {x : RuntimeError} {s' : Sem β} {R : Pl → α → β → Prop} : SemR P lo π (Go.runtimePanic x : Sem α) s' R := .never (never_runtimePanic _)
theorem SemR.boundsPanic {α β : Type} {k : IntKind} {x y : Int} {c : BoundsCode} {s' : Sem β} {R : Pl → α → β → Prop} : SemR P lo π (Go.boundsPanic k x y c : Sem α) s' R :=
  .never (by
    unfold Go.boundsPanic
    intro H
    dsimp only
    split
    · exact never_bind (fun _ _ => never_runtimePanic _ _) H
    · exact never_bind (fun _ _ => never_runtimePanic _ _) H)
theorem SemR.program : SemR P lo π Go.program Go.program (fun _ a b => a = P ∧ b = P) := by
  intro π₁ h1 H w hE x H' hs
  simp only [Go.program, lsem, Option.some.injEq, Prod.mk.injEq] at hs
  obtain ⟨rfl, rfl⟩ := hs
  exact ⟨π₁, _, w, rfl, hE, ⟨rfl, rfl⟩, .refl⟩
theorem SemR.mark {m : Mark} : SemR P lo π (Go.mark m) (Go.mark m) (fun _ _ _ => True) := by
  intro π₁ h1 H w hE x H' hs
  simp only [Go.mark, lsem, Option.some.injEq, Prod.mk.injEq] at hs
  obtain ⟨_, rfl⟩ := hs
  exact ⟨π₁, (), w, rfl, hE, trivial, .refl⟩
theorem SemR.choose {q : Question} : SemR P lo π (Go.choose q) (Go.choose q) (fun _ a b => a = 0 ∧ b = 0) := by
  intro π₁ h1 H w hE x H' hs
  simp only [Go.choose, lsem] at hs
  split at hs
  · rename_i hq
    simp only [Option.some.injEq, Prod.mk.injEq] at hs
    obtain ⟨rfl, rfl⟩ := hs
    exact ⟨π₁, 0, w, by simp [hq], hE, ⟨rfl, rfl⟩, .refl⟩
  · cases hs

/-! ## Cells -/
theorem Emb.cell {h : Heap} {w : World} (hE : Emb P π h w) {b off : Nat} {spot : Option Nat} {v : Value} (hc : h.cell ⟨b, off, spot⟩ = some v) {k m : Nat} (hk : π b = some (k, m)) :
    ∃ v', w.cell? ⟨k, off, spot⟩ = some v' ∧ VR π v v' := by
  unfold Heap.cell at hc
  split at hc
  · cases hc
  · rename_i hs
    have hs : spot = none := by cases spot with | none => rfl | some _ => simp at hs
    subst hs
    simp only at hc
    split at hc
    · rename_i c e fz hg
      obtain ⟨k', m', o', h1, h2, h3⟩ := hE.blk _ _ hg
      rw [hk] at h1
      cases h1
      cases h3 with
      | cells e ha =>
        obtain ⟨v', hv', hr⟩ := ha.get? (by simpa using hc)
        exact ⟨v', by simp [World.cell?, h2, hv'], hr⟩
      | table e e' f f' ha =>
        obtain ⟨v', hv', hr⟩ := ha off v (by simpa using hc)
        exact ⟨v', by simp [World.cell?, h2, hv'], hr⟩
    · rename_i c e hg
      obtain ⟨k', m', o', h1, h2, h3⟩ := hE.blk _ _ hg
      rw [hk] at h1
      cases h1
      cases h3 with
      | grown e i hi hs ha =>
        obtain ⟨v', hv', hr⟩ := ha.get? (by simpa using hc)
        refine ⟨v', ?_, hr⟩
        simp only [World.cell?, h2, Option.isSome_none, Bool.false_eq_true, if_false]
        rw [Array.getElem?_extract] at hv'
        split at hv'
        · simpa using hv'
        · cases hv'
    · cases hc
theorem SemR.load {b k m off : Nat} {spot : Option Nat} {md : Mode} (hk : π b = some (k, m)) : SemR P lo π (Go.load ⟨b, off, spot⟩ md) (Go.load ⟨k, off, spot⟩ md) VR := by
  intro π₁ h1 H w hE x H' hs
  simp only [Go.load, lsem] at hs
  split at hs
  · rename_i v hv
    simp only [Option.some.injEq, Prod.mk.injEq] at hs
    obtain ⟨rfl, rfl⟩ := hs
    obtain ⟨v', hv', hr⟩ := hE.cell hv (h1 _ _ hk)
    exact ⟨π₁, v', w, by simp [hv'], hE, hr, .refl⟩
  · cases hs

theorem setAt_spec (v : Value) : ∀ (i : Nat) (l l' : List Value), setAt v i l = some l' → i < l.length ∧ l' = l.set i v := by
  intro i
  induction i with
  | zero =>
    intro l l' h
    cases l with
    | nil => cases h
    | cons x l => cases h; exact ⟨by simp, rfl⟩
  | succ i ih =>
    intro l l' h
    cases l with
    | nil => cases h
    | cons x l =>
      simp only [setAt] at h
      cases hs : setAt v i l with
      | none => rw [hs] at h; cases h
      | some l2 =>
        rw [hs] at h
        cases h
        obtain ⟨a, b⟩ := ih l l2 hs
        exact ⟨by simpa using a, by rw [b]; rfl⟩
theorem setAt_array {v : Value} {i : Nat} {c : Array Value} {l : List Value} (h : setAt v i c.toList = some l) : i < c.size ∧ (⟨l⟩ : Array Value) = c.setIfInBounds i v := by
  obtain ⟨a, b⟩ := setAt_spec v i _ _ h
  refine ⟨by simpa using a, ?_⟩
  rw [b]
  apply Array.ext'
  simp
theorem VR.oneCell {v v' : Value} (h : VR π v v') (hn : wide v = false) : v'.oneCell' = true := by
  cases h <;> first | rfl | (simp [wide] at hn)

theorem Emb.setCell {h h' : Heap} {w : World} (hE : Emb P π h w) {md : Mode} {b off : Nat} {spot : Option Nat} {v v' : Value} (hp : h.put lo ⟨b, off, spot⟩ v = some h') {k m : Nat} (hk : π b = some (k, m)) (hv : VR π v v') :
    (Go.store ⟨k, off, spot⟩ v' md).run P w = .ok () (w.setCell ⟨k, off, spot⟩ v') ∧ Emb P π h' (w.setCell ⟨k, off, spot⟩ v') ∧ Keep lo h π w h' π (w.setCell ⟨k, off, spot⟩ v') := by
  unfold Heap.put at hp
  split at hp
  · cases hp
  rename_i hb
  simp only [Bool.or_eq_true, Bool.not_eq_true', not_or, Bool.not_eq_false, Bool.not_eq_true] at hb
  obtain ⟨⟨hone, hbok⟩, hs⟩ := hb
  have hs : spot = none := by
    cases spot with
    | none => rfl
    | some _ => simp at hs
  subst hs
  simp only at hp
  -- the shape of both blocks
  have main : ∀ (o o2 : Obj) (c c' : Array Value) (e : TypeId), h.get b = some o → h' = h.set b (some o2) → w.heap[k]? = some (.cells c' e (0, 0)) → off < c'.size →
      ObjR P π m o2 (.cells (c'.setIfInBounds off v') e (0, 0)) →
      (Go.store ⟨k, off, none⟩ v' md).run P w = .ok () (w.setCell ⟨k, off, none⟩ v') ∧ Emb P π h' (w.setCell ⟨k, off, none⟩ v') ∧ Keep lo h π w h' π (w.setCell ⟨k, off, none⟩ v') := by
    intro o o2 c c' e hg hh hw hoff hobj
    have hget : ∀ i, h'.get i = if i = b then some o2 else h.get i := by
      intro i; rw [hh]; exact Heap.get_set hE.small (Heap.get_lt hg) _ i
    have hkl : k < w.heap.size := (Array.getElem?_eq_some_iff.1 hw).1
    have hwk : ∀ j, (w.setCell ⟨k, off, none⟩ v').heap[j]? = if j = k then some (.cells (c'.setIfInBounds off v') e (0, 0)) else w.heap[j]? := by
      intro j
      simp only [World.setCell, Array.getElem?_modify]
      by_cases hj : j = k
      · subst hj
        simp [hw]
      · have hj' : ¬ k = j := fun e => hj e.symm
        simp [hj, hj']
    refine ⟨?_, ⟨?_, ?_, ?_, ?_, ?_⟩, ⟨rfl, rfl, rfl, ?_, ?_, ?_, ?_, Pl.le_refl _, fun _ _ => rfl⟩⟩
    · rw [run_store P w _ v' md (hv.oneCell hone)]
      have hcell : w.cell? ⟨k, off, none⟩ = some c'[off] := by simp [World.cell?, hw, hoff]
      have hfr : w.frozen? ⟨k, off, none⟩ = false := by simp [World.frozen?, hw]
      simp [hcell, hfr]
    · rw [hh]; unfold Heap.small; rw [Heap.set_size]; exact hE.small
    · intro i oi hi
      rw [hget] at hi
      by_cases hib : i = b
      · subst hib
        simp only [if_true, Option.some.injEq] at hi
        subst hi
        exact ⟨k, m, _, hk, by rw [hwk]; simp, hobj⟩
      · rw [if_neg hib] at hi
        obtain ⟨k', m', o', a1, a2, a3⟩ := hE.blk i oi hi
        have hne : k' ≠ k := fun e => hib (hE.inj i b oi o k m' m hi hg (e ▸ a1) hk)
        exact ⟨k', m', o', a1, by rw [hwk, if_neg hne]; exact a2, a3⟩
    · intro i j oi oj k1 m1 m2 hi hj a1 a2
      have conv : ∀ i oi, h'.get i = some oi → ∃ oi', h.get i = some oi' := by
        intro i oi hi
        rw [hget] at hi
        by_cases hib : i = b
        · subst hib; exact ⟨o, hg⟩
        · rw [if_neg hib] at hi; exact ⟨oi, hi⟩
      obtain ⟨_, hi'⟩ := conv i oi hi
      obtain ⟨_, hj'⟩ := conv j oj hj
      exact hE.inj i j _ _ k1 m1 m2 hi' hj' a1 a2
    · intro i hi; rw [hh, Heap.set_size] at hi; exact hE.fresh i hi
    · intro i k1 m1 hi; simpa using hE.range i k1 m1 hi
    · simp
    · rw [hh, Heap.set_size]; exact Nat.le_refl _
    · intro j hj hn
      rw [hwk, if_neg]
      rintro rfl
      exact hn b o m hbok hg hk
    · intro i oi k1 m1 hbi hi a1
      rw [hget] at hi
      by_cases hib : i = b
      · subst hib; exact .inr ⟨i, o, m1, hbi, hg, a1⟩
      · rw [if_neg hib] at hi; exact .inr ⟨i, oi, m1, hbi, hi, a1⟩
  split at hp
  · rename_i c e fz hg
    cases hfz : (Nat.beq fz.1 0 && Nat.beq fz.2 0) with
    | false => rw [hfz] at hp; cases hp
    | true =>
    rw [hfz] at hp
    simp only [cond_true] at hp
    split at hp
    · rename_i l hset
      obtain ⟨hoff, hl⟩ := setAt_array hset
      obtain ⟨k', m', o', h1, h2, h3⟩ := hE.blk _ _ hg
      rw [hk] at h1
      cases h1
      cases h3 with
      | @cells _ c' e ha =>
        rw [hl] at hp
        exact main _ _ c c' e hg (by simpa using hp.symm) h2 (ha.1 ▸ hoff) (.cells e (ha.set hv off))
      | table e e' f f' ha => simp at hfz
    · cases hp
  · rename_i c e hg
    split at hp
    · rename_i l hset
      obtain ⟨hoff, hl⟩ := setAt_array hset
      rw [hl] at hp
      obtain ⟨k', m', o', h1, h2, h3⟩ := hE.blk _ _ hg
      rw [hk] at h1
      cases h1
      cases h3 with
      | @grown _ _ c' e i hi hs ha =>
        refine main _ _ c c' e hg (by simpa using hp.symm) h2 (by omega) (.grown e i hi (by simpa using hs) ?_)
        have := ha.set hv off
        refine ⟨by simp; omega, fun j a b => ?_⟩
        have e1 : (c'.setIfInBounds off v').extract 0 (c.setIfInBounds off v).size = (c'.extract 0 c.size).setIfInBounds off v' := by
          apply Array.ext
          · simp
          · intro q q1 q2
            simp only [Array.getElem_extract, Nat.zero_add]
            have q1' : q < c'.size := by simp at q1; omega
            have q2' : q < (c'.extract 0 c.size).size := by simpa using q2
            rw [Array.getElem_setIfInBounds q1', Array.getElem_setIfInBounds q2']
            simp
        simp only [e1]
        exact this.2 j a _
    · cases hp
  · cases hp
theorem SemR.store {b k m off : Nat} {spot : Option Nat} {md : Mode} (hk : π b = some (k, m)) {v v' : Value} (hv : VR π v v') : SemR P lo π (Go.store ⟨b, off, spot⟩ v md) (Go.store ⟨k, off, spot⟩ v' md) (fun _ _ _ => True) := by
  intro π₁ h1 H w hE x H' hs
  simp only [Go.store, lsem] at hs
  split at hs
  · rename_i h2 hp
    simp only [Option.some.injEq, Prod.mk.injEq] at hs
    obtain ⟨_, rfl⟩ := hs
    obtain ⟨a, b, c⟩ := hE.setCell hp (h1 _ _ hk) (hv.mono h1)
    exact ⟨π₁, (), _, a, b, trivial, c⟩
  · cases hs

/-! ## New blocks -/
def Pl.with (π : Pl) (i k m : Nat) : Pl := fun j => if j = i then some (k, m) else π j
theorem Pl.le_with {π : Pl} {i k m : Nat} (h : π i = none) : π.le (π.with i k m) := by
  intro j x hx
  unfold Pl.with
  by_cases e : j = i
  · subst e; rw [h] at hx; cases hx
  · rw [if_neg e]; exact hx
theorem Emb.push {h h' : Heap} {w w' : World} (hE : Emb P π h w) {o o' : Obj} {m : Nat} (hp : h.push o = some h') (ho : ObjR P (π.with h.size w.heap.size m) m o o') (hw : w'.heap = w.heap.push o')
    (h1 : w'.os = w.os) (h2 : w'.tape = w.tape) (h3 : w'.output = w.output) :
    Emb P (π.with h.size w.heap.size m) h' w' ∧ Keep lo h π w h' (π.with h.size w.heap.size m) w' := by
  obtain ⟨hsz, hsm, hget⟩ := Heap.push_spec hp
  have hle : π.le (π.with h.size w.heap.size m) := Pl.le_with (hE.fresh _ (Nat.le_refl _))
  have hold : ∀ i, i < h.size → (π.with h.size w.heap.size m) i = π i := fun i hi => by unfold Pl.with; rw [if_neg (by omega)]
  have hnew : (π.with h.size w.heap.size m) h.size = some (w.heap.size, m) := by simp [Pl.with]
  have hwk : ∀ j, w'.heap[j]? = if j = w.heap.size then some o' else w.heap[j]? := by intro j; rw [hw, Array.getElem?_push]
  refine ⟨⟨hsm, ?_, ?_, ?_, ?_⟩, ⟨h1, h2, h3, by rw [hw]; simp, by omega, ?_, ?_, hle, hold⟩⟩
  · intro i oi hi
    rw [hget] at hi
    by_cases e : i = h.size
    · subst e
      simp only [if_true, Option.some.injEq] at hi
      subst hi
      exact ⟨_, _, o', hnew, by rw [hwk]; simp, ho⟩
    · rw [if_neg e] at hi
      obtain ⟨k, m', oo, a1, a2, a3⟩ := hE.blk i oi hi
      refine ⟨k, m', oo, hle _ _ a1, ?_, a3.mono hle⟩
      have := hE.range _ _ _ a1
      rw [hwk, if_neg (by omega)]
      exact a2
  · intro i j oi oj k m1 m2 hi hj a1 a2
    rw [hget] at hi hj
    by_cases ei : i = h.size
    · by_cases ej : j = h.size
      · rw [ei, ej]
      · rw [if_neg ej] at hj
        rw [ei, hnew] at a1
        rw [hold j (Heap.get_lt hj)] at a2
        have := hE.range _ _ _ a2
        cases a1
        omega
    · rw [if_neg ei] at hi
      rw [hold i (Heap.get_lt hi)] at a1
      by_cases ej : j = h.size
      · rw [ej, hnew] at a2
        have := hE.range _ _ _ a1
        cases a2
        omega
      · rw [if_neg ej] at hj
        rw [hold j (Heap.get_lt hj)] at a2
        exact hE.inj i j oi oj k m1 m2 hi hj a1 a2
  · intro i hi
    unfold Pl.with
    rw [if_neg (by omega)]
    exact hE.fresh i (by omega)
  · intro i k m1 hi
    unfold Pl.with at hi
    split at hi
    · cases hi; rw [hw]; simp
    · have := hE.range _ _ _ hi; rw [hw]; simp; omega
  · intro k hk hn
    rw [hwk, if_neg (by omega)]
  · intro i oi k m1 hbi hi a1
    rw [hget] at hi
    by_cases e : i = h.size
    · rw [e, hnew] at a1
      cases a1
      exact .inl (Nat.le_refl _)
    · rw [if_neg e] at hi
      rw [hold i (Heap.get_lt hi)] at a1
      exact .inr ⟨i, oi, m1, hbi, hi, a1⟩
theorem SemR.new {o o' : Obj} (ho : fine o = true → ∀ π', π.le π' → ObjR P π' 0 o o') : SemR P lo π (Go.newObj o) (Go.newObj o') (fun π r r' => π r = some (r', 0)) := by
  intro π₁ h1 H w hE x H' hs
  simp only [Go.newObj, lsem] at hs
  split at hs
  · rename_i hf
    split at hs
    · rename_i h2 hp
      simp only [Option.some.injEq, Prod.mk.injEq] at hs
      obtain ⟨rfl, rfl⟩ := hs
      have hle : π₁.le (π₁.with H.size w.heap.size 0) := Pl.le_with (hE.fresh _ (Nat.le_refl _))
      obtain ⟨a, b⟩ := hE.push (w' := { w with heap := w.heap.push o' }) hp (ho hf _ (h1.trans hle)) rfl rfl rfl rfl
      exact ⟨_, _, _, rfl, a, by simp [Pl.with], b⟩
    · cases hs
  · cases hs

/-! ## Other objects -/
theorem Emb.obj {h : Heap} {w : World} (hE : Emb P π h w) {r : Nat} {o : Obj} (hr : h.obj r = some o) {k m : Nat} (hk : π r = some (k, m)) :
    m = 0 ∧ ∃ o', w.heap[k]? = some o' ∧ ObjR P π 0 o o' ∧ (∀ c e f, o' ≠ .cells c e f) := by
  unfold Heap.obj at hr
  have hg : h.get r = some o ∧ (∀ c e f, o ≠ .cells c e f) ∧ (∀ c e, o ≠ .pending c e) := by
    split at hr
    · cases hr
    · cases hr
    · rename_i n1 n2
      refine ⟨hr, ?_, ?_⟩
      · rintro c e f rfl; exact n1 _ _ _ hr
      · rintro c e rfl; exact n2 _ _ hr
  obtain ⟨k', m', o', h1, h2, h3⟩ := hE.blk _ _ hg.1
  rw [hk] at h1
  cases h1
  cases h3 with
  | cells e ha => exact absurd rfl (hg.2.1 _ _ _)
  | table e e' f f' ha => exact absurd rfl (hg.2.1 _ _ _)
  | grown e i hi hs ha => exact absurd rfl (hg.2.2 _ _)
  | loop hl => exact ⟨rfl, _, h2, .loop hl, by simp⟩
  | deferred hl hd => exact ⟨rfl, _, h2, .deferred hl hd, by simp⟩
  | taken => exact ⟨rfl, _, h2, .taken, by simp⟩
  | map c hl hd => exact ⟨rfl, _, h2, .map c hl hd, by simp⟩
  | mapIter hh => exact ⟨rfl, _, h2, .mapIter hh _ _ _, by simp⟩
  | mapIterNil => exact ⟨rfl, _, h2, .mapIterNil _ _ _, by simp⟩
  | stringIter => exact ⟨rfl, _, h2, .stringIter _ _, by simp⟩
theorem SemR.getObj {r k m : Nat} (hk : π r = some (k, m)) : SemR P lo π (Go.getObj r) (Go.getObj k) (fun π o o' => ObjR P π 0 o o') := by
  intro π₁ h1 H w hE x H' hs
  simp only [Go.getObj, lsem] at hs
  split at hs
  · rename_i o ho
    simp only [Option.some.injEq, Prod.mk.injEq] at hs
    obtain ⟨rfl, rfl⟩ := hs
    obtain ⟨_, o', a, b, c⟩ := hE.obj ho (h1 _ _ hk)
    refine ⟨π₁, o', w, ?_, hE, b, .refl⟩
    unfold Go.getObj Sem.run
    rw [a]
    cases o' <;> first | rfl | (exact absurd rfl (c _ _ _))
  · cases hs
theorem fine_cells {o : Obj} (h : fine o = true) (hc : isRow o = false) {m : Nat} {o' : Obj} (hr : ObjR P π m o o') : m = 0 ∧ ∀ c e f, o' ≠ .cells c e f := by
  cases hr with
  | cells => cases hc
  | table => cases hc
  | grown => cases h
  | _ => exact ⟨rfl, by simp⟩
theorem SemR.setObj {r k m : Nat} (hk : π r = some (k, m)) {o o' : Obj} (ho : fine o = true → ∀ π', π.le π' → ObjR P π' 0 o o') : SemR P lo π (Go.setObj r o) (Go.setObj k o') (fun _ _ _ => True) := by
  intro π₁ h1 H w hE x H' hs
  simp only [Go.setObj, lsem] at hs
  split at hs
  · rename_i h2 hp
    simp only [Option.some.injEq, Prod.mk.injEq] at hs
    obtain ⟨_, rfl⟩ := hs
    unfold Heap.putObj at hp
    split at hp
    · cases hp
    rename_i hc
    simp only [Bool.or_eq_true, not_or, Bool.not_eq_true, Bool.not_eq_true', Bool.not_eq_false] at hc
    obtain ⟨⟨hlo, hf⟩, hcc⟩ := hc
    split at hp
    · rename_i old hold
      simp only [Option.some.injEq] at hp
      subst hp
      have hk1 := h1 _ _ hk
      obtain ⟨hm, o2, a, b, c⟩ := hE.obj hold hk1
      subst hm
      have hg : H.get r = some old := by
        unfold Heap.obj at hold
        split at hold
        · cases hold
        · cases hold
        · exact hold
      have hor := ho hf π₁ h1
      obtain ⟨_, hnc⟩ := fine_cells hf hcc hor
      have hget : ∀ i, (H.set r (some o)).get i = if i = r then some o else H.get i := fun i => Heap.get_set hE.small (Heap.get_lt hg) _ i
      have hkl : k < w.heap.size := (Array.getElem?_eq_some_iff.1 a).1
      have hwk : ∀ j, (w.heap.setIfInBounds k o')[j]? = if j = k then some o' else w.heap[j]? := by
        intro j
        rw [Array.getElem?_setIfInBounds]
        by_cases hj : j = k
        · subst hj; simp [hkl]
        · have : ¬ k = j := fun e => hj e.symm
          simp [hj, this]
      refine ⟨π₁, (), { w with heap := w.heap.setIfInBounds k o' }, ?_, ⟨by unfold Heap.small; rw [Heap.set_size]; exact hE.small, ?_, ?_, fun i hi => hE.fresh i (by rwa [Heap.set_size] at hi), ?_⟩, trivial, ⟨rfl, rfl, rfl, by simp, by rw [Heap.set_size]; exact Nat.le_refl _, ?_, ?_, Pl.le_refl _, fun _ _ => rfl⟩⟩
      · unfold Go.setObj Sem.run
        rw [a]
        cases o2 <;> first | rfl | (exact absurd rfl (c _ _ _))
      · intro i oi hi
        rw [hget] at hi
        by_cases e : i = r
        · subst e
          simp only [if_true, Option.some.injEq] at hi
          subst hi
          exact ⟨k, 0, o', hk1, by simp only [hwk]; simp, hor⟩
        · rw [if_neg e] at hi
          obtain ⟨k', m', oo, a1, a2, a3⟩ := hE.blk i oi hi
          have hne : k' ≠ k := fun e2 => e (hE.inj i r oi old k m' 0 hi hg (e2 ▸ a1) hk1)
          exact ⟨k', m', oo, a1, by simp only [hwk]; rw [if_neg hne]; exact a2, a3⟩
      · intro i j oi oj k1 m1 m2 hi hj a1 a2
        have conv : ∀ i oi, (H.set r (some o)).get i = some oi → ∃ oi', H.get i = some oi' := by
          intro i oi hi
          rw [hget] at hi
          by_cases e : i = r
          · subst e; exact ⟨old, hg⟩
          · rw [if_neg e] at hi; exact ⟨oi, hi⟩
        obtain ⟨_, hi'⟩ := conv i oi hi
        obtain ⟨_, hj'⟩ := conv j oj hj
        exact hE.inj i j _ _ k1 m1 m2 hi' hj' a1 a2
      · intro i k1 m1 hi; simpa using hE.range i k1 m1 hi
      · intro j hj hn
        simp only [hwk]
        rw [if_neg]
        rintro rfl
        exact hn r old 0 hlo hg hk1
      · intro i oi k1 m1 hbi hi a1
        rw [hget] at hi
        by_cases e : i = r
        · subst e; exact .inr ⟨i, old, m1, hbi, hg, a1⟩
        · rw [if_neg e] at hi; exact .inr ⟨i, oi, m1, hbi, hi, a1⟩
    · cases hp
  · cases hs
end
end Go.Proofs.YtdnccdobnhbpeaaDoor.Ev

namespace Go.Proofs.YtdnccdobnhbpeaaDoor.Ev
open Go
set_option linter.unusedVariables false
section
variable {P : Program} {lo : Bar} {π : Pl}

/-- The same on both sides. -/
def Same {α : Type} : Pl → α → α → Prop := fun _ a b => a = b
def AddrR (π : Pl) (a a' : Addr) : Prop := ∃ k m, π a.block = some (k, m) ∧ a' = ⟨k, a.off, a.spot⟩
theorem AddrR.mono {π π' : Pl} (h : π.le π') {a a' : Addr} (r : AddrR π a a') : AddrR π' a a' := let ⟨k, m, x, y⟩ := r; ⟨k, m, h _ _ x, y⟩
theorem AddrR.add {a a' : Addr} (h : AddrR π a a') (n : Nat) : AddrR π (a.add n) (a'.add n) := by
  obtain ⟨k, m, h1, rfl⟩ := h
  refine ⟨k, m, ?_, ?_⟩
  · unfold Addr.add; split <;> exact h1
  · unfold Addr.add; split <;> rfl
theorem AddrR.ptr {a a' : Addr} (h : AddrR π a a') : VR π (.pointer (some a)) (.pointer (some a')) := by
  obtain ⟨k, m, h1, rfl⟩ := h
  exact .ptr h1

theorem SemR.same {α : Type} {s : Sem α} (f : Option α) (h1 : ∀ H, lsem P lo s H = f.map fun a => (a, H)) (h2 : ∀ a, f = some a → ∀ w, s.run P w = .ok a w) : SemR P lo π s s (fun _ a b => a = b ∧ f = some a) := by
  intro π₁ hl H w hE x H' hs
  rw [h1] at hs
  cases hf : f with
  | none => rw [hf] at hs; cases hs
  | some a =>
    rw [hf] at hs
    simp only [Option.map_some, Option.some.injEq, Prod.mk.injEq] at hs
    obtain ⟨rfl, rfl⟩ := hs
    exact ⟨π₁, _, w, h2 _ hf w, hE, ⟨rfl, rfl⟩, .refl⟩
theorem SemR.underlying {t : TypeId} : SemR P lo π (Go.underlying t) (Go.underlying t) (fun _ a b => a = b ∧ P.underlying t = some a) :=
  SemR.same (P.underlying t) (fun H => by unfold Go.underlying; rw [lsem_bind']; simp only [Go.program, lsem]; cases P.underlying t <;> rfl)
    (fun a h w => by unfold Go.underlying; simp [h])
theorem SemR.typeInfo {t : TypeId} : SemR P lo π (Go.typeInfo t) (Go.typeInfo t) (fun _ a b => a = b ∧ P.info? t = some a) :=
  SemR.same (P.info? t) (fun H => by unfold Go.typeInfo; rw [lsem_bind']; simp only [Go.program, lsem]; cases P.info? t <;> rfl)
    (fun a h w => by unfold Go.typeInfo; simp [h])
theorem SemR.sizeOf {t : TypeId} : SemR P lo π (Go.sizeOf t) (Go.sizeOf t) (fun _ a b => a = b ∧ ∃ i, P.info? t = some i ∧ i.size = a) := by
  unfold Go.sizeOf
  refine SemR.bind SemR.typeInfo fun π' _ a b h => ?_
  obtain ⟨rfl, hi⟩ := h
  exact SemR.pure' fun _ _ => ⟨rfl, a, hi, rfl⟩
theorem SemR.zeroValue {t : TypeId} (hz : zeroOk P t = true) : SemR P lo π (Go.zeroValue t) (Go.zeroValue t) (fun _ a b => a = b ∧ flat a = true) := by
  unfold Go.zeroValue
  refine SemR.bind SemR.typeInfo fun π' _ a b h => ?_
  obtain ⟨rfl, hi⟩ := h
  unfold zeroOk at hz
  rw [hi] at hz
  simp only at hz
  cases hv : a.zero with
  | none => exact SemR.unsupported
  | some v => rw [hv] at hz; exact SemR.pure' fun _ _ => ⟨rfl, hz⟩
theorem SemR.isAgg {t : TypeId} : SemR P lo π (Go.isAgg t) (Go.isAgg t) Same := by
  unfold Go.isAgg
  refine SemR.bind SemR.underlying fun π' _ a b h => ?_
  obtain ⟨rfl, hi⟩ := h
  cases a <;> exact SemR.pure' fun _ _ => rfl
theorem SemR.asIntOf {v v' : Value} (h : VR π v v') : SemR P lo π (Go.asIntOf v) (Go.asIntOf v') Same := by
  cases h <;> first | (exact SemR.pure' fun _ _ => rfl) | exact SemR.stuck | exact SemR.unsupported
theorem SemR.asInt {v v' : Value} (h : VR π v v') : SemR P lo π (Go.asInt v) (Go.asInt v') Same := by
  unfold Go.asInt
  refine SemR.bind (SemR.asIntOf h) fun π' _ a b h => ?_
  cases h
  exact SemR.pure' fun _ _ => rfl
theorem SemR.asBool {v v' : Value} (h : VR π v v') : SemR P lo π (Go.asBool v) (Go.asBool v') Same := by
  cases h <;> first | (exact SemR.pure' fun _ _ => rfl) | exact SemR.stuck
theorem SemR.asAgg {v v' : Value} (h : VR π v v') : SemR P lo π (Go.asAgg v) (Go.asAgg v') AR := by
  cases h <;> first | exact SemR.stuck | skip
  rename_i h1 h2
  exact SemR.pure' fun π' hl => (AR.mk h1 h2).mono hl
theorem SemR.asAddr {v v' : Value} (h : VR π v v') : SemR P lo π (Go.asAddr v) (Go.asAddr v') AddrR := by
  cases h <;> simp only [Go.asAddr] <;> first | exact SemR.stuck | exact SemR.runtimePanic | skip
  rename_i h1
  exact SemR.pure' fun π' hl => ⟨_, _, hl _ _ h1, rfl⟩
theorem SemR.sureAddr {v v' : Value} (h : VR π v v') : SemR P lo π (Instr.sureAddr v) (Instr.sureAddr v') AddrR := by
  cases h <;> first | exact SemR.stuck | skip
  rename_i h1
  exact SemR.pure' fun π' hl => ⟨_, _, hl _ _ h1, rfl⟩

theorem SemR.load' {a a' : Addr} {md : Mode} (h : AddrR π a a') : SemR P lo π (Go.load a md) (Go.load a' md) VR := by
  obtain ⟨k, m, h1, rfl⟩ := h
  exact SemR.load h1
theorem SemR.store' {a a' : Addr} {md : Mode} (h : AddrR π a a') {v v' : Value} (hv : VR π v v') : SemR P lo π (Go.store a v md) (Go.store a' v' md) (fun _ _ _ => True) := by
  obtain ⟨k, m, h1, rfl⟩ := h
  exact SemR.store h1 hv
theorem SemR.loadCellsFrom {a a' : Addr} (h : AddrR π a a') (n : Nat) : ∀ (i : Nat) {π' : Pl} (acc acc' : Array Value), π.le π' → AR π' acc acc' → SemR P lo π' (Go.loadCellsFrom a i n acc) (Go.loadCellsFrom a' i n acc') (fun π xs ys => AR π xs ys ∧ xs.size = acc.size + n) := by
  induction n with
  | zero => intro i π' acc acc' _ hr; exact SemR.pure' fun _ hl => ⟨hr.mono hl, rfl⟩
  | succ n ih =>
    intro i π' acc acc' hle hr
    unfold Go.loadCellsFrom
    refine SemR.bind (SemR.load' ((h.mono hle).add i)) fun π'' hl v v' hv => ?_
    refine (ih (i + 1) _ _ (hle.trans hl) ((hr.mono hl).push hv)).mono fun _ xs ys _ ⟨h1, h2⟩ => ⟨h1, by simp at h2; omega⟩
theorem SemR.loadCells {a a' : Addr} (h : AddrR π a a') (n : Nat) : SemR P lo π (Go.loadCells a n) (Go.loadCells a' n) (fun π xs ys => AR π xs ys ∧ xs.size = n) := by
  unfold Go.loadCells
  exact (SemR.loadCellsFrom h n 0 #[] #[] (Pl.le_refl _) AR.nil).mono fun _ xs ys _ ⟨h1, h2⟩ => ⟨h1, by simpa using h2⟩
/-- Lists, place by place. -/
def LR (π : Pl) (xs ys : List Value) : Prop := xs.length = ys.length ∧ ∀ i (h : i < xs.length) (h' : i < ys.length), VR π xs[i] ys[i]
theorem AR.list {xs ys : Array Value} (h : AR π xs ys) : LR π xs.toList ys.toList := ⟨by simpa using h.1, fun i a b => by simpa using h.2 i (by simpa using a) (by simpa using b)⟩
theorem LR.mono {π π' : Pl} (h : π.le π') {v v' : List Value} (r : LR π v v') : LR π' v v' := ⟨r.1, fun i a b => (r.2 i a b).mono h⟩
theorem LR.tail {x y : Value} {xs ys : List Value} (h : LR π (x :: xs) (y :: ys)) : VR π x y ∧ LR π xs ys :=
  ⟨h.2 0 (by simp) (by simp), by simpa using h.1, fun i a b => h.2 (i + 1) (by simpa using a) (by simpa using b)⟩
theorem LR.cons {x y : Value} {xs ys : List Value} (h : VR π x y) (h' : LR π xs ys) : LR π (x :: xs) (y :: ys) := by
  refine ⟨by simp [h'.1], fun i a b => ?_⟩
  cases i with
  | zero => exact h
  | succ i => exact h'.2 i _ _
theorem LR.array {xs ys : List Value} (h : LR π xs ys) : AR π xs.toArray ys.toArray := ⟨by simpa using h.1, fun i a b => by simpa using h.2 i (by simpa using a) (by simpa using b)⟩
theorem SemR.storeCells {a a' : Addr} (h : AddrR π a a') : ∀ (vs vs' : List Value) (i : Nat) {π' : Pl}, π.le π' → LR π' vs vs' → SemR P lo π' (Go.storeCells a vs i) (Go.storeCells a' vs' i) (fun _ _ _ => True) := by
  intro vs
  induction vs with
  | nil =>
    intro vs' i π' _ hr
    cases vs' with
    | nil => exact SemR.pure' fun _ _ => trivial
    | cons _ _ => simp [LR] at hr
  | cons v vs ih =>
    intro vs' i π' hle hr
    cases vs' with
    | nil => simp [LR] at hr
    | cons v' vs' =>
      unfold Go.storeCells
      refine SemR.bind (SemR.store' ((h.mono hle).add i) hr.tail.1) fun π'' hl _ _ _ => ?_
      exact ih vs' (i + 1) (hle.trans hl) (hr.tail.2.mono hl)
theorem VR.cells {v v' : Value} (h : VR π v v') : AR π v.cells v'.cells := by
  cases h with
  | agg hc hcs => exact ⟨hc, hcs⟩
  | bool b => exact AR.one (.bool b)
  | int k n => exact AR.one (.int k n)
  | float k b => exact AR.one (.float k b)
  | complex k a b => exact AR.one (.complex k a b)
  | string s => exact AR.one (.string s)
  | pnil => exact AR.one .pnil
  | ptr h => exact AR.one (.ptr h)
  | snil l c => exact AR.one (.snil l c)
  | sl h => exact AR.one (.sl h)
  | mnil => exact AR.one .mnil
  | map h => exact AR.one (.map h)
  | cnil => exact AR.one .cnil
  | func a b c d e => exact AR.one (.func a b c d e)
  | nilFunc => exact AR.one .nilFunc
  | iface t h => exact AR.one (.iface t h)
  | nilIface => exact AR.one .nilIface
  | tuple a b => exact AR.one (.tuple a b)
theorem SemR.loadVar {t : TypeId} {a a' : Addr} (h : AddrR π a a') : SemR P lo π (Go.loadVar t a) (Go.loadVar t a') VR := by
  unfold Go.loadVar
  refine SemR.bind SemR.isAgg fun π' hl b b' hb => ?_
  cases hb
  cases b with
  | false => exact SemR.load' (h.mono hl)
  | true =>
    simp only [if_true]
    refine SemR.bind SemR.sizeOf fun π'' hl2 n n' hn => ?_
    obtain ⟨rfl, _⟩ := hn
    refine SemR.bind (SemR.loadCells ((h.mono hl).mono hl2) n) fun π3 hl3 xs ys hx => ?_
    exact SemR.pure' fun π4 hl4 => .agg hx.1.1 (hx.1.mono hl4).2
theorem SemR.storeVar {t : TypeId} {a a' : Addr} (h : AddrR π a a') {v v' : Value} (hv : VR π v v') : SemR P lo π (Go.storeVar t a v) (Go.storeVar t a' v') (fun _ _ _ => True) := by
  unfold Go.storeVar
  refine SemR.bind SemR.sizeOf fun π' hl n n' hn => ?_
  obtain ⟨rfl, _⟩ := hn
  have hc := hv.cells
  rw [← hc.1]
  split
  · refine SemR.bind (R := fun _ _ _ => False) SemR.stuck fun _ _ _ _ h => h.elim
  · exact SemR.storeCells (h.mono hl) _ _ 0 (Pl.le_refl _) (hc.list.mono hl)
/-- An address in a block of a fixed size. -/
def FreshR (π : Pl) (a a' : Addr) : Prop := ∃ k, π a.block = some (k, 0) ∧ a' = ⟨k, a.off, a.spot⟩
theorem FreshR.addr {a a' : Addr} (h : FreshR π a a') : AddrR π a a' := let ⟨k, x, y⟩ := h; ⟨k, 0, x, y⟩
theorem FreshR.mono {π π' : Pl} (h : π.le π') {a a' : Addr} (r : FreshR π a a') : FreshR π' a a' := let ⟨k, x, y⟩ := r; ⟨k, h _ _ x, y⟩
theorem FreshR.add {a a' : Addr} (h : FreshR π a a') (n : Nat) : FreshR π (a.add n) (a'.add n) := by
  obtain ⟨k, h1, rfl⟩ := h
  refine ⟨k, ?_, ?_⟩
  · unfold Addr.add; split <;> exact h1
  · unfold Addr.add; split <;> rfl
theorem FreshR.slice {a a' : Addr} (h : FreshR π a a') (l c : Nat) : VR π (.slice (some a) l c) (.slice (some a') l c) := by
  obtain ⟨k, h1, rfl⟩ := h
  exact VR.sl (m := 0) h1
theorem SemR.newRow {e : TypeId} {cs cs' : Array Value} (h : AR π cs cs') : SemR P lo π (Go.newRow e cs) (Go.newRow e cs') FreshR := by
  unfold Go.newRow
  refine SemR.bind (SemR.new fun hf π' hl => .cells e (h.mono hl)) fun π' hl r r' hr => ?_
  exact SemR.pure' fun π'' hl2 => ⟨r', hl2 _ _ hr, rfl⟩
theorem SemR.newVar {e : TypeId} {v v' : Value} (h : VR π v v') : SemR P lo π (Go.newVar e v) (Go.newVar e v') FreshR := SemR.newRow h.cells
theorem SemR.part {t : TypeId} {cs cs' : Array Value} (h : AR π cs cs') (off : Nat) : SemR P lo π (Go.part t cs off) (Go.part t cs' off) VR := by
  unfold Go.part
  refine SemR.bind SemR.isAgg fun π' hl b b' hb => ?_
  cases hb
  cases b with
  | true =>
    simp only [if_true]
    refine SemR.bind SemR.sizeOf fun π'' hl2 n n' hn => ?_
    obtain ⟨rfl, _⟩ := hn
    have := ((h.mono hl).mono hl2).extract off (off + n)
    exact SemR.pure' fun π4 hl4 => .agg this.1 (this.mono hl4).2
  | false =>
    simp only [Bool.false_eq_true, if_false]
    have h' := h.mono hl
    cases hv : cs[off]? with
    | none => exact SemR.stuck
    | some v =>
      obtain ⟨v', hv', hr⟩ := h'.get? hv
      rw [hv']
      exact SemR.pure' fun π4 hl4 => hr.mono hl4

/-! ## Instructions -/
theorem SemR.alloc {e : TypeId} (hz : zeroOk P e = true) : SemR P lo π (Instr.alloc e true (.tuple #[])) (Instr.alloc e true (.tuple #[])) VR := by
  unfold Instr.alloc
  refine SemR.bind (SemR.zeroValue hz) fun π' hl z z' h => ?_
  obtain ⟨rfl, hf⟩ := h
  refine SemR.bind (SemR.newVar (VR.of_flat z hf)) fun π'' hl2 a a' ha => ?_
  exact SemR.pure' fun π4 hl4 => (ha.addr.mono hl4).ptr
theorem SemR.box {e : TypeId} {v v' : Value} (h : VR π v v') : SemR P lo π (Instr.box e v) (Instr.box e v') VR := by
  unfold Instr.box
  refine SemR.bind (SemR.newVar h) fun π'' hl2 a a' ha => ?_
  exact SemR.pure' fun π4 hl4 => (ha.addr.mono hl4).ptr
theorem SemR.loadAt {t : TypeId} {v v' : Value} (h : VR π v v') : SemR P lo π (Instr.loadAt t v) (Instr.loadAt t v') VR := by
  unfold Instr.loadAt
  exact SemR.bind (SemR.sureAddr h) fun π'' hl2 a a' ha => SemR.loadVar ha
theorem SemR.storeAt {t : TypeId} {a a' v v' : Value} (ha : VR π a a') (h : VR π v v') : SemR P lo π (Instr.storeAt t a v) (Instr.storeAt t a' v') (fun _ _ _ => True) := by
  unfold Instr.storeAt
  exact SemR.bind (SemR.sureAddr ha) fun π'' hl2 a a' ha => SemR.storeVar ha (h.mono hl2)
theorem SemR.extract {v v' : Value} (h : VR π v v') (i : Nat) : SemR P lo π (Instr.extract v i) (Instr.extract v' i) VR := by
  cases h <;> first | exact SemR.stuck | skip
  rename_i cs cs' h1 h2
  unfold Instr.extract
  simp only
  cases hv : cs[i]? with
  | none => exact SemR.stuck
  | some v =>
    obtain ⟨v', hv', hr⟩ := (AR.mk h1 h2).get? hv
    rw [hv']
    exact SemR.pure' fun π4 hl4 => hr.mono hl4
theorem SemR.makeInterface {t : TypeId} {v v' : Value} (h : VR π v v') : SemR P lo π (Instr.makeInterface t v) (Instr.makeInterface t v') VR := by
  unfold Instr.makeInterface
  refine SemR.bind SemR.underlying fun π' hl d d' hd => ?_
  obtain ⟨rfl, _⟩ := hd
  split
  · exact SemR.stuck
  · exact SemR.pure' fun π4 hl4 => .iface t ((h.mono hl).mono hl4)
theorem SemR.makeFunc {fn fn' : Fn} (hf : FnR π fn fn') {xs xs' cs cs' : Array Value} (hx : AR π xs xs') (hc : AR π cs cs') : SemR P lo π (Instr.makeFunc fn xs cs) (Instr.makeFunc fn' xs' cs') VR :=
  SemR.pure' fun π4 hl4 => .func (hf.mono hl4) hx.1 (hx.mono hl4).2 hc.1 (hc.mono hl4).2
theorem SemR.field {t : TypeId} {v v' : Value} (h : VR π v v') (i : Nat) : SemR P lo π (Instr.field t v i) (Instr.field t v' i) VR := by
  unfold Instr.field
  refine SemR.bind SemR.underlying fun π' hl d d' hd => ?_
  obtain ⟨rfl, _⟩ := hd
  split
  · split
    · refine SemR.bind (SemR.asAgg (h.mono hl)) fun π'' hl2 xs ys hx => SemR.part hx _
    · exact SemR.stuck
  · exact SemR.stuck
theorem SemR.index {t : TypeId} {v v' i i' : Value} (h : VR π v v') (hi : VR π i i') : SemR P lo π (Instr.index t v i) (Instr.index t v' i') VR := by
  unfold Instr.index
  refine SemR.bind (SemR.asIntOf hi) fun π' hl x y hx => ?_
  cases hx
  obtain ⟨k, n⟩ := x
  simp only
  refine SemR.bind SemR.underlying fun π'' hl2 d d' hd => ?_
  obtain ⟨rfl, _⟩ := hd
  have hv := (h.mono hl).mono hl2
  cases d <;> try exact SemR.stuck
  case string =>
    cases hv <;> try exact SemR.stuck
    rename_i s
    simp only
    split
    · exact SemR.pure' fun π4 hl4 => .int _ _
    · exact SemR.boundsPanic
  case array len elem =>
    cases hv <;> try exact SemR.stuck
    rename_i cs cs' h1 h2
    simp only
    split
    · refine SemR.bind SemR.sizeOf fun π3 hl3 a b hab => ?_
      obtain ⟨rfl, _⟩ := hab
      exact SemR.part ((AR.mk h1 h2).mono hl3) _
    · exact SemR.boundsPanic
end
end Go.Proofs.YtdnccdobnhbpeaaDoor.Ev

namespace Go.Proofs.YtdnccdobnhbpeaaDoor.Ev
open Go
set_option linter.unusedVariables false
section
variable {P : Program} {lo : Bar} {π : Pl}

/-! ## Building -/
/-- Parts, place by place. -/
def PR (π : Pl) (xs ys : List (Nat × Value)) : Prop := xs.length = ys.length ∧ ∀ i (h : i < xs.length) (h' : i < ys.length), (xs[i]).1 = (ys[i]).1 ∧ VR π (xs[i]).2 (ys[i]).2
theorem fold_set {π : Pl} (off : Nat) : ∀ (l l' : List Value) (j : Nat) (cs cs' : Array Value), LR π l l' → AR π cs cs' →
    AR π ((l.zipIdx j).foldl (fun cs (c, j) => cs.setIfInBounds (off + j) c) cs) ((l'.zipIdx j).foldl (fun cs (c, j) => cs.setIfInBounds (off + j) c) cs') := by
  intro l
  induction l with
  | nil =>
    intro l' j cs cs' hl hc
    cases l' with
    | nil => exact hc
    | cons _ _ => simp [LR] at hl
  | cons x l ih =>
    intro l' j cs cs' hl hc
    cases l' with
    | nil => simp [LR] at hl
    | cons y l' =>
      simp only [List.zipIdx_cons, List.foldl_cons]
      exact ih l' (j + 1) _ _ hl.tail.2 (hc.set hl.tail.1 _)
theorem fill_rel (place : Nat → Option (Nat × Nat)) : ∀ (xs ys : List (Nat × Value)) (cs cs' : Array Value), PR π xs ys → AR π cs cs' →
    ∀ r, Instr.fill place cs xs = some r → ∃ r', Instr.fill place cs' ys = some r' ∧ AR π r r' := by
  intro xs
  induction xs with
  | nil =>
    intro ys cs cs' hp hc r hr
    cases ys with
    | nil => simp only [Instr.fill, Option.some.injEq] at hr; subst hr; exact ⟨cs', rfl, hc⟩
    | cons _ _ => simp [PR] at hp
  | cons x xs ih =>
    intro ys cs cs' hp hc r hr
    cases ys with
    | nil => simp [PR] at hp
    | cons y ys =>
      obtain ⟨i, v⟩ := x
      obtain ⟨i', v'⟩ := y
      have h0 := hp.2 0 (by simp) (by simp)
      simp only [List.getElem_cons_zero] at h0
      obtain ⟨rfl, hv⟩ := h0
      have hp' : PR π xs ys := ⟨by simpa using hp.1, fun j a b => hp.2 (j + 1) (by simpa using a) (by simpa using b)⟩
      unfold Instr.fill at hr ⊢
      cases hpl : place i with
      | none => rw [hpl] at hr; cases hr
      | some os =>
        obtain ⟨off, size⟩ := os
        rw [hpl] at hr
        simp only at hr ⊢
        have hcs := hv.cells
        rw [hcs.1, hc.1] at hr
        split at hr
        · cases hr
        · rename_i hcond
          rw [if_neg hcond]
          refine ih ys _ _ hp' ?_ r hr
          have := fold_set off v.cells.toList v'.cells.toList 0 cs cs' hcs.list hc
          simpa [Array.foldl_toList, ← Array.toList_zipIdx] using this
theorem SemR.mapM_places {fs : Array Field} : SemR P lo π (fs.mapM fun f => do Pure.pure (f.offset, ← Go.sizeOf f.type)) (fs.mapM fun f => do Pure.pure (f.offset, ← Go.sizeOf f.type)) Same := by
  rw [Array.mapM_eq_mapM_toList]
  refine SemR.bind (R := Same) ?_ fun π' hl a b h => ?_
  · generalize fs.toList = l
    induction l generalizing π with
    | nil => exact SemR.pure' fun _ _ => rfl
    | cons f l ih =>
      rw [List.mapM_cons]
      refine SemR.bind (R := Same) ?_ fun π' hl a b h => ?_
      · refine SemR.bind SemR.sizeOf fun π' hl a b h => ?_
        obtain ⟨rfl, _⟩ := h
        exact SemR.pure' fun _ _ => rfl
      · cases h
        refine SemR.bind ih fun π'' hl2 a b h => ?_
        cases h
        exact SemR.pure' fun _ _ => rfl
  · cases h; exact SemR.pure' fun _ _ => rfl
theorem SemR.build {t : TypeId} (hz : zeroOk P t = true) {xs ys : Array (Nat × Value)} (h : PR π xs.toList ys.toList) : SemR P lo π (Instr.build t xs) (Instr.build t ys) VR := by
  unfold Instr.build
  refine SemR.bind (SemR.zeroValue hz) fun π' hl z z' hzz => ?_
  obtain ⟨rfl, hf⟩ := hzz
  have hzc : ∀ π', AR π' z.cells z.cells := fun π' => (VR.of_flat z hf : VR π' z z).cells
  have hp : ∀ {π'}, π.le π' → PR π' xs.toList ys.toList := fun hl => ⟨h.1, fun i a b => ⟨(h.2 i a b).1, (h.2 i a b).2.mono hl⟩⟩
  refine SemR.bind SemR.underlying fun π'' hl2 d d' hd => ?_
  obtain ⟨rfl, _⟩ := hd
  cases d <;> try exact SemR.stuck
  case struct fields =>
    simp only
    refine SemR.bind SemR.mapM_places fun π3 hl3 a b hab => ?_
    cases hab
    cases hr : Instr.fill (fun x => a[x]?) z.cells xs.toList with
    | none => exact SemR.stuck
    | some r =>
      obtain ⟨r', hr', hrel⟩ := fill_rel _ _ _ _ _ (hp ((hl.trans hl2).trans hl3)) (hzc π3) r hr
      rw [hr']
      exact SemR.pure' fun π4 hl4 => .agg hrel.1 (hrel.mono hl4).2
  case array n e =>
    simp only
    refine SemR.bind SemR.sizeOf fun π3 hl3 a b hab => ?_
    obtain ⟨rfl, _⟩ := hab
    cases hr : Instr.fill (fun i => some (i * a, a)) z.cells xs.toList with
    | none => exact SemR.stuck
    | some r =>
      obtain ⟨r', hr', hrel⟩ := fill_rel _ _ _ _ _ (hp ((hl.trans hl2).trans hl3)) (hzc π3) r hr
      rw [hr']
      exact SemR.pure' fun π4 hl4 => .agg hrel.1 (hrel.mono hl4).2
theorem AR.zeros {z : Array Value} (h : AR π z z) (n : Nat) (hz : z.size ≠ 0) : AR π ((Array.range n).map (z[· % z.size]!)) ((Array.range n).map (z[· % z.size]!)) := by
  refine AR.map _ fun x _ => ?_
  have hlt : x % z.size < z.size := Nat.mod_lt _ (by omega)
  simp only [getElem!_pos z (x % z.size) hlt]
  exact h.2 _ hlt hlt
theorem AR.zeros' {z : Array Value} (h : AR π z z) (n : Nat) : AR π ((Array.range n).map (z[· % z.size]!)) ((Array.range n).map (z[· % z.size]!)) := by
  by_cases hz : z.size = 0
  · refine AR.map _ fun x _ => ?_
    have : ¬ x % z.size < z.size := by omega
    simp only [getElem!_neg z (x % z.size) this]
    show VR π (default : Value) default
    exact .bool _
  · exact AR.zeros h n hz
theorem SemR.buildSlice {t : TypeId} (hz : ∀ e, P.underlying t = some (.slice e) → zeroOk P e = true) {n : Nat} {xs ys : Array (Nat × Value)} (h : PR π xs.toList ys.toList) :
    SemR P lo π (Instr.buildSlice t n xs) (Instr.buildSlice t n ys) VR := by
  unfold Instr.buildSlice
  have hp : ∀ {π'}, π.le π' → PR π' xs.toList ys.toList := fun hl => ⟨h.1, fun i a b => ⟨(h.2 i a b).1, (h.2 i a b).2.mono hl⟩⟩
  refine SemR.bind SemR.underlying fun π1 hl1 d d' hd => ?_
  obtain ⟨rfl, hu⟩ := hd
  cases d <;> try exact SemR.stuck
  rename_i e
  have hze := hz e hu
  simp only
  refine SemR.bind SemR.sizeOf fun π2 hl2 a b hab => ?_
  obtain ⟨rfl, _⟩ := hab
  have tail : ∀ {msg : String} {π3 : Pl}, π2.le π3 → ∀ z : Array Value, (∀ π', AR π' z z) → SemR P lo π3
      (match Instr.fill (fun i => some (i * a, a)) ((Array.range (n * a)).map (z[· % z.size]!)) xs.toList with
        | some cells => do Pure.pure (Value.slice (some (← Go.newRow e cells)) n n)
        | _ => Go.stuck msg)
      (match Instr.fill (fun i => some (i * a, a)) ((Array.range (n * a)).map (z[· % z.size]!)) ys.toList with
        | some cells => do Pure.pure (Value.slice (some (← Go.newRow e cells)) n n)
        | _ => Go.stuck msg) VR := by
    intro msg π3 hl3 z hzr
    cases hr : Instr.fill (fun i => some (i * a, a)) ((Array.range (n * a)).map (z[· % z.size]!)) xs.toList with
    | none => exact SemR.stuck
    | some r =>
      obtain ⟨r', hr', hrel⟩ := fill_rel _ _ _ _ _ (hp ((hl1.trans hl2).trans hl3)) (AR.zeros' (hzr π3) _) r hr
      rw [hr']
      simp only
      refine SemR.bind (SemR.newRow hrel) fun π5 hl5 a a' ha => ?_
      exact SemR.pure' fun π6 hl6 => (ha.mono hl6).slice _ _
  split
  · exact SemR.bind (R := fun _ _ _ => False) SemR.unsupported fun _ _ _ _ h => h.elim
  · split
    · exact tail (Pl.le_refl _) #[] fun _ => AR.nil
    · refine SemR.bind (SemR.zeroValue hze) fun π' hl z z' hzz => ?_
      obtain ⟨rfl, hf⟩ := hzz
      exact tail hl z.cells fun π4 => (VR.of_flat z hf : VR π4 z z).cells
theorem never_ite {α : Type} {c : Prop} [Decidable c] {s t : Sem α} (h : ∀ H, lsem P lo s H = none) (h' : ∀ H, lsem P lo t H = none) : ∀ H, lsem P lo (if c then s else t) H = none := by
  split <;> assumption
theorem never_head {α β : Type} {s : Sem α} {f : α → Sem β} (h : ∀ H, lsem P lo s H = none) : ∀ H, lsem P lo (s >>= f) H = none := by
  intro H
  rw [lsem_bind', h]
theorem never_byteOf {a : Addr} (h : a.spot = none) : ∀ H, lsem P lo (Go.byteOf a) H = none := by
  unfold Go.byteOf
  simp only [h]
  refine never_bind fun p => never_head (never_head (never_head fun H => rfl))
theorem SemR.fieldPlace {a a' : Addr} (h : AddrR π a a') {f : Field} : SemR P lo π (Go.fieldPlace a f) (Go.fieldPlace a' f) AddrR := by
  unfold Go.fieldPlace
  refine SemR.bind SemR.sizeOf fun π1 hl1 x y hxy => ?_
  obtain ⟨rfl, _⟩ := hxy
  split
  · refine SemR.never ?_
    unfold Go.partAt
    exact never_bind fun b => never_head (never_byteOf rfl)
  · exact SemR.pure' fun π6 hl6 => ((h.mono hl1).mono hl6).add _
theorem SemR.fieldAt {t : TypeId} {v v' : Value} (h : VR π v v') (i : Nat) : SemR P lo π (Instr.fieldAt t v i) (Instr.fieldAt t v' i) VR := by
  unfold Instr.fieldAt
  refine SemR.bind SemR.underlying fun π1 hl1 d d' hd => ?_
  obtain ⟨rfl, hu⟩ := hd
  cases d <;> try exact SemR.stuck
  rename_i fields
  simp only
  cases hf : fields[i]? with
  | none => exact SemR.stuck
  | some f =>
    simp only
    refine SemR.bind (SemR.sureAddr (h.mono hl1)) fun π2 hl2 a a' ha => ?_
    refine SemR.bind (SemR.fieldPlace ha) fun π3 hl3 b b' hb => ?_
    exact SemR.pure' fun π6 hl6 => (hb.mono hl6).ptr
theorem SemR.indexAt {t : TypeId} {v v' i i' : Value} (h : VR π v v') (hi : VR π i i') : SemR P lo π (Instr.indexAt t v i) (Instr.indexAt t v' i') VR := by
  unfold Instr.indexAt
  refine SemR.bind (SemR.asIntOf hi) fun π1 hl1 x y hx => ?_
  cases hx
  obtain ⟨k, n⟩ := x
  simp only
  refine SemR.bind SemR.underlying fun π2 hl2 d d' hd => ?_
  obtain ⟨rfl, hu⟩ := hd
  have hv := (h.mono hl1).mono hl2
  have fin : ∀ {msg : String} {π3 : Pl}, π2.le π3 → ∀ (base base' : Option Addr) (len : Nat) (elem : TypeId), (∀ a, base = some a → ∃ a', base' = some a' ∧ AddrR π3 a a') → (base = none → base' = none) → SemR P lo π3
      (do
        let tiny := len ≤ 1 && (match ← Go.underlying t with | .array .. => true | _ => false)
        match base with
        | some a =>
          if 0 ≤ n ∧ n < len then Pure.pure (Value.pointer (some (a.add (n.toNat * (← Go.sizeOf elem)))))
          else if tiny then Go.unsupported (.noEntry msg)
          else Go.boundsPanic k n len .index
        | none => Go.boundsPanic k n 0 .index)
      (do
        let tiny := len ≤ 1 && (match ← Go.underlying t with | .array .. => true | _ => false)
        match base' with
        | some a =>
          if 0 ≤ n ∧ n < len then Pure.pure (Value.pointer (some (a.add (n.toNat * (← Go.sizeOf elem)))))
          else if tiny then Go.unsupported (.noEntry msg)
          else Go.boundsPanic k n len .index
        | none => Go.boundsPanic k n 0 .index) VR := by
    intro msg π3 hl3 base base' len elem hb hb'
    refine SemR.bind SemR.underlying fun π4 hl4 d d' hd => ?_
    obtain ⟨rfl, hu⟩ := hd
    cases base with
    | none => exact SemR.boundsPanic
    | some a =>
      obtain ⟨a', rfl, ha⟩ := hb a rfl
      simp only
      split
      · refine SemR.bind SemR.sizeOf fun π5 hl5 x y hxy => ?_
        obtain ⟨rfl, _⟩ := hxy
        exact SemR.pure' fun π6 hl6 => (((ha.mono (hl4.trans hl5)).mono hl6).add _).ptr
      · (repeat' split) <;> first | exact SemR.unsupported | exact SemR.boundsPanic
  cases d <;> try exact SemR.stuck
  case array len elem =>
    simp only
    refine SemR.bind (SemR.sureAddr hv) fun π3 hl3 a a' ha => ?_
    exact fin hl3 (some a) (some a') len elem (fun _ e => by cases e; exact ⟨a', rfl, ha⟩) (by simp)
  case slice elem =>
    cases hv <;> try exact SemR.stuck
    · rename_i l c
      exact fin (msg := "") (Pl.le_refl _) none none l elem (by simp) (by simp)
    · rename_i b k m off spot l c hb
      exact fin (Pl.le_refl _) (some ⟨b, off, spot⟩) (some ⟨k, off, spot⟩) l elem (fun _ e => by cases e; exact ⟨_, rfl, _, _, hb, rfl⟩) (by simp)
end
end Go.Proofs.YtdnccdobnhbpeaaDoor.Ev

namespace Go.Proofs.YtdnccdobnhbpeaaDoor.Ev
open Go
set_option linter.unusedVariables false

section
variable {P : Program} {lo : Bar} {π : Pl}

/-! ## Slices -/
theorem SemR.sliceBound {v v' : Value} (h : VR π v v') {c c' : Nat} (hc : c ≤ c') {code : BoundsCode} : SemR P lo π (Instr.sliceBound v c code) (Instr.sliceBound v' c' code) (fun _ a b => a = b ∧ a ≤ c ∧ ∃ k n, v = .int k n ∧ (a : Int) = n) := by
  unfold Instr.sliceBound
  have main : ∀ k n, v = .int k n → v' = .int k n → SemR P lo π (do
      let (k, i) ← Go.asIntOf v
      if 0 ≤ i ∧ i ≤ c then Pure.pure i.toNat else Go.boundsPanic k i c code) (do
      let (k, i) ← Go.asIntOf v'
      if 0 ≤ i ∧ i ≤ c' then Pure.pure i.toNat else Go.boundsPanic k i c' code) (fun _ a b => a = b ∧ a ≤ c ∧ ∃ k n, v = .int k n ∧ (a : Int) = n) := by
    intro k n e1 e2
    subst e1 e2
    refine SemR.bind (SemR.pure' (R := fun _ a b => a = (k, n) ∧ b = (k, n)) fun _ _ => ⟨rfl, rfl⟩) fun π1 hl1 x y hx => ?_
    obtain ⟨rfl, rfl⟩ := hx
    simp only
    by_cases hb : 0 ≤ n ∧ n ≤ c
    · have hb' : 0 ≤ n ∧ n ≤ c' := ⟨hb.1, by omega⟩
      rw [if_pos hb, if_pos hb']
      exact SemR.pure' fun _ _ => ⟨rfl, by omega, k, n, rfl, by omega⟩
    · rw [if_neg hb]
      exact SemR.boundsPanic
  cases h with
  | int k n => exact main k n rfl rfl
  | ptr h => exact SemR.bind (R := fun _ _ _ => False) SemR.unsupported fun _ _ _ _ h => h.elim
  | _ => exact SemR.bind (R := fun _ _ _ => False) SemR.stuck fun _ _ _ _ h => h.elim

/-- Two values that may be missing. -/
inductive OR (π : Pl) : Option Value → Option Value → Prop
  | none : OR π none none
  | some {v v' : Value} (h : VR π v v') : OR π (some v) (some v')
theorem OR.mono {π π' : Pl} (h : π.le π') {v v' : Option Value} (r : OR π v v') : OR π' v v' := by
  cases r with
  | none => exact .none
  | some hv => exact .some (hv.mono h)
theorem SemR.sliceBounds {isSlice : Bool} {len cap cap' e : Nat} (hcap : cap' = cap + e) {low low' high high' max max' : Option Value} (h1 : OR π low low') (h2 : OR π high high') (h3 : OR π max max') (hm : e = 0 ∨ max = none) :
    SemR P lo π (Instr.sliceBounds isSlice len cap low high max) (Instr.sliceBounds isSlice len cap' low' high' max') (fun _ a b => a.1 = b.1 ∧ a.2.1 = b.2.1 ∧ b.2.2 = a.2.2 + e ∧ (a.1 : Int) = lowIs low ∧ (max = Option.none → a.2.2 = cap)) := by
  have low_part : ∀ {π1 : Pl}, π.le π1 → ∀ (h m m' : Nat), m' = m + e → (max = Option.none → m = cap) → ∀ (code code' : BoundsCode), code = code' → SemR P lo π1
      (do
        let l ← match low with
          | some v => Instr.sliceBound v h code
          | none => Pure.pure 0
        Pure.pure (l, h, m))
      (do
        let l ← match low' with
          | some v => Instr.sliceBound v h code'
          | none => Pure.pure 0
        Pure.pure (l, h, m')) (fun _ a b => a.1 = b.1 ∧ a.2.1 = b.2.1 ∧ b.2.2 = a.2.2 + e ∧ (a.1 : Int) = lowIs low ∧ (max = Option.none → a.2.2 = cap)) := by
    intro π1 hl h m m' hmm hmc code code' hcode
    subst hcode
    cases h1 with
    | none => exact SemR.pure' fun _ _ => ⟨rfl, rfl, hmm, rfl, hmc⟩
    | some hv =>
      refine SemR.bind (SemR.sliceBound (hv.mono hl) (Nat.le_refl h)) fun π2 hl2 a b hab => ?_
      obtain ⟨rfl, _, k, n, rfl, hn⟩ := hab
      exact SemR.pure' fun _ _ => ⟨rfl, rfl, hmm, hn, hmc⟩
  unfold Instr.sliceBounds
  cases h3 with
  | none =>
    cases h2 with
    | none => exact low_part (Pl.le_refl _) len cap cap' hcap (fun _ => rfl) _ _ rfl
    | some hh =>
      refine SemR.bind (SemR.pure' (R := fun _ a b => a = cap ∧ b = cap') fun _ _ => ⟨rfl, rfl⟩) fun π1 hl1 x y hxy => ?_
      obtain ⟨rfl, rfl⟩ := hxy
      refine SemR.bind (SemR.sliceBound (hh.mono hl1) (by omega)) fun π2 hl2 a b hab => ?_
      obtain ⟨rfl, _, _⟩ := hab
      exact low_part (hl1.trans hl2) a _ _ hcap (fun _ => rfl) _ _ rfl
  | some hmx =>
    have he : e = 0 := hm.resolve_right (by simp)
    subst he
    refine SemR.bind (SemR.sliceBound hmx (by omega)) fun π2 hl2 a b hab => ?_
    obtain ⟨rfl, _, _⟩ := hab
    cases h2 with
    | none => exact SemR.bind (R := fun _ _ _ => False) SemR.stuck fun _ _ _ _ h => h.elim
    | some hh =>
      refine SemR.bind (SemR.sliceBound (hh.mono hl2) (Nat.le_refl a)) fun π3 hl3 x y hab => ?_
      obtain ⟨rfl, _, _⟩ := hab
      exact low_part (hl2.trans hl3) x a a rfl (by simp) _ _ rfl

/-- A slice of a block with unknown room is cut only in front of its end. -/
def FitR (π : Pl) (low max : Option Value) : Value → Prop
  | .slice (some a) _ c => (∃ k, π a.block = some (k, 0)) ∨ (max = none ∧ lowIs low < c)
  | .pointer (some a) => ∃ k, π a.block = some (k, 0)
  | _ => True
theorem FitR.mono {π π' : Pl} (h : π.le π') {low max : Option Value} {v : Value} (r : FitR π low max v) : FitR π' low max v := by
  unfold FitR at *
  split
  · rcases r with ⟨k, hk⟩ | r
    · exact .inl ⟨k, h _ _ hk⟩
    · exact .inr r
  · obtain ⟨k, hk⟩ := r; exact ⟨k, h _ _ hk⟩
  · trivial
theorem SemR.fresh_slice {n elem : TypeId} {low low' high high' max max' : Option Value} (h1 : OR π low low') (h2 : OR π high high') (h3 : OR π max max') (a a' : Addr) (ha : FreshR π a a') :
    SemR P lo π (do
      let (l, h, m) ← Instr.sliceBounds false n n low high max
      let size ← Go.sizeOf elem
      Pure.pure (Value.slice (some (if m = l then a else a.add (l * size))) (h - l) (m - l))) (do
      let (l, h, m) ← Instr.sliceBounds false n n low' high' max'
      let size ← Go.sizeOf elem
      Pure.pure (Value.slice (some (if m = l then a' else a'.add (l * size))) (h - l) (m - l))) VR := by
  refine SemR.bind (SemR.sliceBounds (e := 0) rfl h1 h2 h3 (.inl rfl)) fun π1 hl1 x y hxy => ?_
  obtain ⟨l, h, m⟩ := x
  obtain ⟨l', h', m'⟩ := y
  simp only at hxy
  obtain ⟨rfl, rfl, rfl, _⟩ := hxy
  simp only
  refine SemR.bind SemR.sizeOf fun π2 hl2 s s' hs => ?_
  obtain ⟨rfl, _⟩ := hs
  refine SemR.pure' fun π3 hl3 => ?_
  have ha' := ha.mono ((hl1.trans hl2).trans hl3)
  split
  · exact ha'.slice _ _
  · exact (ha'.add _).slice _ _
theorem SemR.sliceAt {t : TypeId} {x x' : Value} (hx : VR π x x') {low low' high high' max max' : Option Value} (h1 : OR π low low') (h2 : OR π high high') (h3 : OR π max max') (hf : FitR π low max x) :
    SemR P lo π (Instr.sliceAt t x low high max) (Instr.sliceAt t x' low' high' max') VR := by
  unfold Instr.sliceAt
  refine SemR.bind SemR.underlying fun π1 hl1 d d' hd => ?_
  obtain ⟨rfl, hu⟩ := hd
  have other : SemR P lo π1 (Instr.slice t x low high max) (Instr.slice t x' low' high' max') VR := by
    unfold Instr.slice
    refine SemR.bind SemR.underlying fun π2 hl2 d d' hd => ?_
    obtain ⟨rfl, hu⟩ := hd
    have hl := hl1.trans hl2
    cases d <;> try exact SemR.stuck
    case string =>
      cases hx <;> try exact SemR.stuck
      rename_i s
      cases h3 with
      | some hh => exact SemR.bind (R := fun _ _ _ => False) SemR.stuck fun _ _ _ _ h => h.elim
      | none =>
        simp only [Option.isSome_none, Bool.false_eq_true, if_false]
        refine SemR.bind (SemR.sliceBounds (e := 0) rfl (h1.mono hl) (h2.mono hl) .none (.inl rfl)) fun π3 hl3 x y hxy => ?_
        obtain ⟨l, h, m⟩ := x
        obtain ⟨l', h', m'⟩ := y
        simp only at hxy
        obtain ⟨rfl, rfl, _, _⟩ := hxy
        exact SemR.pure' fun _ _ => .string _
    case slice elem =>
      cases hx <;> try exact SemR.stuck
      case snil len c =>
        simp only
        refine SemR.bind (SemR.sliceBounds (e := 0) rfl (h1.mono hl) (h2.mono hl) (h3.mono hl) (.inl rfl)) fun π3 hl3 x y hxy => ?_
        obtain ⟨l, h, m⟩ := x
        obtain ⟨l', h', m'⟩ := y
        simp only at hxy
        obtain ⟨rfl, rfl, rfl, _⟩ := hxy
        simp only
        refine SemR.bind SemR.sizeOf fun π4 hl4 s s' hs => ?_
        obtain ⟨rfl, _⟩ := hs
        refine SemR.pure' fun π5 hl5 => ?_
        simp only [Option.map_none, ite_self]
        exact .snil _ _
      case sl b k e off spot len c hb =>
        simp only
        have hfit : e = 0 ∨ (max = none ∧ lowIs low < c) := by
          rcases hf with ⟨k', hk'⟩ | hf
          · left
            simp only at hk'
            rw [hb] at hk'
            cases hk'
            rfl
          · exact .inr hf
        refine SemR.bind (SemR.sliceBounds (e := e) rfl (h1.mono hl) (h2.mono hl) (h3.mono hl) (hfit.imp id And.left)) fun π3 hl3 x y hxy => ?_
        obtain ⟨l, h, m⟩ := x
        obtain ⟨l', h', m'⟩ := y
        simp only at hxy
        obtain ⟨rfl, rfl, rfl, hlow, hmc⟩ := hxy
        simp only
        refine SemR.bind SemR.sizeOf fun π4 hl4 s s' hs => ?_
        obtain ⟨rfl, _⟩ := hs
        refine SemR.pure' fun π5 hl5 => ?_
        have hb5 := ((hl.trans hl3).trans (hl4.trans hl5)) _ _ hb
        simp only [Option.map_some]
        have hadd : ∀ n, VR π5 (.slice (some (Addr.add ⟨b, off, spot⟩ n)) (h - l) (m - l)) (.slice (some (Addr.add ⟨k, off, spot⟩ n)) (h - l) (m - l + e)) := by
          intro n
          unfold Addr.add
          split
          · exact .sl hb5
          · exact .sl hb5
        rcases hfit with rfl | ⟨hmx, hne⟩
        · simp only [Nat.add_zero]
          split
          · exact VR.sl (m := 0) hb5
          · exact hadd _
        · have hm := hmc hmx
          have hne' : m ≠ l := by omega
          have e1 : ¬ (m + e = l) := by omega
          have e2 : m + e - l = m - l + e := by omega
          rw [if_neg hne', if_neg e1, e2]
          exact hadd _
    case pointer arr =>
      cases hx with
      | ptr hb =>
        rename_i b k m off spot
        obtain ⟨k', hk'⟩ := hf
        have e : k' = k ∧ m = 0 := by simp only at hk'; rw [hb] at hk'; cases hk'; exact ⟨rfl, rfl⟩
        obtain ⟨rfl, rfl⟩ := e
        refine SemR.bind (SemR.pure' (R := fun π a a' => a = ⟨b, off, spot⟩ ∧ a' = ⟨k', off, spot⟩) fun _ _ => ⟨rfl, rfl⟩) fun π3 hl3 a a' ha => ?_
        obtain ⟨rfl, rfl⟩ := ha
        refine SemR.bind SemR.underlying fun π4 hl4 d d' hd => ?_
        obtain ⟨rfl, hu⟩ := hd
        cases d <;> try exact SemR.stuck
        have hl' := (hl.trans hl3).trans hl4
        exact SemR.fresh_slice (h1.mono hl') (h2.mono hl') (h3.mono hl') _ _ ⟨k', hl' _ _ hb, rfl⟩
      | pnil => exact SemR.bind (R := fun _ _ _ => False) (by unfold Go.asAddr; exact SemR.runtimePanic) fun _ _ _ _ h => h.elim
      | _ => exact SemR.bind (R := fun _ _ _ => False) SemR.stuck fun _ _ _ _ h => h.elim
  cases d <;> try exact other
  case array n elem =>
    cases hx with
    | ptr hb =>
      rename_i b k m off spot
      obtain ⟨k', hk'⟩ := hf
      have e : k' = k ∧ m = 0 := by simp only at hk'; rw [hb] at hk'; cases hk'; exact ⟨rfl, rfl⟩
      obtain ⟨rfl, rfl⟩ := e
      refine SemR.bind (SemR.pure' (R := fun π a a' => a = ⟨b, off, spot⟩ ∧ a' = ⟨k', off, spot⟩) fun _ _ => ⟨rfl, rfl⟩) fun π3 hl3 a a' ha => ?_
      obtain ⟨rfl, rfl⟩ := ha
      have hl' := hl1.trans hl3
      exact SemR.fresh_slice (h1.mono hl') (h2.mono hl') (h3.mono hl') _ _ ⟨k', hl' _ _ hb, rfl⟩
    | _ => exact SemR.bind (R := fun _ _ _ => False) SemR.stuck fun _ _ _ _ h => h.elim
end
end Go.Proofs.YtdnccdobnhbpeaaDoor.Ev

namespace Go.Proofs.YtdnccdobnhbpeaaDoor.Ev
open Go
set_option linter.unusedVariables false

section
variable {P : Program} {lo : Bar} {π : Pl}
theorem SemR.makeMap {t : TypeId} {r r' : Option Value} (h : OR π r r') : SemR P lo π (Instr.makeMap t r) (Instr.makeMap t r') VR := by
  unfold Instr.makeMap
  have tail : ∀ π', π.le π' → SemR P lo π' (do Pure.pure (Value.map (some (← Go.newObj (.map #[] 0)))) : Sem Value) (do Pure.pure (Value.map (some (← Go.newObj (.map #[] 0))))) VR := by
    intro π' _
    refine SemR.bind (SemR.new fun _ π2 _ => .map 0 rfl fun i a => by simp at a) fun π2 hl2 a b hab => ?_
    exact SemR.pure' fun π3 hl3 => .map (hl3 _ _ hab)
  cases h with
  | none => exact tail π (Pl.le_refl _)
  | some hv =>
    refine SemR.bind SemR.underlying fun π2 hl2 a b hab => ?_
    obtain ⟨rfl, -⟩ := hab
    cases a <;> first | exact SemR.stuck | skip
    refine SemR.bind (SemR.asInt (hv.mono hl2)) fun π3 hl3 a b hab => ?_
    exact tail _ (hl2.trans hl3)
theorem SemR.askRoom {n : Nat} : SemR P lo π (Go.askRoom n) (Go.askRoom n) (fun _ _ _ => True) := by
  unfold Go.askRoom
  split
  · exact SemR.mark
  · exact SemR.pure' fun _ _ => trivial
theorem SemR.makeSlice {t : TypeId} (hz : ∀ e, P.underlying t = some (.slice e) → zeroOk P e = true) {l l' c c' : Value} (hl : VR π l l') (hc : VR π c c') :
    SemR P lo π (Instr.makeSlice t l c) (Instr.makeSlice t l' c') VR := by
  unfold Instr.makeSlice
  refine SemR.bind SemR.underlying fun π1 hl1 d d' hd => ?_
  obtain ⟨rfl, hu⟩ := hd
  cases d <;> try exact SemR.stuck
  rename_i e
  have hze := hz e hu
  simp only
  refine SemR.bind (SemR.asInt (hl.mono hl1)) fun π2 hl2 a a' ha => ?_
  cases ha
  refine SemR.bind (SemR.asInt ((hc.mono hl1).mono hl2)) fun π3 hl3 b b' hb => ?_
  cases hb
  refine SemR.bind SemR.typeInfo fun π4 hl4 i i' hi => ?_
  obtain ⟨rfl, hi⟩ := hi
  have tail : ∀ {π3 : Pl} (n : Nat) (z : Array Value), (∀ π', AR π' z z) → SemR P lo π3
      (do
        let r ← Go.newRow e ((Array.range n).map (z[· % z.size]!))
        Pure.pure (Value.slice (some r) (IntKind.i64.wrap a).toNat (IntKind.i64.wrap b).toNat))
      (do
        let r ← Go.newRow e ((Array.range n).map (z[· % z.size]!))
        Pure.pure (Value.slice (some r) (IntKind.i64.wrap a).toNat (IntKind.i64.wrap b).toNat)) VR := by
    intro π3 n z hzr
    refine SemR.bind (SemR.newRow (AR.zeros' (hzr π3) _)) fun π5 hl5 a a' ha => ?_
    exact SemR.pure' fun π6 hl6 => (ha.mono hl6).slice _ _
  have rest : ∀ {π3 : Pl}, SemR P lo π3
      (do
        Go.askRoom ((IntKind.i64.wrap b).toNat * i.bytes)
        let n := (IntKind.i64.wrap b).toNat * (← Go.sizeOf e)
        let zero ← if n = 0 then Pure.pure #[] else do Pure.pure (← Go.zeroValue e).cells
        let r ← Go.newRow e ((Array.range n).map (zero[· % zero.size]!))
        Pure.pure (Value.slice (some r) (IntKind.i64.wrap a).toNat (IntKind.i64.wrap b).toNat))
      (do
        Go.askRoom ((IntKind.i64.wrap b).toNat * i.bytes)
        let n := (IntKind.i64.wrap b).toNat * (← Go.sizeOf e)
        let zero ← if n = 0 then Pure.pure #[] else do Pure.pure (← Go.zeroValue e).cells
        let r ← Go.newRow e ((Array.range n).map (zero[· % zero.size]!))
        Pure.pure (Value.slice (some r) (IntKind.i64.wrap a).toNat (IntKind.i64.wrap b).toNat)) VR := by
    intro π3
    refine SemR.bind SemR.askRoom fun π4 hl4 _ _ _ => ?_
    refine SemR.bind SemR.sizeOf fun π5 hl5 s s' hs => ?_
    obtain ⟨rfl, _⟩ := hs
    simp only
    split
    · exact tail _ #[] fun _ => AR.nil
    · refine SemR.bind (SemR.zeroValue hze) fun π' hl z z' hzz => ?_
      obtain ⟨rfl, hf⟩ := hzz
      exact tail _ z.cells fun π4 => (VR.of_flat z hf : VR π4 z z).cells
  have no : ∀ {π3 : Pl} {α : Type} (x : RuntimeError) (f f' : α → Sem Value), SemR P lo π3 (Go.runtimePanic x >>= f) (Go.runtimePanic x >>= f') VR := fun x f f' =>
    SemR.bind (R := fun _ _ _ => False) SemR.runtimePanic fun _ _ _ _ h => h.elim
  split
  · split
    · exact no _ _ _
    · split
      · exact no _ _ _
      · exact SemR.never (never_bind fun _ => never_head (never_runtimePanic _))
  · exact rest
theorem SemR.lenOf {v v' : Value} (h : VR π v v') : SemR P lo π (Builtin.lenOf v) (Builtin.lenOf v') Same := by
  cases h <;> first | (exact SemR.pure' fun _ _ => rfl) | exact SemR.stuck
theorem SemR.firstCells {size n : Nat} {v v' : Value} (h : VR π v v') : SemR P lo π (Builtin.firstCells size n v) (Builtin.firstCells size n v') AR := by
  cases h <;> try exact SemR.stuck
  case string s =>
    refine SemR.pure' fun _ _ => AR.map _ fun x _ => .int _ _
  case snil l c => exact SemR.pure' fun _ _ => AR.nil
  case sl hb => exact (SemR.loadCells ⟨_, _, hb, rfl⟩ _).mono fun _ _ _ _ h => h.1
theorem AR.getq {xs ys : Array Value} (h : AR π xs ys) (i : Nat) : OR π xs[i]? ys[i]? := by
  cases hx : xs[i]? with
  | none => rw [h.none? hx]; exact .none
  | some v => obtain ⟨v', hv', hr⟩ := h.get? hx; rw [hv']; exact .some hr
theorem SemR.len {ts : Array TypeId} {t : TypeId} {xs ys : Array Value} (h : AR π xs ys) : SemR P lo π (Builtin.len_ ts t xs) (Builtin.len_ ts t ys) VR := by
  unfold Builtin.len_
  cases ts[0]? with
  | none => exact SemR.stuck
  | some t0 =>
    have h0 := h.getq 0
    generalize xs[0]? = x at h0
    generalize ys[0]? = y at h0
    cases h0 with
    | none => exact SemR.stuck
    | some hv =>
      simp only
      refine SemR.bind SemR.underlying fun π1 hl1 d d' hd => ?_
      obtain ⟨rfl, hu⟩ := hd
      have hv1 := hv.mono hl1
      cases d <;> try exact SemR.stuck
      case string => cases hv1 <;> first | exact SemR.stuck | exact SemR.pure' fun _ _ => .int _ _
      case array n e => exact SemR.pure' fun _ _ => .int _ _
      case pointer arr =>
        refine SemR.bind SemR.underlying fun π2 hl2 d d' hd => ?_
        obtain ⟨rfl, hu⟩ := hd
        cases d <;> first | exact SemR.stuck | exact SemR.pure' fun _ _ => .int _ _
      case slice e => cases hv1 <;> first | exact SemR.stuck | exact SemR.pure' fun _ _ => .int _ _
      case chan => cases hv1 <;> first | exact SemR.stuck | exact SemR.pure' fun _ _ => .int _ _
      case map k e =>
        cases hv1 <;> first | exact SemR.stuck | (exact SemR.pure' fun _ _ => .int _ _) | skip
        rename_i b k m hb
        refine SemR.bind (SemR.getObj hb) fun π2 hl2 o o' ho => ?_
        cases ho <;> try exact SemR.stuck
        rename_i es es' clock hlen hes
        simp only [hlen]
        exact SemR.pure' fun _ _ => .int _ _
theorem SemR.copy {ts : Array TypeId} {t : TypeId} {xs ys : Array Value} (h : AR π xs ys) : SemR P lo π (Builtin.copy_ ts t xs) (Builtin.copy_ ts t ys) VR := by
  unfold Builtin.copy_
  cases ts[0]? with
  | none => exact SemR.stuck
  | some t0 =>
    have h0 := h.getq 0
    have h1 := h.getq 1
    generalize xs[0]? = x at h0
    generalize ys[0]? = y at h0
    generalize xs[1]? = x1 at h1
    generalize ys[1]? = y1 at h1
    cases h0 with
    | none => exact SemR.stuck
    | some hv =>
    cases h1 with
    | none => exact SemR.stuck
    | some hv2 =>
      simp only
      refine SemR.bind SemR.underlying fun π1 hl1 d d' hd => ?_
      obtain ⟨rfl, hu⟩ := hd
      cases d <;> try exact SemR.stuck
      rename_i e
      simp only
      have tail : ∀ (base base' : Option Addr) (dLen : Nat) , (∀ a, base = some a → ∃ a', base' = some a' ∧ AddrR π1 a a') → (base = none → base' = none) → ∀ {v v' : Value}, VR π1 v v' → SemR P lo π1
          (do
            let n := Nat.min (← Builtin.lenOf v) dLen
            let cells ← Builtin.firstCells (← Go.sizeOf e) n v
            if let some a := base then Go.storeCells a cells.toList
            Pure.pure (Go.goInt n))
          (do
            let n := Nat.min (← Builtin.lenOf v') dLen
            let cells ← Builtin.firstCells (← Go.sizeOf e) n v'
            if let some a := base' then Go.storeCells a cells.toList
            Pure.pure (Go.goInt n)) VR := by
        intro base base' dLen hb hb' v v' hv
        refine SemR.bind (SemR.lenOf hv) fun π2 hl2 a b hab => ?_
        cases hab
        refine SemR.bind SemR.sizeOf fun π3 hl3 s s' hs => ?_
        obtain ⟨rfl, _⟩ := hs
        refine SemR.bind (SemR.firstCells ((hv.mono hl2).mono hl3)) fun π4 hl4 cs cs' hcs => ?_
        cases base with
        | none =>
          rw [hb' rfl]
          exact SemR.pure' fun _ _ => .int _ _
        | some a =>
          obtain ⟨a', rfl, ha⟩ := hb a rfl
          refine SemR.bind (SemR.storeCells (ha.mono ((hl2.trans hl3).trans hl4)) _ _ 0 (Pl.le_refl _) hcs.list) fun π5 hl5 _ _ _ => ?_
          exact SemR.pure' fun _ _ => .int _ _
      have hva := hv.mono hl1
      cases hva <;> try exact SemR.stuck
      · exact tail none none _ (by simp) (by simp) (hv2.mono hl1)
      · rename_i hb
        exact tail (some _) (some _) _ (fun _ e => by cases e; exact ⟨_, rfl, _, _, hb, rfl⟩) (by simp) (hv2.mono hl1)
theorem SemR.typeAssert {t a : TypeId} (hz : zeroOk P a = true) {v v' : Value} (h : VR π v v') {ok : Bool} : SemR P lo π (Instr.typeAssert v t a ok) (Instr.typeAssert v' t a ok) VR := by
  unfold Instr.typeAssert
  have fails : ∀ {π1 : Pl} (s d : Option TypeId) (mi : String), SemR P lo π1
      (if ok then do Pure.pure (Value.tuple #[← Go.zeroValue a, .bool false]) else Go.runtimePanic (.typeAssertion s d a mi))
      (if ok then do Pure.pure (Value.tuple #[← Go.zeroValue a, .bool false]) else Go.runtimePanic (.typeAssertion s d a mi)) VR := by
    intro π1 s d mi
    split
    · refine SemR.bind (SemR.zeroValue hz) fun π' hl z z' hzz => ?_
      obtain ⟨rfl, hf⟩ := hzz
      refine SemR.pure' fun π2 hl2 => ?_
      have : AR π2 #[z, .bool false] #[z, .bool false] := (AR.one (VR.of_flat z hf)).push (.bool false)
      exact .tuple this.1 this.2
    · exact SemR.runtimePanic
  have holds : ∀ {π1 : Pl} {v v' : Value}, VR π1 v v' → SemR P lo π1 (Pure.pure (if ok then .tuple #[v, .bool true] else v)) (Pure.pure (if ok then .tuple #[v', .bool true] else v')) VR := by
    intro π1 v v' hv
    refine SemR.pure' fun π2 hl2 => ?_
    split
    · have : AR π2 #[v, .bool true] #[v', .bool true] := (AR.one (hv.mono hl2)).push (.bool true)
      exact .tuple this.1 this.2
    · exact hv.mono hl2
  refine SemR.bind SemR.underlying fun π1 hl1 d d' hd => ?_
  obtain ⟨rfl, hu⟩ := hd
  have hv := h.mono hl1
  cases hv with
  | nilIface => cases d <;> exact fails _ _ _
  | @iface t0 w w' hw =>
    have hi : VR π1 (.iface t0 w) (.iface t0 w') := .iface t0 hw
    cases d with
    | interface want =>
      simp only
      refine SemR.bind SemR.typeInfo fun π2 hl2 i i' hi' => ?_
      obtain ⟨rfl, hi'⟩ := hi'
      split
      · exact holds (hi.mono hl2)
      · exact fails _ _ _
    | _ =>
      simp only
      split
      · exact holds hw
      · exact fails _ _ _
  | _ => cases d <;> exact SemR.stuck
end
end Go.Proofs.YtdnccdobnhbpeaaDoor.Ev

namespace Go.Proofs.YtdnccdobnhbpeaaDoor.Ev
open Go
set_option linter.unusedVariables false

inductive NextR (π : Pl) : Next → Next → Prop
  | value {v v' : Value} (h : VR π v v') : NextR π (.value v) (.value v')
  | skip : NextR π .skip .skip
  | enter (f : FuncId) {xs ys : Array Value} (h : AR π xs ys) : NextR π (.enter f xs) (.enter f ys)
  | round {l k m : Nat} (hl : π l = some (k, m)) (f : FuncId) {xs ys : Array Value} (h : AR π xs ys) (assign body : Code) : NextR π (.round l f xs assign body) (.round k f ys assign body)
/-- Deferred calls, place by place. -/
def DsR (π : Pl) (ds ds' : List Deferred) : Prop := ds.length = ds'.length ∧ ∀ i (a : i < ds.length) (b : i < ds'.length), DefR π ds[i] ds'[i]
theorem DsR.mono {π π' : Pl} (h : π.le π') {ds ds' : List Deferred} (r : DsR π ds ds') : DsR π' ds ds' := ⟨r.1, fun i a b => (r.2 i a b).mono h⟩
theorem DsR.nil {π : Pl} : DsR π [] [] := ⟨rfl, fun i a b => by simp at a⟩
theorem DsR.cons {π : Pl} {d d' : Deferred} {ds ds' : List Deferred} (h : DefR π d d') (hs : DsR π ds ds') : DsR π (d :: ds) (d' :: ds') := by
  refine ⟨by simp [hs.1], fun i a b => ?_⟩
  cases i with
  | zero => exact h
  | succ i => exact hs.2 i _ _
theorem DsR.tail {π : Pl} {d d' : Deferred} {ds ds' : List Deferred} (h : DsR π (d :: ds) (d' :: ds')) : DefR π d d' ∧ DsR π ds ds' :=
  ⟨h.2 0 (by simp) (by simp), by simpa using h.1, fun i a b => h.2 (i + 1) (by simpa using a) (by simpa using b)⟩
theorem DsR.append {π : Pl} : ∀ {ds ds' es es' : List Deferred}, DsR π ds ds' → DsR π es es' → DsR π (ds ++ es) (ds' ++ es')
  | [], [], _, _, _, h => h
  | [], _ :: _, _, _, h, _ => by simp [DsR] at h
  | _ :: _, [], _, _, h, _ => by simp [DsR] at h
  | d :: ds, d' :: ds', es, es', h, h' => DsR.cons h.tail.1 (DsR.append h.tail.2 h')

section
variable {P : Program} {lo : Bar} {π : Pl}
theorem SemR.getLoop {l k m : Nat} (h : π l = some (k, m)) : SemR P lo π (Instr.getLoop l) (Instr.getLoop k) LoopR := by
  unfold Instr.getLoop
  refine SemR.bind (SemR.getObj h) fun π1 hl1 o o' ho => ?_
  cases ho <;> try exact SemR.stuck
  rename_i hr
  exact SemR.pure' fun π2 hl2 => hr.mono hl2
/-- The round that a frame is of, if any. -/
def RoundR (π : Pl) : Option Nat → Option Nat → Prop
  | none, none => True
  | some l, some k => ∃ m, π l = some (k, m)
  | _, _ => False
theorem RoundR.mono {π π' : Pl} (h : π.le π') {a b : Option Nat} (r : RoundR π a b) : RoundR π' a b := by
  unfold RoundR at *
  split at r
  · trivial
  · obtain ⟨m, hm⟩ := r; exact ⟨m, h _ _ hm⟩
  · exact r.elim
theorem SemR.enterLoop {fn : FuncId} {tmps tmps' : Array Value} (ht : AR π tmps tmps') {params : Array Tmp} {assign body : Code} {r r' : Option Nat} (hr : RoundR π r r') :
    SemR P lo π (Instr.enterLoop fn tmps params assign body r) (Instr.enterLoop fn tmps' params assign body r') (fun π a b => (∃ m, π a.1 = some (b.1, m)) ∧ DsR π a.2 b.2) := by
  unfold Instr.enterLoop
  have fin : ∀ {π1 : Pl} (hl1 : π.le π1) (d d' : Nat) (mark mark' : List Deferred), (∃ m, π1 d = some (d', m)) → DsR π1 mark mark' → SemR P lo π1
      (do Pure.pure (← Go.newObj (.loop { state := .ready, pending := none, fn, tmps, params, assign, body, defers := d }), mark))
      (do Pure.pure (← Go.newObj (.loop { state := .ready, pending := none, fn, tmps := tmps', params, assign, body, defers := d' }), mark'))
      (fun π a b => (∃ m, π a.1 = some (b.1, m)) ∧ DsR π a.2 b.2) := by
    intro π1 hl1 d d' mark mark' hd hm
    obtain ⟨m, hd⟩ := hd
    refine SemR.bind (SemR.new fun _ π2 hl2 => .loop ⟨rfl, rfl, rfl, (ht.mono hl1).mono hl2, rfl, rfl, rfl, ⟨m, hl2 _ _ hd⟩⟩) fun π2 hl2 a b hab => ?_
    exact SemR.pure' fun π3 hl3 => ⟨⟨0, hl3 _ _ hab⟩, (hm.mono hl2).mono hl3⟩
  cases r with
  | some l =>
    cases r' with
    | none => exact hr.elim
    | some k =>
      obtain ⟨m, hk⟩ := hr
      refine SemR.bind (SemR.getLoop hk) fun π1 hl1 a b hab => ?_
      exact fin hl1 _ _ [] [] hab.defers DsR.nil
  | none =>
    cases r' with
    | some k => exact hr.elim
    | none =>
      refine SemR.bind (SemR.new fun _ π2 hl2 => .deferred (ds := []) (ds' := []) rfl fun i a b => by simp at a) fun π1 hl1 a b hab => ?_
      exact fin hl1 a b _ _ ⟨0, hab⟩ (DsR.cons ⟨.collected hab, AR.nil⟩ DsR.nil)
theorem fold_params {π : Pl} : ∀ (ps : List Tmp) (xs ys : List Value) (t t' : Array Value), LR π xs ys → AR π t t' →
    AR π ((ps.zip xs).foldl (fun tmps (t, a) => tmps.setIfInBounds t a) t) ((ps.zip ys).foldl (fun tmps (t, a) => tmps.setIfInBounds t a) t') := by
  intro ps
  induction ps with
  | nil => intro xs ys t t' _ h; simpa using h
  | cons p ps ih =>
    intro xs ys t t' hl h
    cases xs with
    | nil => cases ys with
      | nil => simpa using h
      | cons _ _ => simp [LR] at hl
    | cons x xs => cases ys with
      | nil => simp [LR] at hl
      | cons y ys =>
        simp only [List.zip_cons_cons, List.foldl_cons]
        exact ih xs ys _ _ hl.tail.2 (h.set hl.tail.1 _)
theorem SemR.yield {l k m : Nat} (h : π l = some (k, m)) {xs ys : Array Value} (hx : AR π xs ys) : SemR P lo π (Instr.yield l xs) (Instr.yield k ys) NextR := by
  unfold Instr.yield
  refine SemR.bind (SemR.getLoop h) fun π1 hl1 a b hab => ?_
  simp only [hab.params, ← hx.1]
  split
  · exact SemR.bind (R := fun _ _ _ => False) SemR.stuck fun _ _ _ _ h => h.elim
  · refine SemR.pure' fun π2 hl2 => ?_
    rw [hab.fn, hab.assign, hab.body]
    refine .round (hl2 _ _ (hl1 _ _ h)) _ ?_ _ _
    have := fold_params a.params.toList xs.toList ys.toList a.tmps b.tmps (hx.list.mono (hl1)) hab.tmps
    have e : ∀ (xs : Array Value) (t : Array Value), (a.params.zip xs).foldl (fun tmps (t, a) => tmps.setIfInBounds t a) t = (a.params.toList.zip xs.toList).foldl (fun tmps (t, a) => tmps.setIfInBounds t a) t := by
      intro xs t
      rw [← Array.foldl_toList, Array.toList_zip]
    rw [e, e]
    exact this.mono hl2
theorem SemR.beginRound {l k m : Nat} (h : π l = some (k, m)) : SemR P lo π (Instr.beginRound l) (Instr.beginRound k) (fun _ _ _ => True) := by
  unfold Instr.beginRound
  refine SemR.bind (SemR.getLoop h) fun π1 hl1 a b hab => ?_
  refine SemR.bind (SemR.setObj (hl1 _ _ h) fun _ π2 hl2 => .loop { (hab.mono hl2) with state := rfl }) fun π2 hl2 _ _ _ => ?_
  rw [hab.state]
  cases a.state <;> first | (exact SemR.pure' fun _ _ => trivial) | exact SemR.runtimePanic
theorem SemR.endRound {l k m : Nat} (h : π l = some (k, m)) (jump : Option Code) : SemR P lo π (Instr.endRound l jump) (Instr.endRound k jump) VR := by
  unfold Instr.endRound
  refine SemR.bind (SemR.getLoop h) fun π1 hl1 a b hab => ?_
  refine SemR.bind (SemR.setObj (hl1 _ _ h) fun _ π2 hl2 => .loop { (hab.mono hl2) with state := rfl, pending := rfl }) fun π2 hl2 _ _ _ => ?_
  exact SemR.pure' fun _ _ => .bool _
theorem SemR.endLoop {l k m : Nat} (h : π l = some (k, m)) : SemR P lo π (Instr.endLoop l) (Instr.endLoop k) Same := by
  unfold Instr.endLoop
  refine SemR.bind (SemR.getLoop h) fun π1 hl1 a b hab => ?_
  rw [hab.state]
  split
  · exact SemR.bind (R := fun _ _ _ => False) SemR.runtimePanic fun _ _ _ _ h => h.elim
  · refine SemR.bind (SemR.setObj (hl1 _ _ h) fun _ π2 hl2 => .loop { (hab.mono hl2) with state := rfl }) fun π2 hl2 _ _ _ => ?_
    exact SemR.pure' fun _ _ => hab.pending.symm
theorem SemR.takeDeferred {l k m : Nat} (h : π l = some (k, m)) : SemR P lo π (Instr.takeDeferred l) (Instr.takeDeferred k) DsR := by
  unfold Instr.takeDeferred
  refine SemR.bind (SemR.getObj h) fun π1 hl1 o o' ho => ?_
  cases ho <;> try exact SemR.stuck
  rename_i hl hd
  refine SemR.bind (SemR.setObj (hl1 _ _ h) fun _ π2 hl2 => .taken) fun π2 hl2 _ _ _ => ?_
  exact SemR.pure' fun π3 hl3 => (DsR.mono hl2 ⟨hl, hd⟩).mono hl3
theorem SemR.results {fn : Func} {t t' : Array Value} (h : AR π t t') : SemR P lo π (Go.results fn t) (Go.results fn t') VR := by
  unfold Go.results
  have one : ∀ {π1 : Pl}, π.le π1 → ∀ r : ResultVar, SemR P lo π1
      (match r with
        | .tmp i => Pure.pure (t.getD i Go.undef)
        | .cell a ty => do Go.loadVar ty (← Go.asAddr (t.getD a Go.undef)))
      (match r with
        | .tmp i => Pure.pure (t'.getD i Go.undef)
        | .cell a ty => do Go.loadVar ty (← Go.asAddr (t'.getD a Go.undef))) VR := by
    intro π1 hl r
    cases r with
    | tmp i => exact SemR.pure' fun _ hl2 => ((h.mono hl).getD i).mono hl2
    | cell a ty =>
      refine SemR.bind (SemR.asAddr ((h.mono hl).getD a)) fun π2 hl2 x y hxy => ?_
      exact SemR.loadVar hxy
  refine SemR.bind (R := AR) ?_ fun π1 hl1 vs vs' hv => ?_
  · rw [Array.mapM_eq_mapM_toList, Array.mapM_eq_mapM_toList]
    refine SemR.bind (R := LR) ?_ fun π1 hl1 a b hab => ?_
    · generalize fn.results.toList = l
      have : ∀ (l : List ResultVar) {π1 : Pl}, π.le π1 → SemR P lo π1
          (l.mapM fun
            | .tmp i => Pure.pure (t.getD i Go.undef)
            | .cell a ty => do Go.loadVar ty (← Go.asAddr (t.getD a Go.undef)))
          (l.mapM fun
            | .tmp i => Pure.pure (t'.getD i Go.undef)
            | .cell a ty => do Go.loadVar ty (← Go.asAddr (t'.getD a Go.undef))) LR := by
        intro l
        induction l with
        | nil => intro π1 _; exact SemR.pure' fun _ _ => ⟨rfl, fun i a => by simp at a⟩
        | cons r l ih =>
          intro π1 hl
          rw [List.mapM_cons, List.mapM_cons]
          refine SemR.bind (one hl r) fun π2 hl2 v v' hv => ?_
          refine SemR.bind (ih (hl.trans hl2)) fun π3 hl3 vs vs' hvs => ?_
          exact SemR.pure' fun π4 hl4 => LR.cons ((hv.mono hl3).mono hl4) (hvs.mono hl4)
      exact this l (Pl.le_refl _)
    · exact SemR.pure' fun π2 hl2 => (hab.mono hl2).array
  · refine SemR.pure' fun π2 hl2 => ?_
    have hv' := hv.mono hl2
    by_cases h1 : vs.size = 1
    · have h2 : vs'.size = 1 := hv.1 ▸ h1
      simp only [h1, h2, dite_true]
      exact hv'.2 0 (by omega) (by omega)
    · have h2 : ¬ vs'.size = 1 := hv.1 ▸ h1
      simp only [h1, h2, dite_false]
      exact .tuple hv'.1 hv'.2
end
end Go.Proofs.YtdnccdobnhbpeaaDoor.Ev

