/-
  The evaluator: regions whose order is drawn; what a call comes to.
-/
import Derived.Test.YtdnccdobnhbpeaaDoorEvD
import Derived.Eval
namespace Go.Proofs.YtdnccdobnhbpeaaDoor.Ev
open Go
set_option linter.unusedVariables false
set_option linter.unusedSimpArgs false
section
variable {P : Program} {b : Bar} {π : Pl} {G n : Nat} {t : Trie Value} {tmps : Array Value} {H H' : Heap} {w : World} {v : Value} {run : Runner}

/-! ## Parts of a heap -/
theorem only_spec (h : Heap) (hs : h.small) : ∀ l : List Nat, (only h l).size = h.size ∧ ∀ x, (only h l).get x = if x ∈ l then h.get x else none := by
  intro l
  induction l with
  | nil =>
    refine ⟨rfl, fun x => ?_⟩
    show (⟨h.size, .leaf⟩ : Heap).get x = _
    rw [Heap.get_eq, Trie.at_leaf]
    simp
  | cons i l ih =>
    obtain ⟨e1, e2⟩ := ih
    show (bif Nat.ble (Nat.succ i) h.size then (only h l).set i (h.get i) else only h l).size = _ ∧ ∀ x, (bif Nat.ble (Nat.succ i) h.size then (only h l).set i (h.get i) else only h l).get x = _
    by_cases hi : i < h.size
    · rw [show Nat.ble (Nat.succ i) h.size = true from ble_true hi]
      simp only [cond_true]
      refine ⟨by rw [Heap.set_size, e1], fun x => ?_⟩
      rw [Heap.get_set (by unfold Heap.small; rw [e1]; exact hs) (by rw [e1]; exact hi), e2]
      by_cases hx : x = i
      · subst hx; simp
      · simp [hx]
    · rw [show Nat.ble (Nat.succ i) h.size = false from ble_false (by omega)]
      simp only [cond_false]
      refine ⟨e1, fun x => ?_⟩
      rw [e2]
      by_cases hx : x = i
      · subst hx
        have : h.get x = none := by rw [Heap.get_eq, if_neg hi]
        simp [this]
      · simp [hx]
theorem carry_spec (f : Heap) : ∀ (m a : Nat) (h : Heap), h.small → a + m ≤ h.size → (carry f m a h).size = h.size ∧ ∀ x, (carry f m a h).get x = if a ≤ x ∧ x < a + m then f.get x else h.get x := by
  intro m
  induction m with
  | zero =>
    intro a h hs hm
    refine ⟨rfl, fun x => ?_⟩
    have : ¬ (a ≤ x ∧ x < a + 0) := by omega
    rw [if_neg this]
    rfl
  | succ m ih =>
    intro a h hs hm
    show (carry f m (a + 1) (h.set a (f.get a))).size = _ ∧ ∀ x, (carry f m (a + 1) (h.set a (f.get a))).get x = _
    obtain ⟨e1, e2⟩ := ih (a + 1) (h.set a (f.get a)) (by unfold Heap.small; rw [Heap.set_size]; exact hs) (by rw [Heap.set_size]; omega)
    refine ⟨by rw [e1, Heap.set_size], fun x => ?_⟩
    rw [e2, Heap.get_set hs (by omega)]
    by_cases h1 : a + 1 ≤ x ∧ x < a + 1 + m
    · have : a ≤ x ∧ x < a + (m + 1) := by omega
      rw [if_pos h1, if_pos this]
    · rw [if_neg h1]
      by_cases h2 : x = a
      · subst h2
        have : x ≤ x ∧ x < x + (m + 1) := by omega
        rw [if_pos rfl, if_pos this]
      · have : ¬ (a ≤ x ∧ x < a + (m + 1)) := by omega
        rw [if_neg h2, if_neg this]
theorem strike_spec : ∀ (m a : Nat) (h : Heap), h.small → a + m ≤ h.size → (strike m a h).size = h.size ∧ ∀ x, (strike m a h).get x = if a ≤ x ∧ x < a + m then none else h.get x := by
  intro m
  induction m with
  | zero =>
    intro a h hs hm
    refine ⟨rfl, fun x => ?_⟩
    have : ¬ (a ≤ x ∧ x < a + 0) := by omega
    rw [if_neg this]
    rfl
  | succ m ih =>
    intro a h hs hm
    show (strike m (a + 1) (h.set a none)).size = _ ∧ ∀ x, (strike m (a + 1) (h.set a none)).get x = _
    obtain ⟨e1, e2⟩ := ih (a + 1) (h.set a none) (by unfold Heap.small; rw [Heap.set_size]; exact hs) (by rw [Heap.set_size]; omega)
    refine ⟨by rw [e1, Heap.set_size], fun x => ?_⟩
    rw [e2, Heap.get_set hs (by omega)]
    by_cases h1 : a + 1 ≤ x ∧ x < a + 1 + m
    · have : a ≤ x ∧ x < a + (m + 1) := by omega
      rw [if_pos h1, if_pos this]
    · rw [if_neg h1]
      by_cases h2 : x = a
      · subst h2
        have : x ≤ x ∧ x < x + (m + 1) := by omega
        rw [if_pos rfl, if_pos this]
      · have : ¬ (a ≤ x ∧ x < a + (m + 1)) := by omega
        rw [if_neg h2, if_neg this]
/-- What is left when the numbers of those that one does not come behind are taken away. -/
theorem behind_spec (d : Nat) : ∀ (rs : List Rec) (i : Nat) (h : Heap), h.small → (∀ r ∈ rs, r.e ≤ h.size) → (behind d i rs h).size = h.size ∧ ∀ x, ((behind d i rs h).get x = h.get x ∨ (behind d i rs h).get x = none) ∧
      (∀ j r, rs[j]? = some r → d.testBit (i + j) = false → r.s ≤ x → x < r.e → (behind d i rs h).get x = none) := by
  intro rs
  induction rs with
  | nil => intro i h hs _; exact ⟨rfl, fun x => ⟨.inl rfl, fun j r hj => by simp at hj⟩⟩
  | cons r rs ih =>
    intro i h hs hle
    have hr := hle r (by simp)
    have hdef : behind d i (r :: rs) h = behind d (i + 1) rs (bif d.testBit i then h else strike (r.e - r.s) r.s h) := rfl
    rw [hdef]
    clear hdef
    cases hb : d.testBit i with
    | true =>
      simp only [cond_true]
      obtain ⟨e1, e2⟩ := ih (i + 1) h hs (fun q hq => hle q (by simp [hq]))
      refine ⟨e1, fun x => ⟨(e2 x).1, fun j q hj hd h1 h2 => ?_⟩⟩
      cases j with
      | zero => rw [Nat.add_zero, hb] at hd; cases hd
      | succ j => exact (e2 x).2 j q (by simpa using hj) (by rw [show i + 1 + j = i + (j + 1) from by omega]; exact hd) h1 h2
    | false =>
      simp only [cond_false]
      by_cases hse : r.s ≤ r.e
      · obtain ⟨s1, s2⟩ := strike_spec (r.e - r.s) r.s h hs (by omega)
        obtain ⟨e1, e2⟩ := ih (i + 1) (strike (r.e - r.s) r.s h) (by unfold Heap.small; rw [s1]; exact hs) (fun q hq => by rw [s1]; exact hle q (by simp [hq]))
        refine ⟨by rw [e1, s1], fun x => ⟨?_, fun j q hj hd h1 h2 => ?_⟩⟩
        · rcases (e2 x).1 with h3 | h3
          · rw [h3, s2]
            split
            · exact .inr rfl
            · exact .inl rfl
          · exact .inr h3
        · cases j with
          | zero =>
            have : q = r := by simpa using hj.symm
            subst this
            rcases (e2 x).1 with h3 | h3
            · rw [h3, s2, if_pos (by omega)]
            · exact h3
          | succ j => exact (e2 x).2 j q (by simpa using hj) (by rw [show i + 1 + j = i + (j + 1) from by omega]; exact hd) h1 h2
      · have hz : r.e - r.s = 0 := by omega
        have hst : strike (r.e - r.s) r.s h = h := by rw [hz]; rfl
        rw [hst]
        obtain ⟨e1, e2⟩ := ih (i + 1) h hs (fun q hq => hle q (by simp [hq]))
        refine ⟨e1, fun x => ⟨(e2 x).1, fun j q hj hd h1 h2 => ?_⟩⟩
        cases j with
        | zero =>
          have : q = r := by simpa using hj.symm
          subst this
          omega
        | succ j => exact (e2 x).2 j q (by simpa using hj) (by rw [show i + 1 + j = i + (j + 1) from by omega]; exact hd) h1 h2
/-- Only some temporaries. -/
theorem restT_spec (t : Trie Value) (hn : n < 2 ^ 24 - 1) : ∀ l : List Nat, ∀ d, d < n → tget (restT n t l) d = if d ∈ l then tget t d else undef := by
  intro l
  induction l with
  | nil => intro d _; simp only [restT]; rw [tget_leaf]; simp
  | cons i l ih =>
    intro d hd
    simp only [restT]
    rw [tset_eq]
    by_cases hi : i < n
    · rw [if_pos hi, tget_put _ _ _ _ (by omega) (by omega)]
      by_cases e : d = i
      · subst e; simp
      · rw [if_neg e, ih d hd]
        simp [e]
    · rw [if_neg hi, ih d hd]
      have : d ≠ i := by omega
      simp [this]

/-! ## An operation, whole -/
theorem instR_noSelect {o : Oper} : (∀ v H', instR P G b n t H o (instOf P G n o) = .value v H' → ∀ cs bl, o.op ≠ .select cs bl) ∧ (∀ fr H', instR P G b n t H o (instOf P G n o) = .enter fr H' → ∀ cs bl, o.op ≠ .select cs bl) := by
  have key : ∀ cs bl, o.op = .select cs bl → instR P G b n t H o (instOf P G n o) = .stuck := by
    intro cs bl ho
    unfold instOf
    rw [ho]
    simp only [decode, instR, coldR]
    have : lexec P G b (evT n t) o H = none := by
      unfold lexec
      split
      · have hl : lplain P (evT n t) o = none := by
          unfold lplain
          rw [ho]
          simp [plainOp]
        rw [hl, ho]
        simp [allowed]
      · rfl
    rw [this]
  exact ⟨fun v H' h cs bl ho => (by rw [key cs bl ho] at h; cases h), fun fr H' h cs bl ho => (by rw [key cs bl ho] at h; cases h)⟩
theorem opWhole_sim (hrun : RunOk P G run) {o : Oper} (h : opWhole run P G b n t o (instOf P G n o) H = some (v, H')) (hT : TR π n t tmps) (hG : Glob G π) (hE : Emb P π H w) :
    (∀ cs bl, o.op ≠ .select cs bl) ∧ ∃ π' w' v', Emb P π' H' w' ∧ Keep b H π w H' π' w' ∧ VR π' v v' ∧
      ∀ (fn : FuncId) (ops : Array Oper) (i : Nat) (l : List Nat) (k : List Item) (ds : List Deferred) (r : Option Nat) (cs : List Frame) (tmps2 : Array Value), ops[i]? = some o → Region.wanted o (yielded ops tmps2) = true → execOp (actE tmps2) o = execOp (actE tmps) o →
        Steps P (lone (fra fn tmps2 (.inRegion ops (i :: l) :: k) ds r) cs w) (lone (fra fn (putA tmps2 o.dst v') (.inRegion ops l :: k) ds r) cs w') := by
  unfold opWhole at h
  have hI := instR_sim (P := P) (b := b) (G := G) (o := o) hE hT hG
  obtain ⟨ns1, ns2⟩ := instR_noSelect (P := P) (b := b) (G := G) (o := o) (n := n) (t := t) (H := H)
  cases hx : instR P G b n t H o (instOf P G n o) with
  | stuck => rw [hx] at h; cases h
  | value v2 H2 =>
    rw [hx] at h hI
    cases h
    obtain ⟨hnd, π', x, w', hrn, hE', hK, hval⟩ := hI
    rcases hval with ⟨v', rfl, hv⟩ | ⟨rfl, rfl⟩
    · refine ⟨ns1 _ _ hx, π', w', v', hE', hK, hv, fun fn ops i l k ds r cs tmps2 ho hw he => ?_⟩
      rw [← he] at hrn
      exact .one (st_opValue ho hw hnd hrn)
    · refine ⟨ns1 _ _ hx, π', w', undef, hE', hK, .undef, fun fn ops i l k ds r cs tmps2 ho hw he => ?_⟩
      rw [← he] at hrn
      exact .one (st_opSkip ho hw hnd hrn)
  | enter fr H2 =>
    rw [hx] at h hI
    simp only at h
    obtain ⟨hnd, π', w1, hE1, hK, hgo⟩ := hI
    cases hro : fr.round with
    | some _ => rw [hro] at h; cases h
    | none =>
      rw [hro] at h
      simp only at h
      rcases hgo with ⟨f, args, hrn, hf⟩ | ⟨l0, f, ts, as, bd, hrn, hf⟩
      · obtain ⟨π2, v', w2, fe, e1, e2, e3, e4, e5, e6⟩ := hrun b fr [] H2 v H' h π' _ [] w1 hf .nil (hG.mono hK.le) hE1
        refine ⟨ns2 _ _ hx, π2, w2, v', e1, hK.trans e3, e2, fun fn ops i l k ds r cs tmps2 ho hw he => ?_⟩
        rw [← he] at hrn
        refine (Steps.one (st_opEnter ho hw hnd hrn)).trans ((e6 (fra fn tmps2 (.inRegion ops (i :: l) :: k) ds r :: cs)).trans ?_)
        rw [← fra_finish ho]
        exact .one (step_leave_returned e4)
      · exfalso
        generalize hfr : Frame.round l0 f ts as bd .normal = fr' at hf
        cases hf with
        | mk hfr' =>
          have := hfr'.round
          rw [hro] at this
          rename_i tmps' todo' ds' r'
          have hr' : r' = some l0 := by
            have := congrArg Frame.roundOf hfr
            simpa [Frame.round, fran] using this.symm
          rw [hr'] at this
          exact this
end
end Go.Proofs.YtdnccdobnhbpeaaDoor.Ev

namespace Go.Proofs.YtdnccdobnhbpeaaDoor.Ev
open Go
set_option linter.unusedVariables false
set_option linter.unusedSimpArgs false
section
variable {P : Program} {b : Bar} {π : Pl} {G n : Nat} {t : Trie Value} {tmps : Array Value} {H H' : Heap} {w : World} {v : Value} {run : Runner}

/-! ## What the evaluation of a drawn region says -/
structure Ran (run : Runner) (P : Program) (G : Nat) (b : Bar) (ops : Array Oper) (ds : List Nat) (tl n : Nat) (tt : Nat → Trie Value) (FF : Nat → Heap) (recs : List Rec) (lo hi : Nat) : Prop where
  op : ∀ j, lo ≤ j → j < hi → ∃ o r, ops.toList[j]? = some o ∧ recs[j]? = some r ∧ opRec run P G b ops ds tl n o j (restT n (tt j) (o.looksAt ops)) (FF j) (recs.take j) = some (r, FF (j + 1)) ∧ tt (j + 1) = tsetO n (tt j) o.dst r.v
theorem opsRun_spec {ops : Array Oper} {ds : List Nat} {tl : Nat} : ∀ (os : List Oper) (i : Nat) (t : Trie Value) (full : Heap) (recs : List Rec) (tN : Trie Value) (FN : Heap) (recsN : List Rec),
    opsRun run P G b ops ds tl n os i t full recs = some (tN, FN, recsN) → recs.length = i → ops.toList.drop i = os →
    recsN.length = i + os.length ∧ recsN.take i = recs ∧ ∃ tt FF, tt i = t ∧ FF i = full ∧ tt (i + os.length) = tN ∧ FF (i + os.length) = FN ∧ Ran run P G b ops ds tl n tt FF recsN i (i + os.length) := by
  intro os
  induction os with
  | nil =>
    intro i t full recs tN FN recsN h hl hd
    simp only [opsRun] at h
    cases h
    refine ⟨by simp [hl], by rw [← hl]; exact List.take_length, fun _ => t, fun _ => full, rfl, rfl, rfl, rfl, ⟨fun j h1 h2 => ?_⟩⟩
    simp at h2; omega
  | cons o os ih =>
    intro i t full recs tN FN recsN h hl hd
    simp only [opsRun] at h
    cases hr : opRec run P G b ops ds tl n o i (restT n t (o.looksAt ops)) full recs with
    | none => rw [hr] at h; cases h
    | some x =>
      obtain ⟨r, full1⟩ := x
      rw [hr] at h
      simp only at h
      have hd1 : ops.toList.drop (i + 1) = os := by
        have := congrArg (List.drop 1) hd
        simpa [List.drop_drop, Nat.add_comm] using this
      obtain ⟨a1, a2, tt, FF, b1, b2, b3, b4, b5⟩ := ih (i + 1) _ full1 (recs ++ [r]) tN FN recsN h (by simp [hl]) hd1
      have htake : recsN.take i = recs := by
        have := congrArg (List.take i) a2
        rw [List.take_take] at this
        simpa [Nat.min_eq_left (Nat.le_succ i), hl] using this
      have hri : recsN[i]? = some r := by
        have := congrArg (fun l => l[i]?) a2
        simp only [List.getElem?_take] at this
        simpa [hl] using this
      have hoi : ops.toList[i]? = some o := by
        have := congrArg (fun l => l[0]?) hd
        simpa [List.getElem?_drop] using this
      refine ⟨by rw [a1]; simp; omega, htake, fun j => if j = i then t else tt j, fun j => if j = i then full else FF j, by simp, by simp, ?_, ?_, ⟨fun j h1 h2 => ?_⟩⟩
      · have : ¬ i + (o :: os).length = i := by simp
        simp only [this, if_false]
        rw [← b3]; congr 1; simp; omega
      · have : ¬ i + (o :: os).length = i := by simp
        simp only [this, if_false]
        rw [← b4]; congr 1; simp; omega
      · by_cases e : j = i
        · subst e
          refine ⟨o, r, hoi, hri, ?_, ?_⟩
          · simp only [if_true]
            rw [htake, hr]
            simp [b2]
          · simp [b1]
        · obtain ⟨o', r', c1, c2, c3, c4⟩ := b5.op j (by omega) (by simp at h2 ⊢; omega)
          have e' : ¬ j + 1 = i := by omega
          exact ⟨o', r', c1, c2, by simpa [e, e'] using c3, by simpa [e, e'] using c4⟩

/-- What an operation did, when it was asked for. -/
structure Did (run : Runner) (P : Program) (G : Nat) (b : Bar) (ops : Array Oper) (ds : List Nat) (tl n : Nat) (o : Oper) (i : Nat) (t : Trie Value) (F : Heap) (recs : List Rec) (r : Rec) (F' : Heap) (all : Prop) (b' : Bar) (gh h : Heap) : Prop where
  want : wantedT ops o.guard t n = true
  okv : ∀ x ∈ operandsL o.op, okOperand G x = true
  whole : opWhole run P G b' n t o (instAt' P G n ops i) gh = some (r.v, h)
  gsize : gh.size = F.size
  s : r.s = F.size
  e : r.e = h.size
  le : F.size ≤ h.size
  sub : F.small → (∀ q ∈ recs, q.e ≤ F.size) → ∀ x, gh.get x = F.get x ∨ gh.get x = none
  size : F'.size = h.size
  get : F.small → h.small → ∀ x, ((F.size ≤ x ∧ x < h.size) ∨ r.w = some x ∨ all) → F'.get x = h.get x
  stay : F.small → h.small → ∀ x, ¬ ((F.size ≤ x ∧ x < h.size) ∨ r.w = some x ∨ all) → F'.get x = F.get x
  wr : ∀ x, r.w = some x → b.ok x = true ∧ (F.get x).isSome = true
  whenAll : all → b' = b ∧ gh = F ∧ r.w = none
  whenNot : ¬ all → b' = ⟨F.size, r.w⟩
  silent : silentOp o.op = true → r.touch = some [] ∧ r.w = none ∧ h.size = F.size ∧ ¬ all
  part : F.small → (∃ l, r.touch = some l ∧ touchOf (evT n t) o.op = (some l, r.w) ∧ ∀ x, (gh.get x).isSome = true → x ∈ l) ∨ (r.touch = none ∧ tl ≤ i ∧ all) ∨
    (r.touch = none ∧ i < tl ∧ ¬ all ∧ r.w = none ∧ ((∀ q ∈ recs, q.e ≤ F.size) → ∀ x j rj, recs[j]? = some rj → (ds.getD i 0).testBit j = false → rj.s ≤ x → x < rj.e → gh.get x = none))
/-- All that an operation may have done to the heap. -/
def AllAt (tl i : Nat) (r : Rec) : Prop := r.touch = none ∧ tl ≤ i
def RelAt (tl i : Nat) (r : Rec) (x : Nat) : Prop := (r.s ≤ x ∧ x < r.e) ∨ r.w = some x ∨ AllAt tl i r

theorem Heap.size_lt {h : Heap} {x : Nat} (hx : h.size ≤ x) : h.get x = none := by rw [Heap.get_eq, if_neg (by omega)]
theorem grown_get {F h : Heap} (hle : F.size ≤ h.size) (hs : h.small) : (carry h (h.size - F.size) F.size ⟨h.size, F.t⟩).size = h.size ∧ ∀ x, (carry h (h.size - F.size) F.size ⟨h.size, F.t⟩).get x = if F.size ≤ x ∧ x < h.size then h.get x else F.get x := by
  obtain ⟨e1, e2⟩ := carry_spec h (h.size - F.size) F.size ⟨h.size, F.t⟩ hs (by show F.size + _ ≤ h.size; omega)
  refine ⟨e1, fun x => ?_⟩
  rw [e2]
  have : F.size + (h.size - F.size) = h.size := by omega
  rw [this]
  by_cases h1 : F.size ≤ x ∧ x < h.size
  · rw [if_pos h1, if_pos h1]
  · rw [if_neg h1, if_neg h1, Heap.get_eq, Heap.get_eq]
    by_cases h2 : x < F.size
    · rw [if_pos h2, if_pos (show x < h.size by omega)]
    · rw [if_neg h2, if_neg (show ¬ x < h.size by omega)]
end
end Go.Proofs.YtdnccdobnhbpeaaDoor.Ev

namespace Go.Proofs.YtdnccdobnhbpeaaDoor.Ev
open Go
set_option linter.unusedVariables false
set_option linter.unusedSimpArgs false
section
variable {P : Program} {b : Bar} {π : Pl} {G n : Nat} {t : Trie Value} {tmps : Array Value} {H H' : Heap} {w : World} {v : Value} {run : Runner}

theorem silent_touch {ev : Operand → Value} {op : Op} (h : silentOp op = true) : touchOf ev op = (some [], none) := by
  unfold touchOf
  rw [h]
  rfl
theorem carry_size (f : Heap) : ∀ (m a : Nat) (h : Heap), (carry f m a h).size = h.size := by
  intro m
  induction m with
  | zero => intro a h; rfl
  | succ m ih => intro a h; show (carry f m (a + 1) (h.set a (f.get a))).size = _; rw [ih, Heap.set_size]
theorem strike_size : ∀ (m a : Nat) (h : Heap), (strike m a h).size = h.size := by
  intro m
  induction m with
  | zero => intro a h; rfl
  | succ m ih => intro a h; show (strike m (a + 1) (h.set a none)).size = _; rw [ih, Heap.set_size]
theorem behind_size (d : Nat) : ∀ (rs : List Rec) (i : Nat) (h : Heap), (behind d i rs h).size = h.size := by
  intro rs
  induction rs with
  | nil => intro i h; rfl
  | cons r rs ih =>
    intro i h
    show (behind d (i + 1) rs (bif d.testBit i then h else strike (r.e - r.s) r.s h)).size = _
    rw [ih]
    cases d.testBit i with
    | true => rfl
    | false => exact strike_size _ _ _
theorem opRec_spec {ops : Array Oper} {ds : List Nat} {tl i : Nat} {o : Oper} {F F' : Heap} {recs : List Rec} {r : Rec} (h : opRec run P G b ops ds tl n o i t F recs = some (r, F')) :
    (wantedT ops o.guard t n = false ∧ r = ⟨undef, F.size, F.size, some [], none⟩ ∧ F' = F) ∨
    ∃ b' gh hh, Did run P G b ops ds tl n o i t F recs r F' (AllAt tl i r) b' gh hh := by
  unfold opRec at h
  cases hw : wantedT ops o.guard t n with
  | false =>
    rw [hw] at h
    cases h
    exact .inl ⟨rfl, rfl, rfl⟩
  | true =>
    rw [hw] at h
    simp only [cond_true] at h
    cases hok : (operandsL o.op).all (okOperand G) with
    | false => rw [hok] at h; cases h
    | true =>
    rw [hok] at h
    simp only [cond_true] at h
    have hokv : ∀ x ∈ operandsL o.op, okOperand G x = true := List.all_eq_true.1 hok
    cases htc : touchOf (evT n t) o.op with
    | mk tc w =>
    rw [htc] at h
    simp only at h
    right
    cases tc with
    | some l =>
      simp only [recTouch] at h
      cases hwo : wOk b F w with
      | false => rw [hwo] at h; cases h
      | true =>
      rw [hwo] at h
      simp only [cond_true] at h
      cases ho : opWhole run P G ⟨F.size, w⟩ n t o (instAt' P G n ops i) (only F l) with
      | none => rw [ho] at h; cases h
      | some x =>
      obtain ⟨v, hh⟩ := x
      rw [ho] at h
      simp only at h
      cases hb : (Nat.ble F.size hh.size && (!silentOp o.op || Nat.ble hh.size F.size)) with
      | false => rw [hb] at h; cases h
      | true =>
      rw [hb] at h
      cases h
      simp only [Bool.and_eq_true, Bool.or_eq_true, Bool.not_eq_true'] at hb
      obtain ⟨hle, hsil⟩ := hb
      have hle := le_of_ble hle
      have hnall : ¬ AllAt tl i ⟨v, F.size, hh.size, some l, w⟩ := fun h => by have := h.1; cases this
      have hwr : ∀ x, w = some x → b.ok x = true ∧ (F.get x).isSome = true := by
        intro x hx
        subst hx
        simpa [wOk] using hwo
      refine ⟨⟨F.size, w⟩, only F l, hh, hw, hokv, ho, ?_, rfl, rfl, hle, fun hs _ x => ?_, ?_, fun hs hhs x hx => ?_, fun hs hhs x hx => ?_, hwr, fun ha => (hnall ha).elim, fun _ => rfl, fun hsl => ?_, fun hs => .inl ⟨l, rfl, htc, fun x hx => ?_⟩⟩
      · clear hsil hw htc ho hwo hwr hnall
        induction l with
        | nil => rfl
        | cons a l ih =>
          show (bif Nat.ble (Nat.succ a) F.size then (only F l).set a (F.get a) else only F l).size = _
          cases Nat.ble (Nat.succ a) F.size with
          | true => simp only [cond_true]; rw [Heap.set_size, ih]
          | false => exact ih
      · rw [(only_spec F hs l).2 x]
        split
        · exact .inl rfl
        · exact .inr rfl
      · cases w with
        | none => show (carry hh (hh.size - F.size) F.size ⟨hh.size, F.t⟩).size = hh.size; exact carry_size _ _ _ _
        | some y => show ((carry hh (hh.size - F.size) F.size ⟨hh.size, F.t⟩).set y (hh.get y)).size = hh.size; rw [Heap.set_size]; exact carry_size _ _ _ _
      · obtain ⟨g1, g2⟩ := grown_get hle hhs
        cases w with
        | none =>
          show (carry hh (hh.size - F.size) F.size ⟨hh.size, F.t⟩).get x = _
          rw [g2]
          rcases hx with hx | hx | hx
          · rw [if_pos hx]
          · cases hx
          · exact (hnall hx).elim
        | some y =>
          have hy := Heap.get_lt (Option.isSome_iff_exists.1 (hwr y rfl).2).choose_spec
          show ((carry hh (hh.size - F.size) F.size ⟨hh.size, F.t⟩).set y (hh.get y)).get x = _
          rw [Heap.get_set (by unfold Heap.small; rw [g1]; exact hhs) (by rw [g1]; omega), g2]
          rcases hx with hx | hx | hx
          · by_cases e : x = y
            · subst e; rw [if_pos rfl]
            · rw [if_neg e, if_pos hx]
          · cases hx; rw [if_pos rfl]
          · exact (hnall hx).elim
      · obtain ⟨g1, g2⟩ := grown_get hle hhs
        simp only [not_or] at hx
        cases w with
        | none =>
          show (carry hh (hh.size - F.size) F.size ⟨hh.size, F.t⟩).get x = _
          rw [g2, if_neg hx.1]
        | some y =>
          have hy := Heap.get_lt (Option.isSome_iff_exists.1 (hwr y rfl).2).choose_spec
          show ((carry hh (hh.size - F.size) F.size ⟨hh.size, F.t⟩).set y (hh.get y)).get x = _
          have hne : ¬ x = y := fun e => hx.2.1 (by rw [e])
          rw [Heap.get_set (by unfold Heap.small; rw [g1]; exact hhs) (by rw [g1]; omega), if_neg hne, g2, if_neg hx.1]
      · have := silent_touch (ev := evT n t) hsl
        rw [this] at htc
        cases htc
        rcases hsil with hsil | hsil
        · rw [hsl] at hsil; cases hsil
        · exact ⟨rfl, rfl, Nat.le_antisymm (le_of_ble hsil) hle, hnall⟩
      · rw [(only_spec F hs l).2 x] at hx
        split at hx
        · assumption
        · cases hx
    | none =>
      have hns : silentOp o.op = true → False := fun hsl => by
        have := silent_touch (ev := evT n t) hsl
        rw [this] at htc
        cases htc
      simp only at h
      cases hbl : Nat.ble tl i with
      | true =>
        rw [hbl] at h
        simp only [cond_true, recTail] at h
        cases ho : opWhole run P G b n t o (instAt' P G n ops i) F with
        | none => rw [ho] at h; cases h
        | some x =>
        obtain ⟨v, hh⟩ := x
        rw [ho] at h
        simp only at h
        cases hb : Nat.ble F.size hh.size with
        | false => rw [hb] at h; cases h
        | true =>
        rw [hb] at h
        cases h
        have hall : AllAt tl i ⟨v, F.size, F'.size, none, none⟩ := ⟨rfl, le_of_ble hbl⟩
        exact ⟨b, F, F', hw, hokv, ho, rfl, rfl, rfl, le_of_ble hb, fun _ _ x => .inl rfl, rfl, fun _ _ x _ => rfl, fun _ _ x hx => (hx (.inr (.inr hall))).elim, fun x hx => (by cases hx), fun _ => ⟨rfl, rfl, rfl⟩, fun ha => (ha hall).elim, fun hsl => (hns hsl).elim, fun _ => .inr (.inl ⟨rfl, le_of_ble hbl, hall⟩)⟩
      | false =>
        rw [hbl] at h
        simp only [cond_false, recBehind] at h
        cases ho : opWhole run P G ⟨F.size, none⟩ n t o (instAt' P G n ops i) (behind (ds.getD i 0) 0 recs F) with
        | none => rw [ho] at h; cases h
        | some x =>
        obtain ⟨v, hh⟩ := x
        rw [ho] at h
        simp only at h
        cases hb : Nat.ble F.size hh.size with
        | false => rw [hb] at h; cases h
        | true =>
        rw [hb] at h
        cases h
        have hlt : i < tl := by
          have := hbl
          rcases Nat.lt_or_ge i tl with h1 | h1
          · exact h1
          · rw [ble_true h1] at this; cases this
        have hnall : ¬ AllAt tl i ⟨v, F.size, hh.size, none, none⟩ := fun h => by have := h.2; omega
        have hle := le_of_ble hb
        refine ⟨⟨F.size, none⟩, behind (ds.getD i 0) 0 recs F, hh, hw, hokv, ho, behind_size _ _ _ _, rfl, rfl, hle, fun hs hq x => ((behind_spec (ds.getD i 0) recs 0 F hs hq).2 x).1, carry_size _ _ _ _, fun hs hhs x hx => ?_, fun hs hhs x hx => ?_, fun x hx => (by cases hx), fun ha => (hnall ha).elim, fun _ => rfl, fun hsl => (hns hsl).elim, fun hs => .inr (.inr ⟨rfl, hlt, hnall, rfl, fun hq x j rj hj hd h1 h2 => ?_⟩)⟩
        · rw [(grown_get hle hhs).2]
          rcases hx with hx | hx | hx
          · rw [if_pos hx]
          · cases hx
          · exact (hnall hx).elim
        · simp only [not_or] at hx
          rw [(grown_get hle hhs).2, if_neg hx.1]
        · exact ((behind_spec (ds.getD i 0) recs 0 F hs hq).2 x).2 j rj hj (by simpa using hd) h1 h2
end
end Go.Proofs.YtdnccdobnhbpeaaDoor.Ev

namespace Go.Proofs.YtdnccdobnhbpeaaDoor.Ev
open Go
set_option linter.unusedVariables false
set_option linter.unusedSimpArgs false

/-! ## What the text of a region says -/
def Dep (ds : List Nat) (i j : Nat) : Prop := (ds.getD i 0).testBit j = true
theorem edgesOk_spec {i : Nat} : ∀ {l : List Edge}, edgesOk i l = true → ∀ e ∈ l, Region.binds .any e = true → e.on < i := by
  intro l
  induction l with
  | nil => intro _ e he; simp at he
  | cons a l ih =>
    intro h e he hb
    simp only [edgesOk, Bool.and_eq_true, Bool.or_eq_true, Bool.not_eq_true'] at h
    rcases List.mem_cons.1 he with rfl | he
    · rcases h.1 with h1 | h1
      · rw [hb] at h1; cases h1
      · exact le_of_ble h1
    · exact ih h.2 e he hb
theorem closeOf_spec {ds : List Nat} {j : Nat} : ∀ {l : List Edge}, (closeOf ds l).testBit j = true → ∃ e ∈ l, Region.binds .any e = true ∧ (j = e.on ∨ Dep ds e.on j) := by
  intro l
  induction l with
  | nil => intro h; simp [closeOf] at h
  | cons a l ih =>
    intro h
    simp only [closeOf] at h
    cases hb : Region.binds .any a with
    | false =>
      rw [hb] at h
      obtain ⟨e, he, h1⟩ := ih h
      exact ⟨e, by simp [he], h1⟩
    | true =>
      rw [hb] at h
      simp only [cond_true] at h
      have h' : ((2 ^ a.on ||| ds.getD a.on 0) ||| closeOf ds l).testBit j = true := h
      rw [Nat.testBit_or, Nat.testBit_or, Nat.testBit_two_pow] at h'
      simp only [Bool.or_eq_true, decide_eq_true_eq] at h'
      rcases h' with (h1 | h1) | h1
      · exact ⟨a, by simp, hb, .inl h1.symm⟩
      · exact ⟨a, by simp, hb, .inr h1⟩
      · obtain ⟨e, he, h2⟩ := ih h1
        exact ⟨e, by simp [he], h2⟩
structure Text (ops : Array Oper) (ds : List Nat) : Prop where
  edge : ∀ (i : Nat) (o : Oper), ops.toList[i]? = some o → ∀ e ∈ o.after.toList, Region.binds .any e = true → e.on < i
  lt : ∀ (i j : Nat), i < ops.toList.length → Dep ds i j → j < i
  close : ∀ (i j : Nat) (o : Oper), ops.toList[i]? = some o → Dep ds i j → ∃ e ∈ o.after.toList, Region.binds .any e = true ∧ (j = e.on ∨ Dep ds e.on j)
  dst : ∀ (i j : Nat) (oi oj : Oper) (d : Tmp), ops.toList[i]? = some oi → ops.toList[j]? = some oj → i ≠ j → oj.dst = some d → oi.dst ≠ some d ∧ (Dep ds i j ∨ Dep ds j i ∨ d ∉ oi.looksAt ops)
theorem lt_of_get {α : Type} {l : List α} {i : Nat} {a : α} (h : l[i]? = some a) : i < l.length := by
  rcases Nat.lt_or_ge i l.length with h1 | h1
  · exact h1
  · rw [List.getElem?_eq_none h1] at h; cases h
theorem regionOk_spec {ops : Array Oper} {ds : List Nat} (h : regionOk ops ds = true) : Text ops ds := by
  unfold regionOk at h
  rw [List.all_eq_true] at h
  have main : ∀ (i : Nat) (o : Oper), ops.toList[i]? = some o → edgesOk i o.after.toList = true ∧ ds.getD i 0 = closeOf ds o.after.toList ∧ ds.getD i 0 < 2 ^ i ∧
      ∀ (j : Nat) (oj : Oper) (t : Tmp), ops.toList[j]? = some oj → oj.dst = some t → j ≠ i → o.dst ≠ some t ∧ (Dep ds i j ∨ Dep ds j i ∨ t ∉ o.looksAt ops) := by
    intro i o ho
    have hi := h i (List.mem_range.2 (lt_of_get ho))
    rw [ho] at hi
    simp only [Bool.and_eq_true] at hi
    obtain ⟨⟨⟨h1, h2⟩, h3⟩, h4⟩ := hi
    refine ⟨h1, eq_of_beq h2, le_of_ble h3, fun j oj t hj ht hne => ?_⟩
    rw [List.all_eq_true] at h4
    have := h4 j (List.mem_range.2 (lt_of_get hj))
    rw [hj] at this
    simp only [Option.bind_some, ht, Bool.or_eq_true, Bool.and_eq_true, Bool.not_eq_true'] at this
    rcases this with this | ⟨h5, h6⟩
    · exact (hne (eq_of_beq this)).elim
    · refine ⟨fun e => ?_, ?_⟩
      · rw [e] at h5
        simp only [Bool.not_eq_true'] at h5
        have : Nat.beq t t = true := Nat.beq_refl t
        rw [this] at h5; cases h5
      · rcases h6 with (h6 | h6) | h6
        · exact .inl h6
        · exact .inr (.inl h6)
        · refine .inr (.inr fun hm => ?_)
          rw [List.contains_iff_mem.2 hm] at h6; cases h6
  refine ⟨fun i o ho e he hb => edgesOk_spec (main i o ho).1 e he hb, fun i j hi hd => ?_, fun i j o ho hd => ?_, fun i j oi oj d hi hj hne hd => (main i oi hi).2.2.2 j oj d hj hd (Ne.symm hne)⟩
  · have ho : ops.toList[i]? = some (ops.toList[i]) := List.getElem?_eq_getElem hi
    have h3 := (main i _ ho).2.2.1
    rcases Nat.lt_or_ge j i with h4 | h4
    · exact h4
    · have : (ds.getD i 0).testBit j = false := Nat.testBit_lt_two_pow (Nat.lt_of_lt_of_le h3 (Nat.pow_le_pow_right (by omega) h4))
      unfold Dep at hd
      rw [this] at hd; cases hd
  · unfold Dep at hd
    rw [(main i o ho).2.1] at hd
    exact closeOf_spec hd

theorem covers_spec {ops : List Oper} {d : Nat} : ∀ {n : Nat}, covers ops d n = true → ∀ j, j < n → noisy ops j = true → d.testBit j = true := by
  intro n
  induction n with
  | zero => intro _ j hj; omega
  | succ n ih =>
    intro h j hj hn
    simp only [covers, Bool.and_eq_true, Bool.or_eq_true, Bool.not_eq_true'] at h
    by_cases e : j = n
    · subst e
      rcases h.1 with h1 | h1
      · rw [hn] at h1; cases h1
      · exact h1
    · exact ih h.2 j (by omega) hn
theorem tailFrom_spec {ops : List Oper} {ds : List Nat} : ∀ {n : Nat} (i : Nat), tailFrom ops ds n ≤ i → i < n → noisy ops i = true → ∀ j, j < i → noisy ops j = true → Dep ds i j := by
  intro n
  induction n with
  | zero => intro i _ h; omega
  | succ n ih =>
    intro i h1 h2 hn j hj hnj
    simp only [tailFrom] at h1
    split at h1
    · rename_i hc
      by_cases e : i = n
      · subst e
        simp only [Bool.or_eq_true, Bool.not_eq_true'] at hc
        rcases hc with hc | hc
        · rw [hn] at hc; cases hc
        · exact covers_spec hc j hj hnj
      · exact ih i h1 (by omega) hn j hj hnj
    · omega
theorem apart_spec {ds : List Nat} {recs : List Rec} (h : apartRecs ds recs = true) {i j : Nat} {ri rj : Rec} {x : Nat} (hi : recs[i]? = some ri) (hj : recs[j]? = some rj) (hne : i ≠ j) (h1 : ¬ Dep ds i j) (h2 : ¬ Dep ds j i) (hw : rj.w = some x) : ∃ l, ri.touch = some l ∧ x ∉ l := by
  unfold apartRecs at h
  simp only [Bool.or_eq_true] at h
  rcases h with h | h
  · rw [List.all_eq_true] at h
    have := h rj (List.mem_of_getElem? hj)
    rw [hw] at this; cases this
  · rw [List.all_eq_true] at h
    have := h i (List.mem_range.2 (lt_of_get hi))
    rw [List.all_eq_true] at this
    have := this j (List.mem_range.2 (lt_of_get hj))
    rw [hi, hj] at this
    simp only [Bool.or_eq_true, hw] at this
    rcases this with ((h3 | h3) | h3) | h3
    · exact (hne (eq_of_beq h3)).elim
    · exact (h1 h3).elim
    · exact (h2 h3).elim
    · cases hl : ri.touch with
      | none => rw [hl] at h3; cases h3
      | some l =>
        rw [hl] at h3
        refine ⟨l, rfl, fun hm => ?_⟩
        simp only [Bool.not_eq_true'] at h3
        rw [List.contains_iff_mem.2 hm] at h3; cases h3
section
variable {P : Program} {b : Bar} {π : Pl} {G n : Nat} {t : Trie Value} {tmps : Array Value} {H H' : Heap} {w : World} {v : Value} {run : Runner}
theorem blockOf_placed {v v' : Value} (h : VR π v v') : ∀ x ∈ blockOf v, π x ≠ none := by
  intro x hx
  cases h <;> simp [blockOf] at hx
  all_goals (subst hx; rename_i hb; rw [hb]; simp)
theorem head_mem {l : List Nat} {x : Nat} (h : l.head? = some x) : x ∈ l := by
  cases l with
  | nil => cases h
  | cons a l => simp at h; subst h; simp
theorem touch_placed {ev ev' : Operand → Value} {op : Op} (hv : ∀ x ∈ operandsL op, VR π (ev x) (ev' x)) {l : List Nat} {wr : Option Nat} (h : touchOf ev op = (some l, wr)) : (∀ x ∈ l, π x ≠ none) ∧ ∀ x, wr = some x → x ∈ l := by
  unfold touchOf at h
  cases hs : silentOp op with
  | true => rw [hs] at h; cases h; exact ⟨by simp, by simp⟩
  | false =>
    rw [hs] at h
    simp only [cond_false] at h
    split at h
    all_goals first
      | (cases h; done)
      | (cases h; refine ⟨fun x hx => blockOf_placed (hv _ (by simp [operandsL])) x hx, fun x hx => ?_⟩; first | exact head_mem hx | cases hx)
      | (cases h; refine ⟨fun x hx => ?_, fun x hx => ?_⟩ <;> cases hx)
      | skip
    all_goals (split at h <;> first
      | (cases h; done)
      | skip)
    all_goals (rename_i heq; cases h)
    · refine ⟨fun x hx => ?_, fun x hx => List.mem_append_left _ (head_mem hx)⟩
      rcases List.mem_append.1 hx with hx | hx
      · exact blockOf_placed (hv _ (by simp [operandsL, heq])) x hx
      · exact blockOf_placed (hv _ (by simp [operandsL, heq])) x hx
    · refine ⟨fun x hx => ?_, fun x hx => List.mem_append_left _ (head_mem hx)⟩
      rcases List.mem_append.1 hx with hx | hx
      · exact blockOf_placed (hv _ (by simp [operandsL, heq])) x hx
      · exact blockOf_placed (hv _ (by simp [operandsL, heq])) x hx
    · refine ⟨fun x hx => blockOf_placed (hv _ (by simp [operandsL, heq])) x hx, fun x hx => by cases hx⟩
end
end Go.Proofs.YtdnccdobnhbpeaaDoor.Ev

namespace Go.Proofs.YtdnccdobnhbpeaaDoor.Ev
open Go
set_option linter.unusedVariables false
set_option linter.unusedSimpArgs false
open Classical

def Pl.cut (π : Pl) (c : Nat) : Pl := fun x => if x < c then π x else none
theorem Pl.cut_some {π : Pl} {c x : Nat} {y : Nat × Nat} (h : π.cut c x = some y) : x < c ∧ π x = some y := by
  unfold Pl.cut at h
  split at h
  · exact ⟨by assumption, h⟩
  · cases h
theorem Pl.cut_eq {π : Pl} {c x : Nat} (h : x < c) : π.cut c x = π x := by unfold Pl.cut; rw [if_pos h]
theorem Pl.cut_le {π : Pl} {c c' : Nat} (h : c ≤ c') : (π.cut c).le (π.cut c') := fun x y hx => by
  obtain ⟨h1, h2⟩ := Pl.cut_some hx
  rw [Pl.cut_eq (by omega)]; exact h2
theorem Pl.cut_le' {π : Pl} {c : Nat} : (π.cut c).le π := fun x y hx => (Pl.cut_some hx).2
theorem Pl.le_cut {π π' : Pl} {c : Nat} (h : π.le π') : (π.cut c).le (π'.cut c) := fun x y hx => by
  obtain ⟨h1, h2⟩ := Pl.cut_some hx
  rw [Pl.cut_eq h1]; exact h _ _ h2

section
variable {run : Runner} {P : Program} {G : Nat} {b : Bar} {ops : Array Oper} {ds : List Nat} {tl n : Nat} {tt : Nat → Trie Value} {FF : Nat → Heap} {recs : List Rec}

structure Ctx (run : Runner) (P : Program) (G : Nat) (b : Bar) (ops : Array Oper) (ds : List Nat) (tl n : Nat) (tt : Nat → Trie Value) (FF : Nat → Heap) (recs : List Rec) : Prop where
  ran : Ran run P G b ops ds tl n tt FF recs 0 ops.toList.length
  text : Text ops ds
  tail : tl = tailFrom ops.toList ds ops.toList.length
  apart : apartRecs ds recs = true
  len : recs.length = ops.toList.length
  small : (FF ops.toList.length).small
  nsmall : n < 2 ^ 24 - 1

/-- What is known of one operation. -/
structure At (run : Runner) (P : Program) (G : Nat) (b : Bar) (ops : Array Oper) (ds : List Nat) (tl n : Nat) (tt : Nat → Trie Value) (FF : Nat → Heap) (recs : List Rec) (j : Nat) (o : Oper) (r : Rec) : Prop where
  oper : ops.toList[j]? = some o
  rec_ : recs[j]? = some r
  s : r.s = (FF j).size
  e : r.e = (FF (j + 1)).size
  le : (FF j).size ≤ (FF (j + 1)).size
  temps : tt (j + 1) = tsetO n (tt j) o.dst r.v
  did : (wantedT ops o.guard (restT n (tt j) (o.looksAt ops)) n = false ∧ r = ⟨undef, (FF j).size, (FF j).size, some [], none⟩ ∧ FF (j + 1) = FF j) ∨
    ∃ b' gh hh, Did run P G b ops ds tl n o j (restT n (tt j) (o.looksAt ops)) (FF j) (recs.take j) r (FF (j + 1)) (AllAt tl j r) b' gh hh
theorem Ctx.at (c : Ctx run P G b ops ds tl n tt FF recs) {j : Nat} (hj : j < ops.toList.length) : ∃ o r, At run P G b ops ds tl n tt FF recs j o r := by
  obtain ⟨o, r, h1, h2, h3, h4⟩ := c.ran.op j (by omega) hj
  refine ⟨o, r, ?_⟩
  rcases opRec_spec h3 with ⟨a1, a2, a3⟩ | ⟨b', gh, hh, hd⟩
  · exact ⟨h1, h2, by rw [a2], by rw [a2, a3], by rw [a3]; exact Nat.le_refl _, h4, .inl ⟨a1, a2, a3⟩⟩
  · exact ⟨h1, h2, hd.s, by rw [hd.e, hd.size], by rw [hd.size]; exact hd.le, h4, .inr ⟨b', gh, hh, hd⟩⟩
theorem Ctx.mono (c : Ctx run P G b ops ds tl n tt FF recs) {i j : Nat} (hij : i ≤ j) (hj : j ≤ ops.toList.length) : (FF i).size ≤ (FF j).size := by
  induction j with
  | zero => have : i = 0 := by omega
            subst this; exact Nat.le_refl _
  | succ j ih =>
    by_cases e : i = j + 1
    · subst e; exact Nat.le_refl _
    · obtain ⟨o, r, h⟩ := c.at (show j < ops.toList.length by omega)
      exact Nat.le_trans (ih (by omega) (by omega)) h.le
theorem Ctx.smallAt (c : Ctx run P G b ops ds tl n tt FF recs) {j : Nat} (hj : j ≤ ops.toList.length) : (FF j).small := Nat.le_trans (c.mono hj (Nat.le_refl _)) c.small
/-- What an operation has to do with a number. -/
def Rel (tl : Nat) (recs : List Rec) (j x : Nat) : Prop := ∃ r, recs[j]? = some r ∧ RelAt tl j r x
theorem At.rel {j : Nat} {o : Oper} {r : Rec} (h : At run P G b ops ds tl n tt FF recs j o r) {x : Nat} : Rel tl recs j x ↔ RelAt tl j r x :=
  ⟨fun ⟨r', h1, h2⟩ => by rw [h.rec_] at h1; cases h1; exact h2, fun h2 => ⟨r, h.rec_, h2⟩⟩
theorem Ctx.stay (c : Ctx run P G b ops ds tl n tt FF recs) {j x : Nat} (hj : j < ops.toList.length) (hr : ¬ Rel tl recs j x) : (FF (j + 1)).get x = (FF j).get x := by
  obtain ⟨o, r, h⟩ := c.at hj
  rw [h.rel] at hr
  rcases h.did with ⟨_, _, a3⟩ | ⟨b', gh, hh, hd⟩
  · rw [a3]
  · refine hd.stay (c.smallAt (by omega)) ?_ x ?_
    · have := c.smallAt (j := j + 1) (by omega)
      unfold Heap.small at this ⊢
      rw [hd.size] at this; exact this
    · intro hx
      apply hr
      rcases hx with hx | hx | hx
      · exact .inl (by rw [hd.s, hd.e]; exact hx)
      · exact .inr (.inl hx)
      · exact .inr (.inr hx)
theorem At.silent {j : Nat} {o : Oper} {r : Rec} (h : At run P G b ops ds tl n tt FF recs j o r) (hn : noisy ops.toList j = false) : r.touch = some [] ∧ r.w = none ∧ (FF (j + 1)).size = (FF j).size ∧ ¬ AllAt tl j r := by
  rcases h.did with ⟨_, a2, a3⟩ | ⟨b', gh, hh, hd⟩
  · rw [a2, a3]; exact ⟨rfl, rfl, rfl, fun h => by have := h.1; cases this⟩
  · have : silentOp o.op = true := by
      unfold noisy at hn
      rw [h.oper] at hn
      simpa using hn
    obtain ⟨a, b, c, d⟩ := hd.silent this
    exact ⟨a, b, by rw [hd.size]; exact c, d⟩

/-- The heap when these operations have been done. -/
noncomputable def gAt (FF : Nat → Heap) (tl : Nat) (recs : List Rec) (D : Nat → Bool) : Nat → Nat → Option Obj
  | 0, x => (FF 0).get x
  | j + 1, x => if D j = true ∧ Rel tl recs j x then (FF (j + 1)).get x else gAt FF tl recs D j x
theorem Ctx.same (c : Ctx run P G b ops ds tl n tt FF recs) {D : Nat → Bool} {m x : Nat} (hm : m ≤ ops.toList.length) (h : ∀ j, j < ops.toList.length → Rel tl recs j x → (D j = true ↔ j < m)) :
    gAt FF tl recs D ops.toList.length x = (FF m).get x := by
  have main : ∀ j, j ≤ ops.toList.length → gAt FF tl recs D j x = (FF (min j m)).get x := by
    intro j
    induction j with
    | zero => intro _; simp [gAt]
    | succ j ih =>
      intro hj
      simp only [gAt]
      rw [ih (by omega)]
      by_cases hr : Rel tl recs j x
      · have := h j (by omega) hr
        by_cases hd : D j = true
        · rw [if_pos ⟨hd, hr⟩]
          have := this.1 hd
          rw [show min (j + 1) m = j + 1 from by omega]
        · rw [if_neg (fun h => hd h.1)]
          have : ¬ j < m := fun h2 => hd (this.2 h2)
          rw [show min (j + 1) m = min j m from by omega]
      · rw [if_neg (fun h => hr h.2)]
        by_cases hjm : j < m
        · rw [show min j m = j from by omega, show min (j + 1) m = j + 1 from by omega]
          exact (c.stay (by omega) hr).symm
        · rw [show min (j + 1) m = min j m from by omega]
  rw [main _ (Nat.le_refl _), show min ops.toList.length m = m from by omega]
theorem gAt_other {D : Nat → Bool} {i x : Nat} (hi : D i = false) (hr : ¬ Rel tl recs i x) : ∀ N, gAt FF tl recs (fun j => if j = i then true else D j) N x = gAt FF tl recs D N x := by
  intro N
  induction N with
  | zero => rfl
  | succ j ih =>
    simp only [gAt]
    rw [ih]
    by_cases e : j = i
    · subst e
      rw [if_neg (fun h => hr h.2), if_neg (fun h => hr h.2)]
    · simp [e]
theorem gAt_self {D : Nat → Bool} {i x N : Nat} (hr : Rel tl recs i x) (hN : i < N) (h : ∀ j, i < j → j < N → D j = true → ¬ Rel tl recs j x) : gAt FF tl recs (fun j => if j = i then true else D j) N x = (FF (i + 1)).get x := by
  induction N with
  | zero => omega
  | succ j ih =>
    simp only [gAt]
    by_cases e : j = i
    · subst e
      rw [if_pos ⟨by simp, hr⟩]
    · have : ¬ ((if j = i then true else D j) = true ∧ Rel tl recs j x) := by
        rintro ⟨h1, h2⟩
        rw [if_neg e] at h1
        exact h j (by omega) (by omega) h1 h2
      rw [if_neg this]
      exact ih (by omega) fun q h1 h2 => h q h1 (by omega)

/-- What is live for an operation is what has been done. -/
theorem Ctx.agree (c : Ctx run P G b ops ds tl n tt FF recs) {D : Nat → Bool} {π : Pl} {i x : Nat} {o : Oper} {r : Rec} (h : At run P G b ops ds tl n tt FF recs i o r) (hi : i < ops.toList.length) (hDi : D i = false)
    (hdown : ∀ j, j < ops.toList.length → D j = true → ∀ k, Dep ds j k → D k = true) (hdeps : ∀ j, Dep ds i j → D j = true)
    (hx : x < (FF 0).size ∨ ∃ j, j < ops.toList.length ∧ D j = true ∧ j < i ∧ (FF j).size ≤ x ∧ x < (FF (j + 1)).size) (hno : noisy ops.toList i = true)
    (ht : ∀ l, r.touch = some l → x ∈ l) : ∀ j, j < ops.toList.length → Rel tl recs j x → (D j = true ↔ j < i) := by
  intro j hj hr
  obtain ⟨oj, rj, hat⟩ := c.at hj
  rw [hat.rel] at hr
  have comp : Dep ds i j ∨ Dep ds j i → (D j = true ↔ j < i) := by
    rintro (hd | hd)
    · exact ⟨fun _ => c.text.lt i j hi hd, fun _ => hdeps j hd⟩
    · have := c.text.lt j i hj hd
      refine ⟨fun hDj => ?_, fun h => by omega⟩
      have := hdown j hj hDj i hd
      rw [hDi] at this; cases this
  by_cases e : j = i
  · subst e
    refine ⟨fun h => ?_, fun h => by omega⟩
    rw [hDi] at h; cases h
  by_cases hc : Dep ds i j ∨ Dep ds j i
  · exact comp hc
  simp only [not_or] at hc
  rcases hr with hr | hr | hr
  · -- the one that made it
    rw [hat.s, hat.e] at hr
    rcases hx with hx | ⟨q, hq, hDq, hqi, h1, h2⟩
    · have := c.mono (i := 0) (j := j) (by omega) (by omega)
      omega
    · have : j = q := by
        rcases Nat.lt_trichotomy j q with h3 | h3 | h3
        · have := c.mono (i := j + 1) (j := q) (by omega) (by omega); omega
        · exact h3
        · have := c.mono (i := q + 1) (j := j) (by omega) (by omega); omega
      subst this
      exact ⟨fun _ => hqi, fun _ => hDq⟩
  · obtain ⟨l, hl, hm⟩ := apart_spec c.apart h.rec_ hat.rec_ (Ne.symm e) hc.1 hc.2 hr
    exact (hm (ht l hl)).elim
  · have hnj : noisy ops.toList j = true := by
      cases hn : noisy ops.toList j with
      | true => rfl
      | false => exact ((hat.silent hn).2.2.2 hr).elim
    have htlj := hr.2
    rcases Nat.lt_or_ge j i with h1 | h1
    · exact (hc.1 (tailFrom_spec i (by rw [← c.tail]; omega) hi hno j h1 hnj)).elim
    · exact (hc.2 (tailFrom_spec j (by rw [← c.tail]; omega) hj hnj i (by omega) hno)).elim
end
end Go.Proofs.YtdnccdobnhbpeaaDoor.Ev

namespace Go.Proofs.YtdnccdobnhbpeaaDoor.Ev
open Go
set_option linter.unusedVariables false
set_option linter.unusedSimpArgs false
open Classical
section
variable {run : Runner} {P : Program} {G : Nat} {b : Bar} {ops : Array Oper} {ds : List Nat} {tl n : Nat} {tt : Nat → Trie Value} {FF : Nat → Heap} {recs : List Rec} {π0 : Pl} {w0 : World}

/-- What holds when these operations have been done. -/
structure Inv (b : Bar) (ops : Array Oper) (tl n : Nat) (tt : Nat → Trie Value) (FF : Nat → Heap) (recs : List Rec) (P : Program) (π0 : Pl) (w0 : World) (D : Nat → Bool) (π : Pl) (tmps : Array Value) (w : World) : Prop where
  size : tmps.size = n
  t1 : ∀ j o r d, ops.toList[j]? = some o → recs[j]? = some r → D j = true → o.dst = some d → d < n → VR (π.cut (FF (j + 1)).size) r.v (tmps.getD d undef)
  t2 : ∀ d, d < n → (∀ j o, ops.toList[j]? = some o → D j = true → o.dst ≠ some d) → VR (π.cut (FF 0).size) (tget (tt 0) d) (tmps.getD d undef)
  blk : ∀ x o, gAt FF tl recs D ops.toList.length x = some o → ∃ k m o', π x = some (k, m) ∧ w.heap[k]? = some o' ∧ ∀ c, (FF 0).size ≤ c → (∀ j, j < ops.toList.length → D j = true → Rel tl recs j x → (FF (j + 1)).size ≤ c) → ObjR P (π.cut c) m o o'
  inj : ∀ x y ox oy k m m', gAt FF tl recs D ops.toList.length x = some ox → gAt FF tl recs D ops.toList.length y = some oy → π x = some (k, m) → π y = some (k, m') → x = y
  range : ∀ x k m, π x = some (k, m) → k < w.heap.size
  placed : ∀ x y, π x = some y → x < (FF 0).size ∨ ∃ j, j < ops.toList.length ∧ D j = true ∧ (FF j).size ≤ x ∧ x < (FF (j + 1)).size
  wrote : ∀ j r x, recs[j]? = some r → D j = true → r.w = some x → π x ≠ none
  old : ∀ x, x < (FF 0).size → π x = π0 x
  os : w.os = w0.os
  tape : w.tape = w0.tape
  output : w.output = w0.output
  wsize : w0.heap.size ≤ w.heap.size
  frame : ∀ k, k < w0.heap.size → (∀ x o m, b.ok x = true → (FF 0).get x = some o → π0 x ≠ some (k, m)) → w.heap[k]? = w0.heap[k]?
  live : ∀ x o k m, b.ok x = true → gAt FF tl recs D ops.toList.length x = some o → π x = some (k, m) → w0.heap.size ≤ k ∨ ∃ j oj mj, b.ok j = true ∧ (FF 0).get j = some oj ∧ π0 j = some (k, mj)

theorem Ctx.ttSpec (c : Ctx run P G b ops ds tl n tt FF recs) : ∀ m, m ≤ ops.toList.length → ∀ d, d < n →
    (∃ j o r, j < m ∧ At run P G b ops ds tl n tt FF recs j o r ∧ o.dst = some d ∧ tget (tt m) d = r.v) ∨ ((∀ j o, j < m → ops.toList[j]? = some o → o.dst ≠ some d) ∧ tget (tt m) d = tget (tt 0) d) := by
  intro m
  induction m with
  | zero => intro _ d _; exact .inr ⟨fun j o h => by omega, rfl⟩
  | succ m ih =>
    intro hm d hd
    obtain ⟨o, r, h⟩ := c.at (show m < ops.toList.length by omega)
    have hn := c.nsmall
    rw [h.temps]
    by_cases e : o.dst = some d
    · refine .inl ⟨m, o, r, by omega, h, e, ?_⟩
      rw [e]
      show tget (tset n (tt m) d r.v) d = _
      rw [tset_eq, if_pos hd, tget_put _ _ _ _ (Nat.lt_trans hd hn) (Nat.lt_trans hd hn), if_pos rfl]
    · have same : tget (tsetO n (tt m) o.dst r.v) d = tget (tt m) d := by
        cases ho : o.dst with
        | none => rfl
        | some d' =>
          show tget (tset n (tt m) d' r.v) d = _
          rw [tset_eq]
          by_cases hd' : @LT.lt Nat _ d' n
          · have hne : ¬ d = d' := fun h => e (by rw [ho, h])
            rw [if_pos hd', tget_put _ _ _ _ (Nat.lt_trans hd' hn) (Nat.lt_trans hd hn), if_neg hne]
          · rw [if_neg hd']
      rw [same]
      rcases ih (by omega) d hd with ⟨j, oj, rj, h1, h2, h3, h4⟩ | ⟨h1, h2⟩
      · exact .inl ⟨j, oj, rj, by omega, h2, h3, h4⟩
      · refine .inr ⟨fun j oj hj hoj => ?_, h2⟩
        by_cases e2 : j = m
        · subst e2
          rw [h.oper] at hoj
          cases hoj
          exact e
        · exact h1 j oj (by omega) hoj

/-- The temporaries that an operation looks at. -/
def restA (n : Nat) (l : List Nat) (tmps : Array Value) : Array Value := Array.ofFn fun d : Fin n => if d.1 ∈ l then tmps.getD d.1 undef else undef
theorem restA_get (l : List Nat) (tmps : Array Value) {d : Nat} (hd : d < n) : (restA n l tmps).getD d undef = if d ∈ l then tmps.getD d undef else undef := by
  unfold restA
  simp [Array.getD, hd]
theorem restA_size (l : List Nat) (tmps : Array Value) : (restA n l tmps).size = n := by simp [restA]

theorem Ctx.temps (c : Ctx run P G b ops ds tl n tt FF recs) {D : Nat → Bool} {π : Pl} {tmps : Array Value} {w : World} (I : Inv b ops tl n tt FF recs P π0 w0 D π tmps w) {i : Nat} {o : Oper} {r : Rec} (h : At run P G b ops ds tl n tt FF recs i o r) (hi : i < ops.toList.length) (hDi : D i = false)
    (hdown : ∀ j, j < ops.toList.length → D j = true → ∀ k, Dep ds j k → D k = true) (hdeps : ∀ j, Dep ds i j → D j = true) :
    TR (π.cut (FF i).size) n (restT n (tt i) (o.looksAt ops)) (restA n (o.looksAt ops) tmps) := by
  refine ⟨restA_size _ _, c.nsmall, fun d hd => ?_⟩
  rw [restT_spec _ c.nsmall _ d hd, restA_get _ _ hd]
  by_cases hl : d ∈ o.looksAt ops
  · rw [if_pos hl, if_pos hl]
    rcases c.ttSpec i (by omega) d hd with ⟨j, oj, rj, h1, h2, h3, h4⟩ | ⟨h1, h2⟩
    · have hD : D j = true := by
        rcases (c.text.dst i j o oj d h.oper h2.oper (by omega) h3).2 with h5 | h5 | h5
        · exact hdeps j h5
        · have := c.text.lt j i (lt_of_get h2.oper) h5; omega
        · exact (h5 hl).elim
      rw [h4]
      exact (I.t1 j oj rj d h2.oper h2.rec_ hD h3 hd).mono (Pl.cut_le (c.mono (by omega) (by omega)))
    · rw [h2]
      refine (I.t2 d hd fun j oj hoj hD hdst => ?_).mono (Pl.cut_le (c.mono (by omega) (by omega)))
      have hne : i ≠ j := fun e => by subst e; rw [hDi] at hD; cases hD
      rcases Nat.lt_or_ge j i with hji | hji
      · exact h1 j oj hji hoj hdst
      · have hjN := lt_of_get hoj
        rcases (c.text.dst i j o oj d h.oper hoj hne hdst).2 with h5 | h5 | h5
        · have := c.text.lt i j hi h5; omega
        · have := hdown j hjN hD i h5
          rw [hDi] at this; cases this
        · exact h5 hl
  · rw [if_neg hl, if_neg hl]
    exact .undef
theorem looks_operand {o : Oper} {d : Tmp} (h : Operand.tmp d ∈ o.op.operands) : d ∈ o.looksAt ops :=
  List.mem_append_left _ (List.mem_filterMap.2 ⟨.tmp d, by simpa using h, rfl⟩)
theorem rest_exec {o : Oper} {tmps : Array Value} (hs : tmps.size = n) (hns : ∀ cs bl, o.op ≠ .select cs bl) : execOp (actE tmps) o = execOp (actE (restA n (o.looksAt ops) tmps)) o := by
  refine execOp_congr o hns fun x hx => ?_
  cases x with
  | tmp d =>
    have hd := looks_operand (ops := ops) hx
    show tmps.getD d undef = (restA n (o.looksAt ops) tmps).getD d undef
    by_cases hdn : @LT.lt Nat _ d n
    · rw [restA_get _ _ hdn, if_pos hd]
    · have e1 : ¬ @LT.lt Nat _ d tmps.size := by rw [hs]; exact hdn
      have e2 : ¬ @LT.lt Nat _ d (restA n (o.looksAt ops) tmps).size := by rw [restA_size]; exact hdn
      simp only [Array.getD]
      rw [dif_neg e1, dif_neg e2]
  | _ => rfl
theorem rest_wanted {o : Oper} {tmps : Array Value} (hs : tmps.size = n) : Region.wanted o (yielded ops (restA n (o.looksAt ops) tmps)) = Region.wanted o (yielded ops tmps) := by
  unfold Region.wanted
  cases hg : o.guard with
  | none => rfl
  | some gw =>
    obtain ⟨g, want⟩ := gw
    have : yielded ops (restA n (o.looksAt ops) tmps) g = yielded ops tmps g := by
      unfold yielded
      cases ht : (ops[g]?).bind (·.dst) with
      | none => rfl
      | some d =>
        have hd : d ∈ o.looksAt ops := by
          unfold Oper.looksAt
          refine List.mem_append_right _ ?_
          rw [hg]
          simp [ht]
        simp only [Option.bind_some]
        by_cases hdn : @LT.lt Nat _ d n
        · have h1 := restA_get (n := n) (o.looksAt ops) tmps hdn
          rw [if_pos hd] at h1
          have l1 : @LT.lt Nat _ d (restA n (o.looksAt ops) tmps).size := by rw [restA_size]; exact hdn
          have l2 : @LT.lt Nat _ d tmps.size := by rw [hs]; exact hdn
          simp only [Array.getD] at h1
          rw [dif_pos l1, dif_pos l2] at h1
          rw [Array.getElem?_eq_getElem l1, Array.getElem?_eq_getElem l2]
          have h1' : (restA n (o.looksAt ops) tmps)[d] = tmps[d] := h1
          rw [h1']
        · have l1 : (restA n (o.looksAt ops) tmps)[d]? = none := Array.getElem?_eq_none (by rw [restA_size]; exact Nat.le_of_not_lt hdn)
          have l2 : tmps[d]? = none := Array.getElem?_eq_none (by rw [hs]; exact Nat.le_of_not_lt hdn)
          rw [l1, l2]
    simp only [this]
end
end Go.Proofs.YtdnccdobnhbpeaaDoor.Ev

namespace Go.Proofs.YtdnccdobnhbpeaaDoor.Ev
open Go
set_option linter.unusedVariables false
set_option linter.unusedSimpArgs false
open Classical
section
variable {run : Runner} {P : Program} {G : Nat} {b : Bar} {ops : Array Oper} {ds : List Nat} {tl n : Nat} {tt : Nat → Trie Value} {FF : Nat → Heap} {recs : List Rec} {π0 : Pl} {w0 : World}

theorem Ctx.find (c : Ctx run P G b ops ds tl n tt FF recs) {i x : Nat} (hi : i ≤ ops.toList.length) (hx : x < (FF i).size) : x < (FF 0).size ∨ ∃ j, j < i ∧ (FF j).size ≤ x ∧ x < (FF (j + 1)).size := by
  induction i with
  | zero => exact .inl hx
  | succ i ih =>
    by_cases h : x < (FF i).size
    · rcases ih (by omega) h with h1 | ⟨j, h1, h2⟩
      · exact .inl h1
      · exact .inr ⟨j, by omega, h2⟩
    · exact .inr ⟨i, by omega, by omega, hx⟩
theorem putA_size (tmps : Array Value) (d : Option Tmp) (v : Value) : (putA tmps d v).size = tmps.size := by
  cases d with
  | none => rfl
  | some d => simp [putA]
theorem putA_self {tmps : Array Value} {d : Tmp} {v : Value} (h : d < tmps.size) : (putA tmps (some d) v).getD d undef = v := by
  have h' : @LT.lt Nat _ d tmps.size := h
  simp [putA, h']
theorem putA_other {tmps : Array Value} {o : Option Tmp} {d : Tmp} {v : Value} (h : o ≠ some d) : (putA tmps o v).getD d undef = tmps.getD d undef := by
  cases o with
  | none => rfl
  | some e =>
    have hne : ¬ @Eq Nat e d := fun h' => h (by rw [show e = d from h'])
    simp [putA, Array.getElem?_setIfInBounds_ne hne]

/-- What is live for an operation is there. -/
theorem Ctx.liveGh (c : Ctx run P G b ops ds tl n tt FF recs) {D : Nat → Bool} {π : Pl} {tmps : Array Value} {w : World} (I : Inv b ops tl n tt FF recs P π0 w0 D π tmps w) {i : Nat} {o : Oper} {r : Rec} (h : At run P G b ops ds tl n tt FF recs i o r) (hi : i < ops.toList.length) (hDi : D i = false)
    (hdown : ∀ j, j < ops.toList.length → D j = true → ∀ k, Dep ds j k → D k = true) (hdeps : ∀ j, Dep ds i j → D j = true) (hG : Glob G (π.cut (FF i).size))
    {b' : Bar} {gh hh : Heap} (hd : Did run P G b ops ds tl n o i (restT n (tt i) (o.looksAt ops)) (FF i) (recs.take i) r (FF (i + 1)) (AllAt tl i r) b' gh hh) :
    (∀ x ob, gh.get x = some ob → (FF i).get x = some ob ∧ x < (FF i).size ∧ gAt FF tl recs D ops.toList.length x = some ob ∧ ∀ j, j < ops.toList.length → D j = true → Rel tl recs j x → j < i) ∧
    (∀ x, r.w = some x → π.cut (FF i).size x ≠ none ∧ ∃ l, r.touch = some l ∧ x ∈ l) := by
  have hsm := c.smallAt (j := i) (by omega)
  have hq : ∀ q ∈ recs.take i, q.e ≤ (FF i).size := by
    intro q hq
    obtain ⟨j, hj⟩ := List.getElem?_of_mem hq
    rw [List.getElem?_take] at hj
    split at hj
    · obtain ⟨oj, rj, hat⟩ := c.at (j := j) (by omega)
      rw [hat.rec_] at hj
      cases hj
      rw [hat.e]
      exact c.mono (by omega) (by omega)
    · cases hj
  have hTR := c.temps I h hi hDi hdown hdeps
  have hv : ∀ y ∈ operandsL o.op, VR (π.cut (FF i).size) (evT n (restT n (tt i) (o.looksAt ops)) y) (actE (restA n (o.looksAt ops) tmps) y) := fun y hy => hTR.eval hG (hd.okv y hy)
  have cases_ := hd.part hsm
  refine ⟨fun x ob hx => ?_, fun x hx => ?_⟩
  · have hF : (FF i).get x = some ob := by
      rcases hd.sub hsm hq x with h1 | h1
      · rw [← h1]; exact hx
      · rw [h1] at hx; cases hx
    have hlt := Heap.get_lt hF
    have noisyOf : r.touch ≠ some [] → noisy ops.toList i = true := by
      intro hne
      cases hn : noisy ops.toList i with
      | true => rfl
      | false => exact (hne (h.silent hn).1).elim
    have goal : (noisy ops.toList i = true) ∧ (x < (FF 0).size ∨ ∃ j, j < ops.toList.length ∧ D j = true ∧ j < i ∧ (FF j).size ≤ x ∧ x < (FF (j + 1)).size) ∧ (∀ l, r.touch = some l → x ∈ l) := by
      rcases cases_ with ⟨l, h1, h2, h3⟩ | ⟨h1, h2, h3⟩ | ⟨h1, h2, h3, h4, h5⟩
      · have hxl := h3 x (by rw [hx]; rfl)
        obtain ⟨p1, p2⟩ := touch_placed hv h2
        refine ⟨noisyOf fun e => ?_, ?_, fun l' hl' => by rw [h1] at hl'; cases hl'; exact hxl⟩
        · rw [h1] at e; cases e; cases hxl
        · have hp := p1 x hxl
          rw [Pl.cut_eq hlt] at hp
          obtain ⟨y, hy⟩ := Option.ne_none_iff_exists'.1 hp
          rcases I.placed x y hy with h6 | ⟨j, h6, h7, h8, h9⟩
          · exact .inl h6
          · refine .inr ⟨j, h6, h7, ?_, h8, h9⟩
            rcases Nat.lt_or_ge j i with h10 | h10
            · exact h10
            · have := c.mono (i := i) (j := j) h10 (by omega); omega
      · have hno : noisy ops.toList i = true := noisyOf (by rw [h1]; simp)
        refine ⟨hno, ?_, fun l hl => by rw [h1] at hl; cases hl⟩
        rcases c.find (i := i) (by omega) hlt with h6 | ⟨j, h6, h7, h8⟩
        · exact .inl h6
        · refine .inr ⟨j, by omega, ?_, h6, h7, h8⟩
          obtain ⟨oj, rj, hat⟩ := c.at (j := j) (by omega)
          have hnj : noisy ops.toList j = true := by
            cases hn : noisy ops.toList j with
            | true => rfl
            | false => have := (hat.silent hn).2.2.1; omega
          exact hdeps j (tailFrom_spec i (by rw [← c.tail]; exact h2) hi hno j h6 hnj)
      · have hno : noisy ops.toList i = true := noisyOf (by rw [h1]; simp)
        refine ⟨hno, ?_, fun l hl => by rw [h1] at hl; cases hl⟩
        rcases c.find (i := i) (by omega) hlt with h6 | ⟨j, h6, h7, h8⟩
        · exact .inl h6
        · refine .inr ⟨j, by omega, ?_, h6, h7, h8⟩
          obtain ⟨oj, rj, hat⟩ := c.at (j := j) (by omega)
          by_cases hdp : Dep ds i j
          · exact hdeps j hdp
          · have hf : (ds.getD i 0).testBit j = false := by
              cases hb : (ds.getD i 0).testBit j with
              | true => exact (hdp hb).elim
              | false => rfl
            have : gh.get x = none := h5 hq x j rj (by rw [List.getElem?_take, if_pos h6]; exact hat.rec_) hf (by rw [hat.s]; exact h7) (by rw [hat.e]; exact h8)
            rw [this] at hx; cases hx
    obtain ⟨g1, g2, g3⟩ := goal
    have hag := c.agree h hi hDi (π := π) hdown hdeps g2 g1 g3
    exact ⟨hF, hlt, by rw [c.same (by omega) hag]; exact hF, fun j hj hD hr => (hag j hj hr).1 hD⟩
  · rcases cases_ with ⟨l, h1, h2, h3⟩ | ⟨h1, h2, h3⟩ | ⟨h1, h2, h3, h4, h5⟩
    · obtain ⟨p1, p2⟩ := touch_placed hv h2
      exact ⟨p1 x (p2 x hx), l, h1, p2 x hx⟩
    · rw [(hd.whenAll h3).2.2] at hx; cases hx
    · rw [h4] at hx; cases hx
/-- The small heap that an operation is evaluated in lies in the great world. -/
theorem Ctx.embGh (c : Ctx run P G b ops ds tl n tt FF recs) {D : Nat → Bool} {π : Pl} {tmps : Array Value} {w : World} (I : Inv b ops tl n tt FF recs P π0 w0 D π tmps w) {i : Nat} (hi : i < ops.toList.length) {gh : Heap} (hs : gh.size = (FF i).size)
    (hl : ∀ x ob, gh.get x = some ob → (FF i).get x = some ob ∧ x < (FF i).size ∧ gAt FF tl recs D ops.toList.length x = some ob ∧ ∀ j, j < ops.toList.length → D j = true → Rel tl recs j x → j < i) :
    Emb P (π.cut (FF i).size) gh w := by
  refine ⟨by unfold Heap.small; rw [hs]; exact c.smallAt (by omega), fun x ob hx => ?_, fun x y ox oy k m m' hx hy h1 h2 => ?_, fun x hx => ?_, fun x k m hx => I.range x k m (Pl.cut_some hx).2⟩
  · obtain ⟨h1, h2, h3, h4⟩ := hl x ob hx
    obtain ⟨k, m, o', a1, a2, a3⟩ := I.blk x ob h3
    exact ⟨k, m, o', by rw [Pl.cut_eq h2]; exact a1, a2, a3 _ (c.mono (by omega) (by omega)) fun j hj hD hr => c.mono (h4 j hj hD hr) (by omega)⟩
  · exact I.inj x y ox oy k m m' (hl x ox hx).2.2.1 (hl y oy hy).2.2.1 (Pl.cut_some h1).2 (Pl.cut_some h2).2
  · unfold Pl.cut
    rw [if_neg (by omega)]
end
end Go.Proofs.YtdnccdobnhbpeaaDoor.Ev

namespace Go.Proofs.YtdnccdobnhbpeaaDoor.Ev
open Go
set_option linter.unusedVariables false
set_option linter.unusedSimpArgs false
open Classical
section
variable {run : Runner} {P : Program} {G : Nat} {b : Bar} {ops : Array Oper} {ds : List Nat} {tl n : Nat} {tt : Nat → Trie Value} {FF : Nat → Heap} {recs : List Rec} {π0 : Pl} {w0 : World}

def addD (D : Nat → Bool) (i : Nat) : Nat → Bool := fun j => if j = i then true else D j
theorem addD_self {D : Nat → Bool} {i : Nat} : addD D i i = true := by simp [addD]
theorem addD_or {D : Nat → Bool} {i j : Nat} (h : addD D i j = true) : j = i ∨ D j = true := by
  unfold addD at h
  split at h
  · exact .inl (by assumption)
  · exact .inr h
theorem addD_of {D : Nat → Bool} {i j : Nat} (h : D j = true) : addD D i j = true := by
  unfold addD
  split
  · rfl
  · exact h

/-- An operation that was not asked for. -/
theorem Ctx.skip (c : Ctx run P G b ops ds tl n tt FF recs) {D : Nat → Bool} {π : Pl} {tmps : Array Value} {w : World} (I : Inv b ops tl n tt FF recs P π0 w0 D π tmps w) {i : Nat} {o : Oper} {r : Rec} (h : At run P G b ops ds tl n tt FF recs i o r) (hi : i < ops.toList.length) (hDi : D i = false)
    (hr : r = ⟨undef, (FF i).size, (FF i).size, some [], none⟩) : Inv b ops tl n tt FF recs P π0 w0 (addD D i) π (putA tmps o.dst undef) w := by
  have hnr : ∀ x, ¬ Rel tl recs i x := by
    intro x hx
    rw [h.rel, hr] at hx
    rcases hx with hx | hx | hx
    · simp at hx; omega
    · cases hx
    · have := hx.1; cases this
  have hg : ∀ x, gAt FF tl recs (addD D i) ops.toList.length x = gAt FF tl recs D ops.toList.length x := fun x => gAt_other hDi (hnr x) _
  refine ⟨by rw [putA_size]; exact I.size, ?_, ?_, ?_, ?_, I.range, ?_, ?_, I.old, I.os, I.tape, I.output, I.wsize, I.frame, ?_⟩
  · intro j oj rj d hoj hrj hD hdst hd
    rcases addD_or hD with rfl | hD1
    · rw [h.oper] at hoj
      cases hoj
      rw [h.rec_] at hrj
      cases hrj
      rw [hdst, putA_self (by rw [I.size]; exact hd), hr]
      exact .undef
    · by_cases e : j = i
      · subst e; rw [hDi] at hD1; cases hD1
      · rw [putA_other (c.text.dst i j o oj d h.oper hoj (Ne.symm e) hdst).1]
        exact I.t1 j oj rj d hoj hrj hD1 hdst hd
  · intro d hd hno
    rw [putA_other (hno i o h.oper addD_self)]
    exact I.t2 d hd fun j oj hoj hD => hno j oj hoj (addD_of hD)
  · intro x ob hx
    rw [hg] at hx
    obtain ⟨k, m, o', a1, a2, a3⟩ := I.blk x ob hx
    exact ⟨k, m, o', a1, a2, fun cc hc hall => a3 cc hc fun j hj hD hrel => hall j hj (addD_of hD) hrel⟩
  · intro x y ox oy k m m' hx hy
    rw [hg] at hx hy
    exact I.inj x y ox oy k m m' hx hy
  · intro x y hx
    rcases I.placed x y hx with h1 | ⟨j, h1, h2, h3⟩
    · exact .inl h1
    · exact .inr ⟨j, h1, addD_of h2, h3⟩
  · intro j rj x hrj hD hw
    rcases addD_or hD with rfl | hD1
    · rw [h.rec_] at hrj
      cases hrj
      rw [hr] at hw; cases hw
    · exact I.wrote j rj x hrj hD1 hw
  · intro x ob k m hb hx
    rw [hg] at hx
    exact I.live x ob k m hb hx

/-- An operation that was done. -/
theorem Ctx.done (c : Ctx run P G b ops ds tl n tt FF recs) {D : Nat → Bool} {π : Pl} {tmps : Array Value} {w : World} (I : Inv b ops tl n tt FF recs P π0 w0 D π tmps w) {i : Nat} {o : Oper} {r : Rec} (h : At run P G b ops ds tl n tt FF recs i o r) (hi : i < ops.toList.length) (hDi : D i = false)
    (hdown : ∀ j, j < ops.toList.length → D j = true → ∀ k, Dep ds j k → D k = true) (hdeps : ∀ j, Dep ds i j → D j = true) (hG : Glob G (π.cut (FF i).size))
    {b' : Bar} {gh hh : Heap} (hd : Did run P G b ops ds tl n o i (restT n (tt i) (o.looksAt ops)) (FF i) (recs.take i) r (FF (i + 1)) (AllAt tl i r) b' gh hh)
    {π' : Pl} {w' : World} {v' : Value} (hE' : Emb P π' hh w') (hK : Keep b' gh (π.cut (FF i).size) w hh π' w') (hv : VR π' r.v v') :
    ∃ π'', Inv b ops tl n tt FF recs P π0 w0 (addD D i) π'' (putA tmps o.dst v') w' := by
  obtain ⟨hlive, hwrote⟩ := c.liveGh I h hi hDi hdown hdeps hG hd
  have hS0 : (FF 0).size ≤ (FF i).size := c.mono (by omega) (by omega)
  have hsz : hh.size = (FF (i + 1)).size := hd.size.symm
  have hgs := hd.gsize
  have hsmi := c.smallAt (j := i) (by omega)
  have hsmh : hh.small := hE'.small
  let π'' : Pl := fun x => if (FF i).size ≤ x ∧ x < (FF (i + 1)).size then π' x else π x
  have f1 : ∀ x y, π' x = some y → π'' x = some y ∧ x < (FF (i + 1)).size := by
    intro x y hx
    have hlt : x < hh.size := by
      rcases Nat.lt_or_ge x hh.size with h1 | h1
      · exact h1
      · rw [hE'.fresh x h1] at hx; cases hx
    refine ⟨?_, by omega⟩
    show (if (FF i).size ≤ x ∧ x < (FF (i + 1)).size then π' x else π x) = _
    by_cases h1 : (FF i).size ≤ x
    · rw [if_pos ⟨h1, by omega⟩]; exact hx
    · rw [if_neg (by omega)]
      have := hK.old x (by omega)
      rw [hx] at this
      exact (Pl.cut_some this.symm).2
  have f1c : ∀ cc, (FF (i + 1)).size ≤ cc → π'.le (π''.cut cc) := fun cc hc x y hx => by
    obtain ⟨h1, h2⟩ := f1 x y hx
    rw [Pl.cut_eq (by omega)]; exact h1
  have f2 : π.le π'' := by
    intro x y hx
    show (if (FF i).size ≤ x ∧ x < (FF (i + 1)).size then π' x else π x) = _
    by_cases h1 : (FF i).size ≤ x ∧ x < (FF (i + 1)).size
    · exfalso
      rcases I.placed x y hx with h2 | ⟨j, h2, h3, h4, h5⟩
      · omega
      · have : j = i := by
          rcases Nat.lt_trichotomy j i with h6 | h6 | h6
          · have := c.mono (i := j + 1) (j := i) (by omega) (by omega); omega
          · exact h6
          · have := c.mono (i := i + 1) (j := j) (by omega) (by omega); omega
        subst this
        rw [hDi] at h3; cases h3
    · rw [if_neg h1]; exact hx
  have f3 : ∀ x y, π'' x = some y → π x = some y ∨ ((FF i).size ≤ x ∧ x < (FF (i + 1)).size ∧ π' x = some y) := by
    intro x y hx
    have hx' : (if (FF i).size ≤ x ∧ x < (FF (i + 1)).size then π' x else π x) = some y := hx
    split at hx'
    · rename_i h1; exact .inr ⟨h1.1, h1.2, hx'⟩
    · exact .inl hx'
  have hrelI : ∀ x, Rel tl recs i x ↔ (((FF i).size ≤ x ∧ x < (FF (i + 1)).size) ∨ r.w = some x ∨ AllAt tl i r) := by
    intro x
    rw [h.rel]
    unfold RelAt
    rw [h.s, h.e]
  have noisyI : ∀ x, Rel tl recs i x → noisy ops.toList i = true := by
    intro x hx
    cases hn : noisy ops.toList i with
    | true => rfl
    | false =>
      obtain ⟨_, s2, s3, s4⟩ := h.silent hn
      rw [hrelI] at hx
      rcases hx with hx | hx | hx
      · omega
      · rw [s2] at hx; cases hx
      · exact (s4 hx).elim
  -- nothing later that has been done has to do with what this one did
  have later : ∀ x, Rel tl recs i x → ∀ j, i < j → j < ops.toList.length → D j = true → ¬ Rel tl recs j x := by
    intro x hx j hij hj hDj hrj
    have n1 : ¬ Dep ds j i := fun hd2 => by have := hdown j hj hDj i hd2; rw [hDi] at this; cases this
    have n2 : ¬ Dep ds i j := fun hd2 => by have := c.text.lt i j hi hd2; omega
    obtain ⟨oj, rj, hat⟩ := c.at hj
    have hrj' := hat.rel.1 hrj
    have hno := noisyI x hx
    have hnj : noisy ops.toList j = true := by
      cases hn : noisy ops.toList j with
      | true => rfl
      | false =>
        obtain ⟨_, s2, s3, s4⟩ := hat.silent hn
        rcases hrj' with hrj' | hrj' | hrj'
        · rw [hat.s, hat.e] at hrj'; omega
        · rw [s2] at hrj'; cases hrj'
        · exact (s4 hrj').elim
    rw [hrelI] at hx
    have tailJ : tl ≤ j → False := fun h1 => n1 (tailFrom_spec j (by rw [← c.tail]; exact h1) hj hnj i hij hno)
    have hmono := c.mono (i := i + 1) (j := j) (by omega) (by omega)
    rcases hrj' with hrj' | hrj' | hrj'
    · rw [hat.s, hat.e] at hrj'
      rcases hx with hx | hx | hx
      · omega
      · have := (hd.wr x hx).2
        have := Heap.get_lt (Option.isSome_iff_exists.1 this).choose_spec
        have := h.le
        omega
      · have := hx.2; exact tailJ (by omega)
    · rcases hx with hx | hx | hx
      · have hne := I.wrote j rj x hat.rec_ hDj hrj'
        obtain ⟨y, hy⟩ := Option.ne_none_iff_exists'.1 hne
        have := f2 x y hy
        rcases I.placed x y hy with h2 | ⟨q, h2, h3, h4, h5⟩
        · omega
        · have : q = i := by
            rcases Nat.lt_trichotomy q i with h6 | h6 | h6
            · have := c.mono (i := q + 1) (j := i) (by omega) (by omega); omega
            · exact h6
            · have := c.mono (i := i + 1) (j := q) (by omega) (by omega); omega
          subst this
          rw [hDi] at h3; cases h3
      · obtain ⟨l, hl, hm⟩ := apart_spec c.apart h.rec_ hat.rec_ (by omega) n2 n1 hrj'
        obtain ⟨_, l', hl', hm'⟩ := hwrote x hx
        rw [hl] at hl'
        cases hl'
        exact hm hm'
      · obtain ⟨l, hl, hm⟩ := apart_spec c.apart h.rec_ hat.rec_ (by omega) n2 n1 hrj'
        rw [hx.1] at hl; cases hl
    · exact tailJ hrj'.2
  have gRel : ∀ x, Rel tl recs i x → gAt FF tl recs (addD D i) ops.toList.length x = hh.get x := by
    intro x hx
    have e1 : gAt FF tl recs (addD D i) ops.toList.length x = (FF (i + 1)).get x := gAt_self hx hi (later x hx)
    rw [e1]
    refine hd.get hsmi hsmh x ?_
    have := (hrelI x).1 hx
    rw [hsz]
    exact this
  have gOther : ∀ x, ¬ Rel tl recs i x → gAt FF tl recs (addD D i) ops.toList.length x = gAt FF tl recs D ops.toList.length x := fun x hx => gAt_other hDi hx _
  have okGh : ∀ q oq, b'.ok q = true → gh.get q = some oq → Rel tl recs i q ∧ b.ok q = true := by
    intro q oq hb hq
    by_cases ha : AllAt tl i r
    · exact ⟨(hrelI q).2 (.inr (.inr ha)), by rw [← (hd.whenAll ha).1]; exact hb⟩
    · rw [hd.whenNot ha] at hb
      have hlt := Heap.get_lt hq
      unfold Bar.ok at hb
      simp only [Bool.or_eq_true] at hb
      rcases hb with hb | hb
      · have := le_of_ble hb; omega
      · cases hw : r.w with
        | none => rw [hw] at hb; cases hb
        | some x =>
          rw [hw] at hb
          have : x = q := eq_of_beq hb
          subst this
          exact ⟨(hrelI x).2 (.inr (.inl hw)), (hd.wr x hw).1⟩
  refine ⟨π'', by rw [putA_size]; exact I.size, ?_, ?_, ?_, ?_, ?_, ?_, ?_, ?_, hK.os.trans I.os, hK.tape.trans I.tape, hK.output.trans I.output, Nat.le_trans I.wsize hK.size, ?_, ?_⟩
  · intro j oj rj d hoj hrj hD hdst hdn
    rcases addD_or hD with rfl | hD1
    · rw [h.oper] at hoj
      cases hoj
      rw [h.rec_] at hrj
      cases hrj
      rw [hdst, putA_self (by rw [I.size]; exact hdn)]
      exact hv.mono (f1c _ (Nat.le_refl _))
    · by_cases e : j = i
      · subst e; rw [hDi] at hD1; cases hD1
      · rw [putA_other (c.text.dst i j o oj d h.oper hoj (Ne.symm e) hdst).1]
        exact (I.t1 j oj rj d hoj hrj hD1 hdst hdn).mono (Pl.le_cut f2)
  · intro d hdn hno
    rw [putA_other (hno i o h.oper addD_self)]
    exact (I.t2 d hdn fun j oj hoj hD => hno j oj hoj (addD_of hD)).mono (Pl.le_cut f2)
  · intro x ob hx
    by_cases hr : Rel tl recs i x
    · rw [gRel x hr] at hx
      obtain ⟨k, m, o', a1, a2, a3⟩ := hE'.blk x ob hx
      exact ⟨k, m, o', (f1 x _ a1).1, a2, fun cc hc hall => a3.mono (f1c cc (hall i hi addD_self hr))⟩
    · rw [gOther x hr] at hx
      obtain ⟨k, m, o', a1, a2, a3⟩ := I.blk x ob hx
      refine ⟨k, m, o', f2 _ _ a1, ?_, fun cc hc hall => (a3 cc hc fun j hj hD hrel => hall j hj (addD_of hD) hrel).mono (Pl.le_cut f2)⟩
      rw [hK.frame k (I.range x k m a1) fun q oq mq hbq hq e => ?_]
      · exact a2
      · obtain ⟨_, _, hgq, _⟩ := hlive q oq hq
        have := I.inj x q ob oq k m mq hx hgq a1 (Pl.cut_some e).2
        subst this
        exact hr (okGh x oq hbq hq).1
  · -- no two blocks at one place
    have mixed : ∀ x y ox oy k m m', Rel tl recs i x → ¬ Rel tl recs i y → hh.get x = some ox → gAt FF tl recs D ops.toList.length y = some oy → π'' x = some (k, m) → π'' y = some (k, m') → False := by
      intro x y ox oy k m m' hrx hry hx hy h1 h2
      obtain ⟨k1, m1, o1, a1, _, _⟩ := hE'.blk x ox hx
      have e1 := (f1 x _ a1).1
      rw [h1] at e1
      cases e1
      obtain ⟨k2, m2, o2, c1, _, _⟩ := I.blk y oy hy
      have e2 := f2 y _ c1
      rw [h2] at e2
      cases e2
      have hnall : ¬ AllAt tl i r := fun ha => hry ((hrelI y).2 (.inr (.inr ha)))
      have hbx : b'.ok x = true := by
        rw [hd.whenNot hnall]
        rcases (hrelI x).1 hrx with hx | hx | hx
        · unfold Bar.ok
          rw [ble_true hx.1]; rfl
        · unfold Bar.ok
          rw [hx]
          simp
        · exact (hnall hx).elim
      rcases hK.live x ox _ _ hbx hx a1 with h3 | ⟨j, oj, mj, hbj, hj, ej⟩
      · have := I.range y _ _ c1; omega
      · obtain ⟨_, _, hgj, _⟩ := hlive j oj hj
        have := I.inj j y oj oy _ _ _ hgj hy (Pl.cut_some ej).2 c1
        subst this
        exact hry (okGh j oj hbj hj).1
    intro x y ox oy k m m' hx hy h1 h2
    by_cases hrx : Rel tl recs i x
    · rw [gRel x hrx] at hx
      by_cases hry : Rel tl recs i y
      · rw [gRel y hry] at hy
        obtain ⟨k1, m1, o1, a1, _, _⟩ := hE'.blk x ox hx
        obtain ⟨k2, m2, o2, c1, _, _⟩ := hE'.blk y oy hy
        have e1 := (f1 x _ a1).1
        have e2 := (f1 y _ c1).1
        rw [h1] at e1
        rw [h2] at e2
        cases e1
        cases e2
        exact hE'.inj x y ox oy _ _ _ hx hy a1 c1
      · rw [gOther y hry] at hy
        exact (mixed x y ox oy k m m' hrx hry hx hy h1 h2).elim
    · rw [gOther x hrx] at hx
      by_cases hry : Rel tl recs i y
      · rw [gRel y hry] at hy
        exact (mixed y x oy ox k m' m hry hrx hy hx h2 h1).elim
      · rw [gOther y hry] at hy
        obtain ⟨k1, m1, o1, a1, _, _⟩ := I.blk x ox hx
        obtain ⟨k2, m2, o2, c1, _, _⟩ := I.blk y oy hy
        have e1 := f2 x _ a1
        have e2 := f2 y _ c1
        rw [h1] at e1
        rw [h2] at e2
        cases e1
        cases e2
        exact I.inj x y ox oy _ _ _ hx hy a1 c1
  · intro x k m hx
    rcases f3 x _ hx with h1 | ⟨_, _, h1⟩
    · exact Nat.lt_of_lt_of_le (I.range x k m h1) hK.size
    · exact hE'.range x k m h1
  · intro x y hx
    rcases f3 x _ hx with h1 | ⟨h1, h2, _⟩
    · rcases I.placed x y h1 with h2 | ⟨j, h2, h3, h4⟩
      · exact .inl h2
      · exact .inr ⟨j, h2, addD_of h3, h4⟩
    · exact .inr ⟨i, hi, addD_self, h1, h2⟩
  · intro j rj x hrj hD hw hnone
    rcases addD_or hD with rfl | hD1
    · rw [h.rec_] at hrj
      cases hrj
      obtain ⟨hne, _⟩ := hwrote x hw
      obtain ⟨y, hy⟩ := Option.ne_none_iff_exists'.1 hne
      have := f2 x y (Pl.cut_some hy).2
      rw [hnone] at this; cases this
    · have hne := I.wrote j rj x hrj hD1 hw
      obtain ⟨y, hy⟩ := Option.ne_none_iff_exists'.1 hne
      have := f2 x y hy
      rw [hnone] at this; cases this
  · intro x hx
    have : π'' x = π x := by
      show (if (FF i).size ≤ x ∧ x < (FF (i + 1)).size then π' x else π x) = _
      rw [if_neg (by omega)]
    rw [this]; exact I.old x hx
  · intro k hk hun
    rw [hK.frame k (Nat.lt_of_lt_of_le hk I.wsize) fun q oq mq hbq hq e => ?_]
    · exact I.frame k hk hun
    · obtain ⟨_, _, hgq, _⟩ := hlive q oq hq
      rcases I.live q oq k mq (okGh q oq hbq hq).2 hgq (Pl.cut_some e).2 with h1 | ⟨j, oj, mj, h1, h2, h3⟩
      · omega
      · exact hun j oj mj h1 h2 h3
  · intro x ob k m hbx hx h1
    by_cases hr : Rel tl recs i x
    · rw [gRel x hr] at hx
      obtain ⟨k1, m1, o1, a1, _, _⟩ := hE'.blk x ob hx
      have e1 := (f1 x _ a1).1
      rw [h1] at e1
      cases e1
      have hbx' : b'.ok x = true := by
        by_cases ha : AllAt tl i r
        · rw [(hd.whenAll ha).1]; exact hbx
        · rw [hd.whenNot ha]
          rcases (hrelI x).1 hr with hx | hx | hx
          · unfold Bar.ok
            rw [ble_true hx.1]; rfl
          · unfold Bar.ok
            rw [hx]
            simp
          · exact (ha hx).elim
      rcases hK.live x ob _ _ hbx' hx a1 with h3 | ⟨j, oj, mj, hbj, hj, ej⟩
      · exact .inl (Nat.le_trans I.wsize h3)
      · obtain ⟨_, _, hgj, _⟩ := hlive j oj hj
        exact I.live j oj _ mj (okGh j oj hbj hj).2 hgj (Pl.cut_some ej).2
    · rw [gOther x hr] at hx
      obtain ⟨k1, m1, o1, a1, _, _⟩ := I.blk x ob hx
      have e1 := f2 x _ a1
      rw [h1] at e1
      cases e1
      exact I.live x ob _ _ hbx hx a1
end
end Go.Proofs.YtdnccdobnhbpeaaDoor.Ev

namespace Go.Proofs.YtdnccdobnhbpeaaDoor.Ev
open Go
set_option linter.unusedVariables false
set_option linter.unusedSimpArgs false
open Classical
section
variable {run : Runner} {P : Program} {G : Nat} {b : Bar} {ops : Array Oper} {ds : List Nat} {tl n : Nat} {tt : Nat → Trie Value} {FF : Nat → Heap} {recs : List Rec} {π0 : Pl} {w0 : World}

/-- One operation, in the great world. -/
theorem Ctx.step (c : Ctx run P G b ops ds tl n tt FF recs) (hrun : RunOk P G run) {D : Nat → Bool} {π : Pl} {tmps : Array Value} {w : World} (I : Inv b ops tl n tt FF recs P π0 w0 D π tmps w) (hG0 : Glob G π0) (hfresh : ∀ x, (FF 0).size ≤ x → π0 x = none) {i : Nat} (hi : i < ops.toList.length) (hDi : D i = false)
    (hdown : ∀ j, j < ops.toList.length → D j = true → ∀ k, Dep ds j k → D k = true) (hdeps : ∀ j, Dep ds i j → D j = true) :
    ∃ π' tmps' w', Inv b ops tl n tt FF recs P π0 w0 (addD D i) π' tmps' w' ∧ ∀ (fn : FuncId) (l : List Nat) (k : List Item) (dfs : List Deferred) (r : Option Nat) (cs : List Frame), Steps P (lone (fra fn tmps (.inRegion ops (i :: l) :: k) dfs r) cs w) (lone (fra fn tmps' (.inRegion ops l :: k) dfs r) cs w') := by
  obtain ⟨o, r, h⟩ := c.at hi
  have hoi : ops[i]? = some o := by simpa using h.oper
  have hTR := c.temps I h hi hDi hdown hdeps
  have hw1 : wantedT ops o.guard (restT n (tt i) (o.looksAt ops)) n = Region.wanted o (yielded ops tmps) := by
    rw [wanted_eq hTR, rest_wanted I.size]
  have hG : Glob G (π.cut (FF i).size) := by
    intro g hg
    obtain ⟨m, hm⟩ := hG0 g hg
    have hlt : g < (FF 0).size := by
      rcases Nat.lt_or_ge g (FF 0).size with h1 | h1
      · exact h1
      · rw [hfresh g h1] at hm; cases hm
    have := c.mono (i := 0) (j := i) (by omega) (by omega)
    exact ⟨m, by rw [Pl.cut_eq (by omega), I.old g hlt]; exact hm⟩
  rcases h.did with ⟨a1, a2, a3⟩ | ⟨b', gh, hh, hd⟩
  · rw [hw1] at a1
    exact ⟨π, _, w, c.skip I h hi hDi a2, fun fn l k dfs r' cs => .one (st_skipOp hoi a1)⟩
  · have hwant := hd.want
    rw [hw1] at hwant
    obtain ⟨hlive, _⟩ := c.liveGh I h hi hDi hdown hdeps hG hd
    have hE := c.embGh I hi hd.gsize hlive
    have hwhole := hd.whole
    have hin : instAt' P G n ops i = instOf P G n o := by unfold instAt'; rw [h.oper]
    rw [hin] at hwhole
    obtain ⟨hns, π', w', v', e1, e2, e3, e4⟩ := opWhole_sim hrun hwhole hTR hG hE
    obtain ⟨π'', hI⟩ := c.done I h hi hDi hdown hdeps hG hd e1 e2 e3
    exact ⟨π'', _, w', hI, fun fn l k dfs r' cs => e4 fn ops i l k dfs r' cs tmps hoi hwant (rest_exec I.size hns)⟩
theorem go_eq (md : Region.Mode) (fuel t : Nat) (listed : Array Bool) : Region.linearise.go md ops (fuel + 1) t listed [] =
    match (Region.ready md ops listed)[t % (Region.ready md ops listed).length]? with
      | some i => Region.linearise.go md ops fuel (t / (Region.ready md ops listed).length) (listed.setIfInBounds i true) [i]
      | none => [] := rfl
def doneOf (listed : Array Bool) : Nat → Bool := fun j => listed.getD j false
theorem doneOf_set {listed : Array Bool} {i : Nat} (hi : i < listed.size) : doneOf (listed.setIfInBounds i true) = addD (doneOf listed) i := by
  funext j
  unfold doneOf addD
  by_cases e : j = i
  · subst e; simp [hi]
  · have : i ≠ j := Ne.symm e
    simp [e, Array.getElem?_setIfInBounds_ne this]
/-- All orders. -/
theorem Ctx.order (c : Ctx run P G b ops ds tl n tt FF recs) (hrun : RunOk P G run) (hG0 : Glob G π0) (hfresh : ∀ x, (FF 0).size ≤ x → π0 x = none) : ∀ (fuel t : Nat) (listed : Array Bool) (π : Pl) (tmps : Array Value) (w : World), listed.size = ops.toList.length → listed.toList.count false ≤ fuel →
    (∀ j, j < ops.toList.length → doneOf listed j = true → ∀ k, Dep ds j k → doneOf listed k = true) → Inv b ops tl n tt FF recs P π0 w0 (doneOf listed) π tmps w →
    ∃ D π' tmps' w', (∀ j, j < ops.toList.length → D j = true) ∧ Inv b ops tl n tt FF recs P π0 w0 D π' tmps' w' ∧ ∀ (fn : FuncId) (k : List Item) (dfs : List Deferred) (r : Option Nat) (cs : List Frame), Steps P (lone (fra fn tmps (.inRegion ops (Region.linearise.go .any ops fuel t listed []) :: k) dfs r) cs w) (lone (fra fn tmps' (.inRegion ops [] :: k) dfs r) cs w') := by
  intro fuel
  induction fuel with
  | zero =>
    intro t listed π tmps w hs hc hdown I
    refine ⟨_, π, tmps, w, fun j hj => ?_, I, fun fn k dfs r cs => Steps.refl P _⟩
    have h0 : listed.toList.count false = 0 := by omega
    rw [List.count_eq_zero] at h0
    have hj' : j < listed.size := by omega
    show listed.getD j false = true
    have : listed.getD j false = listed[j] := by simp [hj']
    rw [this]
    cases hb : listed[j] with
    | true => rfl
    | false => exact (h0 (by rw [← hb]; simp)).elim
  | succ fuel ih =>
    intro t listed π tmps w hs hc hdown I
    cases hr : (Region.ready .any ops listed)[t % (Region.ready .any ops listed).length]? with
    | none =>
      have hnil : Region.ready .any ops listed = [] := by
        cases hr' : Region.ready .any ops listed with
        | nil => rfl
        | cons x xs =>
          rw [hr'] at hr
          have hlt : t % (x :: xs).length < (x :: xs).length := Nat.mod_lt _ (by simp)
          rw [List.getElem?_eq_getElem hlt] at hr
          cases hr
      have hgo : Region.linearise.go .any ops (fuel + 1) t listed [] = [] := by rw [go_eq, hr]
      refine ⟨_, π, tmps, w, fun j hj => ?_, I, fun fn k dfs r cs => by rw [hgo]; exact Steps.refl P _⟩
      induction j using Nat.strongRecOn with
      | ind j ihj =>
        cases hb : doneOf listed j with
        | true => rfl
        | false =>
          exfalso
          obtain ⟨o, hat⟩ : ∃ o, ops.toList[j]? = some o := ⟨_, List.getElem?_eq_getElem hj⟩
          have hm : j ∈ Region.ready .any ops listed := by
            rw [mem_ready]
            refine ⟨?_, o, by simpa using hat, fun e he hbi => ?_⟩
            · have hj' : j < listed.size := by omega
              have : listed.getD j true = listed.getD j false := by simp [hj']
              rw [this]; exact hb
            · have hlt := c.text.edge j o hat e (by simpa using he) hbi
              exact ihj e.on hlt (by omega)
          rw [hnil] at hm; cases hm
    | some i =>
      have hm := List.mem_of_getElem? hr
      rw [mem_ready] at hm
      obtain ⟨h0, o, ho, hall⟩ := hm
      have hiN : i < ops.toList.length := by
        have := (Array.getElem?_eq_some_iff.1 ho).1
        simpa using this
      have hil : i < listed.size := by omega
      have hDi : doneOf listed i = false := by
        show listed.getD i false = false
        have : listed.getD i false = listed.getD i true := by simp [hil]
        rw [this]; exact h0
      have hdeps : ∀ j, Dep ds i j → doneOf listed j = true := by
        intro j hj
        obtain ⟨e, he, hb, h1⟩ := c.text.close i j o (by simpa using ho) hj
        have hdone : doneOf listed e.on = true := hall e (by simpa using he) hb
        rcases h1 with rfl | h1
        · exact hdone
        · have hlt := c.text.edge i o (by simpa using ho) e he hb
          exact hdown e.on (by omega) hdone j h1
      obtain ⟨π1, tmps1, w1, I1, st1⟩ := c.step hrun I hG0 hfresh hiN hDi hdown hdeps
      rw [← doneOf_set hil] at I1
      have hcount : (listed.setIfInBounds i true).toList.count false ≤ fuel := by
        have hfalse : listed.toList[i] = false := by
          have : listed.getD i false = listed[i] := by simp [hil]
          have h2 : listed[i] = false := by rw [← this]; exact hDi
          simpa using h2
        have := List.count_set (a := true) (b := false) (l := listed.toList) (i := i) (show i < listed.toList.length from by rw [Array.length_toList]; exact hil)
        have hset : (listed.setIfInBounds i true).toList = listed.toList.set i true := by simp
        have hpos : 0 < listed.toList.count false := by
          rw [List.count_pos_iff]
          rw [← hfalse]; exact List.getElem_mem _
        have e1 : (if (listed.toList[i]'(show i < listed.toList.length from by rw [Array.length_toList]; exact hil) == false) = true then 1 else 0) = 1 := by rw [hfalse]; rfl
        have e2 : (if (true == false) = true then 1 else 0) = 0 := rfl
        rw [e1, e2] at this
        rw [hset, this]
        omega
      have hdown1 : ∀ j, j < ops.toList.length → doneOf (listed.setIfInBounds i true) j = true → ∀ k, Dep ds j k → doneOf (listed.setIfInBounds i true) k = true := by
        intro j hj hD k hk
        rw [doneOf_set hil] at hD ⊢
        rcases addD_or hD with rfl | hD1
        · exact addD_of (hdeps k hk)
        · exact addD_of (hdown j hj hD1 k hk)
      obtain ⟨D, π2, tmps2, w2, e1, e2, e3⟩ := ih (t / (Region.ready .any ops listed).length) (listed.setIfInBounds i true) π1 tmps1 w1 (by simpa using hs) hcount hdown1 I1
      refine ⟨D, π2, tmps2, w2, e1, e2, fun fn k dfs r cs => ?_⟩
      have hgo : Region.linearise.go .any ops (fuel + 1) t listed [] = i :: Region.linearise.go .any ops fuel (t / (Region.ready .any ops listed).length) (listed.setIfInBounds i true) [] := by
        rw [go_eq, hr]
        simp only
        rw [linearise_go_acc]
        rfl
      rw [hgo]
      exact (st1 fn _ k dfs r cs).trans (e3 fn k dfs r cs)
theorem gAt_none {D : Nat → Bool} (hD : ∀ j, D j = false) (x : Nat) : ∀ N, gAt FF tl recs D N x = (FF 0).get x := by
  intro N
  induction N with
  | zero => rfl
  | succ j ih => simp only [gAt, hD]; simpa using ih
theorem Inv.start {D : Nat → Bool} (hD : ∀ j, D j = false) {tmps : Array Value} (hT : TR π0 n (tt 0) tmps) (hE : Emb P π0 (FF 0) w0) : Inv b ops tl n tt FF recs P π0 w0 D π0 tmps w0 := by
  have hle : ∀ cc, (FF 0).size ≤ cc → π0.le (π0.cut cc) := by
    intro cc hc x y hx
    have : x < (FF 0).size := by
      rcases Nat.lt_or_ge x (FF 0).size with h1 | h1
      · exact h1
      · rw [hE.fresh x h1] at hx; cases hx
    rw [Pl.cut_eq (by omega)]; exact hx
  have hg : ∀ x, gAt FF tl recs D ops.toList.length x = (FF 0).get x := fun x => gAt_none hD x _
  refine ⟨hT.size, fun j o r d _ _ h => ?_, fun d hd _ => (hT.at_ d hd).mono (hle _ (Nat.le_refl _)), fun x o hx => ?_, fun x y ox oy k m m' hx hy => ?_, hE.range, fun x y hx => .inl ?_, fun j r x _ h => ?_, fun _ _ => rfl, rfl, rfl, rfl, Nat.le_refl _, fun _ _ _ => rfl, fun x o k m hb hx h1 => ?_⟩
  · rw [hD] at h; cases h
  · rw [hg] at hx
    obtain ⟨k, m, o', a1, a2, a3⟩ := hE.blk x o hx
    exact ⟨k, m, o', a1, a2, fun cc hc _ => a3.mono (hle cc hc)⟩
  · rw [hg] at hx hy
    exact hE.inj x y ox oy k m m' hx hy
  · rcases Nat.lt_or_ge x (FF 0).size with h1 | h1
    · exact h1
    · rw [hE.fresh x h1] at hx; cases hx
  · rw [hD] at h; cases h
  · rw [hg] at hx
    exact .inr ⟨x, o, m, hb, hx, h1⟩
theorem Ctx.end_ (c : Ctx run P G b ops ds tl n tt FF recs) {D : Nat → Bool} (hD : ∀ j, j < ops.toList.length → D j = true) {π : Pl} {tmps : Array Value} {w : World} (I : Inv b ops tl n tt FF recs P π0 w0 D π tmps w) (hfresh : ∀ x, (FF 0).size ≤ x → π0 x = none) :
    TR π n (tt ops.toList.length) tmps ∧ Emb P π (FF ops.toList.length) w ∧ Keep b (FF 0) π0 w0 (FF ops.toList.length) π w := by
  have hg : ∀ x, gAt FF tl recs D ops.toList.length x = (FF ops.toList.length).get x := fun x => c.same (Nat.le_refl _) fun j hj _ => ⟨fun _ => hj, fun _ => hD j hj⟩
  have h0 := c.mono (i := 0) (j := ops.toList.length) (by omega) (by omega)
  refine ⟨⟨I.size, c.nsmall, fun d hd => ?_⟩, ⟨c.small, fun x o hx => ?_, fun x y ox oy k m m' hx hy => ?_, fun x hx => ?_, I.range⟩, ⟨I.os, I.tape, I.output, I.wsize, h0, I.frame, fun x o k m hb hx h1 => ?_, fun x y hx => ?_, I.old⟩⟩
  · rcases c.ttSpec _ (Nat.le_refl _) d hd with ⟨j, oj, rj, h1, h2, h3, h4⟩ | ⟨h1, h2⟩
    · rw [h4]
      exact (I.t1 j oj rj d h2.oper h2.rec_ (hD j h1) h3 hd).mono Pl.cut_le'
    · rw [h2]
      exact (I.t2 d hd fun j oj hoj _ => h1 j oj (lt_of_get hoj) hoj).mono Pl.cut_le'
  · rw [← hg] at hx
    obtain ⟨k, m, o', a1, a2, a3⟩ := I.blk x o hx
    exact ⟨k, m, o', a1, a2, (a3 _ h0 fun j hj _ _ => c.mono (by omega) (by omega)).mono Pl.cut_le'⟩
  · rw [← hg] at hx hy
    exact I.inj x y ox oy k m m' hx hy
  · cases hp : π x with
    | none => rfl
    | some y =>
      rcases I.placed x y hp with h1 | ⟨j, h1, _, _, h2⟩
      · omega
      · have := c.mono (i := j + 1) (j := ops.toList.length) (by omega) (by omega); omega
  · rw [← hg] at hx
    exact I.live x o k m hb hx h1
  · have hlt : x < (FF 0).size := by
      rcases Nat.lt_or_ge x (FF 0).size with h1 | h1
      · exact h1
      · rw [hfresh x h1] at hx; cases hx
    rw [I.old x hlt]; exact hx
end

/-- Drawn regions keep what was evaluated. -/
theorem regionOk_all {P : Program} (hm : P.follows .mixedOrders = true) (G : Nat) : RegionOk P G := by
  intro run hrun b π n t tmps H w fn todo k k' defers dfs round r st st' i ops v1 H1 h hT hk hd hr hs hG hE
  simp only [regionR] at h
  cases hok : regionOk ops (depsOf ops) with
  | false => rw [hok] at h; cases h
  | true =>
  rw [hok] at h
  simp only [cond_true] at h
  cases ho : opsRun run P G b ops (depsOf ops) (tailFrom ops.toList (depsOf ops) ops.toList.length) n ops.toList 0 t H [] with
  | none => rw [ho] at h; cases h
  | some x =>
  obtain ⟨tN, FN, recs⟩ := x
  rw [ho] at h
  simp only at h
  cases hap : (apartRecs (depsOf ops) recs && Nat.ble FN.size 1048576) with
  | false => rw [hap] at h; cases h
  | true =>
  rw [hap] at h
  simp only [cond_true] at h
  simp only [Bool.and_eq_true] at hap
  obtain ⟨l1, l2, tt, FF, a1, a2, a3, a4, a5⟩ := opsRun_spec ops.toList 0 t H [] tN FN recs ho rfl rfl
  simp only [Nat.zero_add] at l1 a3 a4 a5
  subst a1 a2 a3 a4
  have c : Ctx run P G b ops (depsOf ops) (tailFrom ops.toList (depsOf ops) ops.toList.length) n tt FF recs := ⟨a5, regionOk_spec hok, rfl, hap.1, l1, le_of_ble hap.2, hT.small⟩
  have hE1 : Emb P π (FF 0) w.drew := hE.drew
  have hD0 : ∀ j, doneOf (Array.replicate ops.size false) j = false := by
    intro j
    unfold doneOf
    by_cases hj : j < ops.size
    · simp [hj]
    · simp [hj]
  obtain ⟨D, π', tmps', w', e1, e2, e3⟩ := c.order hrun (π0 := π) (w0 := w.drew) hG hE.fresh ops.size (w.tape w.drawn (.order fn i)) (Array.replicate ops.size false) π tmps w.drew (by simp) (by
    simp) (fun j _ hD => by rw [hD0] at hD; cases hD) (Inv.start hD0 hT hE1)
  obtain ⟨g1, g2, g3⟩ := c.end_ e1 e2 hE.fresh
  have hK : Keep b (FF 0) π w (FF ops.toList.length) π' w' := ⟨g3.os, g3.tape, g3.output, g3.size, g3.hsize, g3.frame, g3.live, g3.le, g3.old⟩
  have hle := hK.le
  refine Ends.steps (π1 := π') (w1 := w') (h1 := FF ops.toList.length) (fr1 := fra fn tmps' k' dfs r) (st1 := st') (fun cs => ?_) rfl hK (hrun b _ st _ v1 H1 h π' _ st' w' (FR.fra g1 (hk.mono hle) (hd.mono hle) (hr.mono hle)) (hs.mono hle) (hG.mono hle) g2)
  refine (Steps.one st_draw).trans ?_
  have hsch : Region.schedule (P.follows .mixedOrders) ops (w.tape w.drawn (.order fn i)) = Region.linearise.go .any ops ops.size (w.tape w.drawn (.order fn i)) (Array.replicate ops.size false) [] := by
    unfold Region.schedule
    rw [hm]
    rfl
  rw [hsch]
  exact (e3 fn k' dfs r (st' ++ cs)).trans (.one st_regionEnd)
end Go.Proofs.YtdnccdobnhbpeaaDoor.Ev

namespace Go.Proofs.YtdnccdobnhbpeaaDoor.Ev
open Go
set_option linter.unusedVariables false
/-- What the world has of a table. -/
def TabMet (w : World) (t : Tab) : Prop := ∀ (i : Nat) (v : Value), t.cs[i]? = some v → w.cell? ⟨t.g, i, none⟩ = some v
theorem baseT_size (G : Nat) (ts : List Tab) : (baseT G ts).size = G := by
  induction ts with
  | nil => rfl
  | cons t ts ih => show ((baseT G ts).set t.g _).size = G; rw [Heap.set_size]; exact ih
theorem baseT_get (G : Nat) (hG : G ≤ 1048576) : ∀ (ts : List Tab), tabsOk G ts = true → ∀ i o, (baseT G ts).get i = some o → ∃ t ∈ ts, t.g = i ∧ i < G ∧ t.cs ≠ [] ∧ flatL t.cs = true ∧ o = .cells ⟨t.cs⟩ 0 (1, 0) := by
  intro ts
  induction ts with
  | nil =>
    intro _ i o h
    have : (⟨G, .leaf⟩ : Heap).get i = some o := h
    rw [Heap.get_eq] at this
    split at this
    · rw [Trie.at_leaf] at this; cases this
    · cases this
  | cons t ts ih =>
    intro hok i o h
    simp only [tabsOk, Bool.and_eq_true] at hok
    obtain ⟨⟨⟨h1, h2⟩, h3⟩, h4⟩ := hok
    have h1 := le_of_ble h1
    have : ((baseT G ts).set t.g (some (.cells ⟨t.cs⟩ 0 (1, 0)))).get i = some o := h
    rw [Heap.get_set (by unfold Heap.small; rw [baseT_size]; exact hG) (by rw [baseT_size]; omega)] at this
    split at this
    · rename_i e
      subst e
      cases this
      refine ⟨t, by simp, rfl, by omega, ?_, h2, rfl⟩
      rintro e
      rw [e] at h3
      cases h3
    · obtain ⟨t', a, b⟩ := ih h4 i o this
      exact ⟨t', by simp [a], b⟩
/-- A call that the evaluator runs, with tables and values that have no address. -/
theorem callT_runs {P : Program} (hm : P.follows .mixedOrders = true) {G m : Nat} {ts : List Tab} {f : FuncId} {args : List Value} {v : Value} {h' : Heap} (h : lstartT P G ts m f args = some (v, h')) (hG : G ≤ 1048576) {w : World} (hw : G ≤ w.heap.size) (ht : ∀ t ∈ ts, TabMet w t) :
    Calls P f ⟨args⟩ w (fun e w' => (∃ π v', e = .returned v' ∧ VR π v v' ∧ Emb P π h' w' ∧ ∀ i k m, G ≤ i → h'.get i ≠ none → π i = some (k, m) → w.heap.size ≤ k) ∧ (w'.os = w.os ∧ w'.tape = w.tape ∧ w'.output = w.output) ∧ w.heap.size ≤ w'.heap.size ∧ ∀ k, k < w.heap.size → w'.heap[k]? = w.heap[k]?) := by
  unfold lstartT at h
  cases hok : tabsOk G ts && flatL args with
  | false => rw [hok] at h; cases h
  | true =>
  rw [hok] at h
  simp only [cond_true] at h
  simp only [Bool.and_eq_true] at hok
  obtain ⟨hok, hfa⟩ := hok
  split at h
  · rename_i fr hen
    have hal : LR (Pl.base G) args args := ⟨rfl, fun i a b => VR.of_flatL args hfa i a⟩
    have hfr : FrameR (Pl.base G) fr (Frame.enter P f ⟨args⟩ .normal) := enterL_sim hen hal
    have hE : Emb P (Pl.base G) (baseT G ts) w := by
      refine ⟨by unfold Heap.small; rw [baseT_size]; exact hG, fun i o hi => ?_, fun i j oi oj k m m' hi hj e1 e2 => ?_, fun i hi => ?_, fun i k m hk => ?_⟩
      · obtain ⟨t, htm, rfl, hlt, hne, hfl, rfl⟩ := baseT_get G hG ts hok i o hi
        have hc := ht t htm
        have h0 : ∃ v0, t.cs[0]? = some v0 := by
          cases hcs : t.cs with
          | nil => exact absurd hcs hne
          | cons a l => exact ⟨a, rfl⟩
        obtain ⟨v0, hv0⟩ := h0
        have hc0 := hc 0 v0 hv0
        unfold World.cell? at hc0
        cases hb : w.heap[t.g]? with
        | none => simp only [hb] at hc0; cases hc0
        | some ob =>
          cases ob <;> (try (simp only [hb] at hc0; cases hc0; done))
          rename_i c' e' f'
          refine ⟨t.g, 0, _, by simp [Pl.base, hlt], hb, ?_⟩
          obtain ⟨f1, f2⟩ := f'
          refine .table 0 e' 0 (f1, f2) fun i v hv => ?_
          have hv : t.cs[i]? = some v := by simpa using hv
          have hci := hc i v hv
          unfold World.cell? at hci
          simp only [hb, Option.isSome_none, Bool.false_eq_true, if_false] at hci
          refine ⟨v, hci, ?_⟩
          obtain ⟨hil, rfl⟩ := List.getElem?_eq_some_iff.1 hv
          exact VR.of_flatL _ hfl i hil
      · unfold Pl.base at e1 e2
        split at e1
        · split at e2
          · cases e1; cases e2; rfl
          · cases e2
        · cases e1
      · rw [baseT_size] at hi
        have : ¬ i < G := by omega
        simp [Pl.base, this]
      · unfold Pl.base at hk
        split at hk
        · cases hk; omega
        · cases hk
    have hGl : Glob G (Pl.base G) := fun g hg => ⟨0, by simp [Pl.base, hg]⟩
    obtain ⟨π', v', w', fe, e1, e2, e3, e4, e5, e6⟩ := lrun_sim (regionOk_all hm G) m _ fr [] _ _ h' h (Pl.base G) _ [] w hfr .nil hGl hE
    have dead : ∀ i o, (Bar.mk G none).ok i = true → (baseT G ts).get i ≠ some o := by
      intro i o hb hi
      obtain ⟨t, _, _, hlt, _⟩ := baseT_get G hG ts hok i o hi
      have : Nat.ble G i = true := by simpa [Bar.ok] using hb
      have := le_of_ble this
      omega
    refine fun cs => ⟨.returned v', w', fe, ⟨⟨π', v', rfl, e2, e1, fun i k m hi hg hk => ?_⟩, ⟨e3.os, e3.tape, e3.output⟩, e3.size, fun k hk => e3.frame k hk fun i o m hb hi => (dead i o hb hi).elim⟩, e6 cs, e5, e4⟩
    cases hgi : h'.get i with
    | none => exact (hg hgi).elim
    | some o =>
      have hb : (Bar.mk G none).ok i = true := by simp only [Bar.ok, Bool.or_eq_true]; exact .inl (ble_true hi)
      rcases e3.live i o k m hb hgi hk with h | ⟨j, oj, mj, hbj, hj, _⟩
      · exact h
      · exact (dead j oj hbj hj).elim
  · cases h
theorem call_runsT {P : Program} (hm : P.follows .mixedOrders = true) {G m : Nat} {ts : List Tab} {f : FuncId} {args : List Value} (h : isTrue (lstartT P G ts m f args) = true) (hG : G ≤ 1048576) {w : World} (hw : G ≤ w.heap.size) (ht : ∀ t ∈ ts, TabMet w t) :
    Calls P f ⟨args⟩ w (fun e w' => e = .returned (.bool true) ∧ (w'.os = w.os ∧ w'.tape = w.tape ∧ w'.output = w.output) ∧ w.heap.size ≤ w'.heap.size ∧ ∀ k, k < w.heap.size → w'.heap[k]? = w.heap[k]?) := by
  cases hr : lstartT P G ts m f args with
  | none => rw [hr] at h; cases h
  | some x =>
    obtain ⟨v, h'⟩ := x
    rw [hr] at h
    cases v <;> try (cases h; done)
    rename_i bv
    have : bv = true := h
    subst this
    refine (callT_runs hm hr hG hw ht).mono fun e w' hp => ⟨?_, hp.2⟩
    obtain ⟨π, v', rfl, hv, -⟩ := hp.1
    cases hv
    rfl
/-- A call whose value has no address. -/
theorem callT_flat {P : Program} (hm : P.follows .mixedOrders = true) {G m : Nat} {ts : List Tab} {f : FuncId} {args : List Value} {v : Value} (hf : flat v = true) (h : (lstartT P G ts m f args).map (·.1) = some v) (hG : G ≤ 1048576) {w : World} (hw : G ≤ w.heap.size) (ht : ∀ t ∈ ts, TabMet w t) :
    Calls P f ⟨args⟩ w (fun e w' => e = .returned v ∧ (w'.os = w.os ∧ w'.tape = w.tape ∧ w'.output = w.output) ∧ w.heap.size ≤ w'.heap.size ∧ ∀ k, k < w.heap.size → w'.heap[k]? = w.heap[k]?) := by
  cases hr : lstartT P G ts m f args with
  | none => rw [hr] at h; cases h
  | some x =>
    obtain ⟨v1, h'⟩ := x
    rw [hr] at h
    simp only [Option.map_some, Option.some.injEq] at h
    subst h
    refine (callT_runs hm hr hG hw ht).mono fun e w' hp => ⟨?_, hp.2⟩
    obtain ⟨π, v', rfl, hv, -⟩ := hp.1
    rw [VR.eq_of_flat _ hf _ hv]
end Go.Proofs.YtdnccdobnhbpeaaDoor.Ev

set_option linter.unusedVariables false
namespace Go.Proofs.YtdnccdobnhbpeaaDoor.Ev
open Go
/-! ## Long runs, cut into parts -/
/-- So many steps, and then another runner. -/
noncomputable def lrunB (P : Program) (G : Nat) (base : Runner) (m : Nat) : Runner := Nat.rec (motive := fun _ => Runner) base (fun _ ih => runBody P G ih) m
/-- The function of the lowest frame. -/
noncomputable def bottom (fr : LF) (st : List LF) : FuncId := List.rec (motive := fun _ => LF → FuncId) (fun fr => fr.fn) (fun c _ ih _ => ih c) st fr
/-- What a run that is cut goes on with: only some numbers of the heap stay; a run inside an operation is not cut. -/
noncomputable def pruneR (P : Program) (G : Nat) (k : FuncId) (M : Nat) (l : List Nat) (base : Runner) : Runner := fun b fr st h =>
  bif Nat.beq (bottom fr st) k then base b fr st (only h l) else lrun P G M b fr st h
theorem lrunB_ok {P : Program} {G : Nat} (hreg : RegionOk P G) {base : Runner} (hb : RunOk P G base) : ∀ m, RunOk P G (lrunB P G base m) := by
  intro m
  induction m with
  | zero => exact hb
  | succ m ih => exact runBody_sim hreg ih
theorem pruneR_ok {P : Program} {G : Nat} (hreg : RegionOk P G) {base : Runner} (hb : RunOk P G base) (k : FuncId) (M : Nat) (l : List Nat) : RunOk P G (pruneR P G k M l base) := by
  intro b fr st h v h' hr π fr' st' w hf hs hG hE
  unfold pruneR at hr
  cases hk : Nat.beq (bottom fr st) k with
  | false => rw [hk] at hr; exact lrun_sim hreg M b fr st h v h' hr π fr' st' w hf hs hG hE
  | true =>
    rw [hk] at hr
    obtain ⟨hsz, hget⟩ := only_spec h hE.small l
    have hsub : ∀ i o, (only h l).get i = some o → h.get i = some o := fun i o ho => by
      rw [hget] at ho
      split at ho
      · exact ho
      · cases ho
    have hE' : Emb P π (only h l) w := ⟨by have := hE.small; unfold Heap.small at *; rw [hsz]; exact this, fun i o hi => hE.blk i o (hsub i o hi), fun i j oi oj k m m' hi hj => hE.inj i j oi oj k m m' (hsub _ _ hi) (hsub _ _ hj), fun i hi => hE.fresh i (by rw [← hsz]; exact hi), hE.range⟩
    obtain ⟨π', v', w', fe, e1, e2, e3, e4, e5, e6⟩ := hb b fr st (only h l) v h' hr π fr' st' w hf hs hG hE'
    refine ⟨π', v', w', fe, e1, e2, ⟨e3.os, e3.tape, e3.output, e3.size, by rw [← hsz]; exact e3.hsize, fun k hk hn => e3.frame k hk (fun i o m hb ho => hn i o m hb (hsub i o ho)), fun i o k m hb ho hk => ?_, e3.le, fun i hi => e3.old i (by rw [hsz]; exact hi)⟩, e4, e5, e6⟩
    rcases e3.live i o k m hb ho hk with h | ⟨j, oj, mj, a, b, c⟩
    · exact .inl h
    · exact .inr ⟨j, oj, mj, a, hsub _ _ b, c⟩
/-- The code behind a path in a function's text. -/
noncomputable def subC : List Nat → Code → Code
  | [], c => c
  | i :: p, c =>
    match c with
    | .seq a b => (match i with | 0 => subC p a | _ => subC p b)
    | .cond _ a b => (match i with | 0 => subC p a | _ => subC p b)
    | .block _ b => subC p b
    | .loop b => subC p b
    | .scope b => subC p b
    | .rangeFunc _ _ a b => (match i with | 0 => subC p a | _ => subC p b)
    | c => c
noncomputable def codeAt (P : Program) (f : Nat) (p : List Nat) : Code :=
  match P.funcs.toList[f]? with
  | some fn => (match fn.body with | some b => subC p b | none => .skip)
  | none => .skip
noncomputable def opsAt (P : Program) (f : Nat) (p : List Nat) : Array Oper :=
  match codeAt P f p with
  | .region _ ops _ => ops
  | _ => #[]
noncomputable def lstartR (P : Program) (G : Nat) (ts : List Tab) (run : Runner) (f : FuncId) (args : List Value) : Option (Value × Heap) :=
  bif tabsOk G ts && flatL args then
    match enterL P f args with
    | some fr => run ⟨G, none⟩ fr [] (baseT G ts)
    | none => none
  else none
/-- A call that the evaluator runs, with tables and values that have no address. -/
theorem callR_runs {P : Program} {G : Nat} {run : Runner} (hrun : RunOk P G run) {ts : List Tab} {f : FuncId} {args : List Value} {v : Value} {h' : Heap} (h : lstartR P G ts run f args = some (v, h')) (hG : G ≤ 1048576) {w : World} (hw : G ≤ w.heap.size) (ht : ∀ t ∈ ts, TabMet w t) :
    Calls P f ⟨args⟩ w (fun e w' => (∃ π v', e = .returned v' ∧ VR π v v' ∧ Emb P π h' w' ∧ ∀ i k m, G ≤ i → h'.get i ≠ none → π i = some (k, m) → w.heap.size ≤ k) ∧ (w'.os = w.os ∧ w'.tape = w.tape ∧ w'.output = w.output) ∧ w.heap.size ≤ w'.heap.size ∧ ∀ k, k < w.heap.size → w'.heap[k]? = w.heap[k]?) := by
  unfold lstartR at h
  cases hok : tabsOk G ts && flatL args with
  | false => rw [hok] at h; cases h
  | true =>
  rw [hok] at h
  simp only [cond_true] at h
  simp only [Bool.and_eq_true] at hok
  obtain ⟨hok, hfa⟩ := hok
  split at h
  · rename_i fr hen
    have hal : LR (Pl.base G) args args := ⟨rfl, fun i a b => VR.of_flatL args hfa i a⟩
    have hfr : FrameR (Pl.base G) fr (Frame.enter P f ⟨args⟩ .normal) := enterL_sim hen hal
    have hE : Emb P (Pl.base G) (baseT G ts) w := by
      refine ⟨by unfold Heap.small; rw [baseT_size]; exact hG, fun i o hi => ?_, fun i j oi oj k m m' hi hj e1 e2 => ?_, fun i hi => ?_, fun i k m hk => ?_⟩
      · obtain ⟨t, htm, rfl, hlt, hne, hfl, rfl⟩ := baseT_get G hG ts hok i o hi
        have hc := ht t htm
        have h0 : ∃ v0, t.cs[0]? = some v0 := by
          cases hcs : t.cs with
          | nil => exact absurd hcs hne
          | cons a l => exact ⟨a, rfl⟩
        obtain ⟨v0, hv0⟩ := h0
        have hc0 := hc 0 v0 hv0
        unfold World.cell? at hc0
        cases hb : w.heap[t.g]? with
        | none => simp only [hb] at hc0; cases hc0
        | some ob =>
          cases ob <;> (try (simp only [hb] at hc0; cases hc0; done))
          rename_i c' e' f'
          refine ⟨t.g, 0, _, by simp [Pl.base, hlt], hb, ?_⟩
          obtain ⟨f1, f2⟩ := f'
          refine .table 0 e' 0 (f1, f2) fun i v hv => ?_
          have hv : t.cs[i]? = some v := by simpa using hv
          have hci := hc i v hv
          unfold World.cell? at hci
          simp only [hb, Option.isSome_none, Bool.false_eq_true, if_false] at hci
          refine ⟨v, hci, ?_⟩
          obtain ⟨hil, rfl⟩ := List.getElem?_eq_some_iff.1 hv
          exact VR.of_flatL _ hfl i hil
      · unfold Pl.base at e1 e2
        split at e1
        · split at e2
          · cases e1; cases e2; rfl
          · cases e2
        · cases e1
      · rw [baseT_size] at hi
        have : ¬ i < G := by omega
        simp [Pl.base, this]
      · unfold Pl.base at hk
        split at hk
        · cases hk; omega
        · cases hk
    have hGl : Glob G (Pl.base G) := fun g hg => ⟨0, by simp [Pl.base, hg]⟩
    obtain ⟨π', v', w', fe, e1, e2, e3, e4, e5, e6⟩ := hrun _ fr [] _ _ h' h (Pl.base G) _ [] w hfr .nil hGl hE
    have dead : ∀ i o, (Bar.mk G none).ok i = true → (baseT G ts).get i ≠ some o := by
      intro i o hb hi
      obtain ⟨t, _, _, hlt, _⟩ := baseT_get G hG ts hok i o hi
      have : Nat.ble G i = true := by simpa [Bar.ok] using hb
      have := le_of_ble this
      omega
    refine fun cs => ⟨.returned v', w', fe, ⟨⟨π', v', rfl, e2, e1, fun i k m hi hg hk => ?_⟩, ⟨e3.os, e3.tape, e3.output⟩, e3.size, fun k hk => e3.frame k hk fun i o m hb hi => (dead i o hb hi).elim⟩, e6 cs, e5, e4⟩
    cases hgi : h'.get i with
    | none => exact (hg hgi).elim
    | some o =>
      have hb : (Bar.mk G none).ok i = true := by simp only [Bar.ok, Bool.or_eq_true]; exact .inl (ble_true hi)
      rcases e3.live i o k m hb hgi hk with h | ⟨j, oj, mj, hbj, hj, _⟩
      · exact h
      · exact (dead j oj hbj hj).elim
  · cases h
theorem callR_runsT {P : Program} {G : Nat} {run : Runner} (hrun : RunOk P G run) {ts : List Tab} {f : FuncId} {args : List Value} (h : isTrue (lstartR P G ts run f args) = true) (hG : G ≤ 1048576) {w : World} (hw : G ≤ w.heap.size) (ht : ∀ t ∈ ts, TabMet w t) :
    Calls P f ⟨args⟩ w (fun e w' => e = .returned (.bool true) ∧ (w'.os = w.os ∧ w'.tape = w.tape ∧ w'.output = w.output) ∧ w.heap.size ≤ w'.heap.size ∧ ∀ k, k < w.heap.size → w'.heap[k]? = w.heap[k]?) := by
  cases hr : lstartR P G ts run f args with
  | none => rw [hr] at h; cases h
  | some x =>
    obtain ⟨v, h'⟩ := x
    rw [hr] at h
    cases v <;> try (cases h; done)
    rename_i bv
    have : bv = true := h
    subst this
    refine (callR_runs hrun hr hG hw ht).mono fun e w' hp => ⟨?_, hp.2⟩
    obtain ⟨π, v', rfl, hv, -⟩ := hp.1
    cases hv
    rfl
end Go.Proofs.YtdnccdobnhbpeaaDoor.Ev

