/-
  Laws for maps whose elements are bools: a first entry, a look-up; sets of ints as such maps.
-/
import Derived.Test.YtojlopfjhhiilaaGreatDoorHxP
import Derived.Maps.OwnIn
import Derived.Maps.Ext
import Derived.Maps.AppendAt
namespace Go.Proofs.YtojlopfjhhiilaaGreatDoor
open Go Go.RowKit Go.Shelf Go.Maps
set_option linter.unusedVariables false

theorem plainElem_bool_inv {H : Type} {P : Program} {e : TypeId} (he : P.underlying e = some .bool) {v : Value} {z : DataW H × List MemPlace} (h : plainElem P e v = some z) : ∃ x, v = .bool x ∧ z = (.lit (.bool x), []) := by
  unfold plainElem at h
  rw [he] at h
  cases v <;> simp at h
  exact ⟨_, rfl, h.symm⟩
section
variable {H : Type} {F : Fence} {nF : Nat} {P : Program} (w : World) {ops : Array Oper} {rest : List Oper} {o : Oper} {a : Act} {Q : Exit → Act → World → Prop}
theorem wpListIn_insert_own
    (hg : o.guard = none) (m x v : Operand) (t : TypeId) (hop : o.op = Op.insert t m x v)
    (k e : TypeId) (K : Keyed P k) (ht : P.underlying t = some (.map k e)) (R : Value → Option (DataW H × List MemPlace)) (b n : Nat) (D : DataW H)
    (hm : a.eval m = .map (some b)) (hown : w.ownsMap P k R b n D) (hn : n < maxLen) (key val : Value) (kl : Lit) (hx : a.eval x = key) (hv : a.eval v = val) (hkey : keyOf P k key = some kl)
    (d : DataW H) (ps : List MemPlace) (hval : R val = some (d, ps))
    (hK : ∀ w', w'.ownsMap P k R b (n + 1) (D.put kl d) → w.grownBy w' (some b) → wpListIn F nF P ops Q rest (a.put o.dst undef) w') :
    wpListIn F nF P ops Q (o :: rest) a w := by
  refine wpListIn_plain hg fun K' hK' => ?_
  obtain ⟨w', hrun, r1, r2⟩ := hown.update K ht hn hkey hval
  unfold Oper.wpIn
  refine ⟨by simp [Oper.about, hop], ?_⟩
  rw [Oper.semAt_plain F _ _ (by rw [hop]; intro c hc'; cases hc')]
  simp [execOp, hop, hm, hx, hv, hrun, Result.andThen]
  exact hK' _ _ (hK w' r1 r2)
theorem wpListIn_lookup_own_bool
    (hg : o.guard = none) (m x : Operand) (t : TypeId) (hop : o.op = Op.lookup t m x false)
    (k e : TypeId) (K : Keyed P k) (ht : P.underlying t = some (.map k e)) (he : P.underlying e = some .bool) (hz : (zeroValue e).run P w = .ok (.bool false) w) (b n : Nat) (D : DataW H)
    (hm : a.eval m = .map (some b)) (hown : w.ownsMap P k (plainElem P e) b n D) (key : Value) (kl : Lit) (hx : a.eval x = key) (hkey : keyOf P k key = some kl) (c : Bool) (hat : D.atKey kl (.lit (.bool false)) = .lit (.bool c))
    (hK : wpListIn F nF P ops Q rest (a.put o.dst (.bool c)) w) :
    wpListIn F nF P ops Q (o :: rest) a w := by
  refine wpListIn_plain hg fun K' hK' => ?_
  obtain ⟨v, ps, hrun, hv⟩ := hown.lookup K ht hz (plainElem_bool he false) hkey
  obtain ⟨c', rfl, hc⟩ := plainElem_bool_inv he hv
  simp only [Prod.mk.injEq] at hc
  rw [hat] at hc
  obtain rfl : c = c' := by simpa using hc.1
  unfold Oper.wpIn
  refine ⟨by simp [Oper.about, hop], ?_⟩
  rw [Oper.semAt_plain F _ _ (by rw [hop]; intro c hc'; cases hc')]
  simp [execOp, hop, hm, hx, hrun, Result.andThen]
  exact hK' _ _ hK
end

/-- The map of a set of ints: each is put at true. -/
def seenD (fs : List Int) : DataW Value := fs.foldl (fun D x => D.put (.int .i64 x) (.lit (.bool true))) (.map [])
theorem seenD_snoc (fs : List Int) (x : Int) : seenD (fs ++ [x]) = (seenD fs).put (.int .i64 x) (.lit (.bool true)) := by simp [seenD]
theorem isMap_foldl (fs : List Int) (D : DataW Value) (h : IsMap D) : IsMap (fs.foldl (fun D x => D.put (.int .i64 x) (.lit (.bool true))) D) := by
  induction fs generalizing D with
  | nil => exact h
  | cons x r ih => exact ih _ (h.put _ _)
theorem seenD_map (fs : List Int) : IsMap (seenD fs) := isMap_foldl fs _ ⟨[], rfl⟩
theorem seenD_at (fs : List Int) (y : Int) : (seenD fs).atKey (.int .i64 y) (.lit (.bool false)) = .lit (.bool (decide (y ∈ fs))) := by
  have key : ∀ (l : List Int) (D : DataW Value), IsMap D → ∀ c : Bool, D.atKey (.int .i64 y) (.lit (.bool false)) = .lit (.bool c) → (l.foldl (fun D x => D.put (.int .i64 x) (.lit (.bool true))) D).atKey (.int .i64 y) (.lit (.bool false)) = .lit (.bool (c || decide (y ∈ l))) := by
    intro l
    induction l with
    | nil => intro D _ c h; simpa using h
    | cons x r ih =>
      intro D hD c h
      rw [List.foldl_cons]
      by_cases e : y = x
      · subst e
        rw [ih _ (hD.put _ _) true (atKey_put_same (k := .int .i64 y) hD trivial _ _)]
        simp
      · have hne : (Lit.int .i64 y) ≠ .int .i64 x := by simpa using e
        rw [ih _ (hD.put _ _) c (by rw [atKey_put_other hne]; exact h)]
        simp [e]
  have := key fs (.map []) ⟨[], rfl⟩ false rfl
  simpa [seenD] using this
end Go.Proofs.YtojlopfjhhiilaaGreatDoor
