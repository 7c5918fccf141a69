/-
  What the evaluator's values come to: numbers, pairs of a number and an error, rows of numbers.
-/
import Derived.Test.YtdnccdobnhbpeaaDoorLib
import Derived.Test.YtdnccdobnhbpeaaDoorEvE
import Derived.Below
namespace Go.Proofs.YtdnccdobnhbpeaaDoor
open Go Go.RowKit
set_option linter.unusedVariables false

def isI (n : Int) (r : Option (Value × Ev.Heap)) : Bool := match r with | some (.int .i64 m, _) => m == n | _ => false
def isB (n : Bool) (r : Option (Value × Ev.Heap)) : Bool := match r with | some (.bool m, _) => m == n | _ => false
def isII (a b : Int) (r : Option (Value × Ev.Heap)) : Bool := match r with | some (.tuple ⟨[.int .i64 x, .int .i64 y]⟩, _) => x == a && y == b | _ => false
def intsEq : List Value → List Int → Bool
  | [], [] => true
  | .int .i64 x :: l, y :: m => x == y && intsEq l m
  | _, _ => false
noncomputable def rowIs (G : Nat) (xs : List Int) (b : Nat) (h : Ev.Heap) : Bool :=
  Nat.ble G b && match h.get b with
    | some (.pending cs _) => intsEq cs.toList xs
    | some (.cells cs _ (0, 0)) => intsEq cs.toList xs
    | _ => false
/-- A row of numbers and an error. -/
noncomputable def isRI (G : Nat) (xs : List Int) (b : Int) (r : Option (Value × Ev.Heap)) : Bool :=
  match r with
  | some (.tuple ⟨[.slice (some ⟨k, 0, none⟩) n _, .int .i64 y]⟩, h) => Nat.beq n xs.length && y == b && rowIs G xs k h
  | _ => false
section
variable {P : Program} {G m : Nat} {ts : List Ev.Tab} {f : FuncId} {args : List Value} {w : World}
theorem run_I (hm : P.follows .mixedOrders = true) {n : Int} (h : isI n (Ev.lstartT P G ts m f args) = true) (hG : G ≤ 1048576) (hw : G ≤ w.heap.size) (ht : ∀ t ∈ ts, Ev.TabMet w t) :
    Calls P f ⟨args⟩ w fun e w' => e = .returned (.int .i64 n) ∧ Below w.heap.size w w' := by
  unfold isI at h
  split at h
  · rename_i k h' he
    have : k = n := by simpa using h
    subst this
    exact (Ev.callT_flat hm (v := .int .i64 k) rfl (by rw [he]; rfl) hG hw ht).mono fun e w' hp => ⟨hp.1, ⟨hp.2.1.1, hp.2.1.2.1, hp.2.1.2.2, hp.2.2.1, hp.2.2.2⟩⟩
  · cases h
theorem run_B (hm : P.follows .mixedOrders = true) {n : Bool} (h : isB n (Ev.lstartT P G ts m f args) = true) (hG : G ≤ 1048576) (hw : G ≤ w.heap.size) (ht : ∀ t ∈ ts, Ev.TabMet w t) :
    Calls P f ⟨args⟩ w fun e w' => e = .returned (.bool n) ∧ Below w.heap.size w w' := by
  unfold isB at h
  split at h
  · rename_i k h' he
    have : k = n := by simpa using h
    subst this
    exact (Ev.callT_flat hm (v := .bool k) rfl (by rw [he]; rfl) hG hw ht).mono fun e w' hp => ⟨hp.1, ⟨hp.2.1.1, hp.2.1.2.1, hp.2.1.2.2, hp.2.2.1, hp.2.2.2⟩⟩
  · cases h
theorem run_II (hm : P.follows .mixedOrders = true) {a b : Int} (h : isII a b (Ev.lstartT P G ts m f args) = true) (hG : G ≤ 1048576) (hw : G ≤ w.heap.size) (ht : ∀ t ∈ ts, Ev.TabMet w t) :
    Calls P f ⟨args⟩ w fun e w' => e = .returned (.tuple #[.int .i64 a, .int .i64 b]) ∧ Below w.heap.size w w' := by
  unfold isII at h
  split at h
  · rename_i x y h' he
    simp only [Bool.and_eq_true, beq_iff_eq] at h
    obtain ⟨rfl, rfl⟩ := h
    exact (Ev.callT_flat hm (v := .tuple #[.int .i64 x, .int .i64 y]) rfl (by rw [he]; rfl) hG hw ht).mono fun e w' hp => ⟨hp.1, ⟨hp.2.1.1, hp.2.1.2.1, hp.2.1.2.2, hp.2.2.1, hp.2.2.2⟩⟩
  · cases h
theorem intsEq_spec : ∀ (l : List Value) (xs : List Int), intsEq l xs = true → l = xs.map (Value.int .i64) := by
  intro l
  induction l with
  | nil => intro xs h; cases xs with
    | nil => rfl
    | cons => cases h
  | cons v l ih =>
    intro xs h
    cases xs with
    | nil => cases v <;> (try (cases h; done)); rename_i k n; cases k <;> cases h
    | cons x xs =>
      cases v <;> (try (cases h; done))
      rename_i k n
      cases k <;> (try (cases h; done))
      simp only [intsEq, Bool.and_eq_true, beq_iff_eq] at h
      rw [ih xs h.2, h.1]
      rfl
theorem run_RI (hm : P.follows .mixedOrders = true) {xs : List Int} {b : Int} (h : isRI G xs b (Ev.lstartT P G ts m f args) = true) (hG : G ≤ 1048576) (hw : G ≤ w.heap.size) (ht : ∀ t ∈ ts, Ev.TabMet w t) :
    Calls P f ⟨args⟩ w fun e w' => (∃ q c, e = .returned (.tuple #[.slice q xs.length c, .int .i64 b]) ∧ Reads w' q xs) ∧ Below w.heap.size w w' := by
  unfold isRI at h
  split at h
  · rename_i k n c0 y h' he
    simp only [Bool.and_eq_true, beq_iff_eq] at h
    obtain ⟨⟨h1, rfl⟩, h3⟩ := h
    have h1 : n = xs.length := Nat.eq_of_beq_eq_true h1
    subst h1
    unfold rowIs at h3
    simp only [Bool.and_eq_true] at h3
    obtain ⟨h4, h5⟩ := h3
    refine (Ev.callT_runs hm he hG hw ht).mono fun e w' hp => ⟨?_, ⟨hp.2.1.1, hp.2.1.2.1, hp.2.1.2.2, hp.2.2.1, hp.2.2.2⟩⟩
    obtain ⟨π, v', rfl, hv, hE, hfr⟩ := hp.1
    cases hv with
    | @tuple _ cs' hs hcs =>
      obtain ⟨l⟩ := cs'
      match l, hs with
      | [u, v], _ =>
        have a0 := hcs 0 (by simp) (by simp)
        have a1 := hcs 1 (by simp) (by simp)
        simp only [List.getElem_toArray, List.getElem_cons_zero, List.getElem_cons_succ] at a0 a1
        cases a1
        cases a0 with
        | @sl _ kk mm _ _ _ _ hk =>
          refine ⟨some ⟨kk, 0, none⟩, _, rfl, ?_⟩
          intro j hj
          have key : ∀ (cs : Array Value), cs.toList = xs.map (Value.int .i64) → (h'.cell ⟨k, j, none⟩ = cs.toList[j]?) → w'.cell? ⟨kk, j, none⟩ = some (.int .i64 (nth xs j)) := by
            intro cs hc he2
            have e3 : h'.cell ⟨k, j, none⟩ = some (.int .i64 (nth xs j)) := by
              rw [he2, hc, List.getElem?_map, nth_eq hj]
              simp [hj]
            obtain ⟨v', hv1, hv2⟩ := hE.cell e3 hk
            cases hv2
            exact hv1
          refine ⟨kk, 0, rfl, ?_⟩
          simp only [Nat.zero_add]
          cases hg : h'.get k with
          | none => rw [hg] at h5; cases h5
          | some ob =>
            rw [hg] at h5
            cases ob <;> (try (cases h5; done))
            · rename_i cs e fz
              obtain ⟨f1, f2⟩ := fz
              cases f1 <;> (try (cases h5; done))
              cases f2 <;> (try (cases h5; done))
              exact key cs (intsEq_spec _ _ h5) (by simp [Ev.Heap.cell, hg])
            · rename_i cs e
              exact key cs (intsEq_spec _ _ h5) (by simp [Ev.Heap.cell, hg])
  · cases h
end
end Go.Proofs.YtdnccdobnhbpeaaDoor
