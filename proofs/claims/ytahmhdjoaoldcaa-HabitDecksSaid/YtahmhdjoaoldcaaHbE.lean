/-
  Runs of equal elements: plain facts.
-/
import Derived.Test.YtahmhdjoaoldcaaLib
namespace Go.Proofs.Ytahmhdjoaoldcaa
set_option linter.unusedVariables false

/-- How many elements from i on, up to the first k, are as the one at i. -/
def runTo (xs : List Int) (i : Nat) : Nat → Nat
  | 0 => 0
  | k + 1 => if i ≤ k ∧ runTo xs i k = k - i ∧ nth xs k = nth xs i then runTo xs i k + 1 else runTo xs i k
theorem runTo_le (xs : List Int) (i k : Nat) : runTo xs i k ≤ k - i := by
  induction k with
  | zero => simp [runTo]
  | succ k ih => unfold runTo; split <;> omega
/-- The longest run among the first k: where it begins, how long it is. -/
def bestTo (xs : List Int) (k : Nat) : Nat → Nat × Nat
  | 0 => (0, 0)
  | i + 1 => if (bestTo xs k i).2 < runTo xs i k then (i, runTo xs i k) else bestTo xs k i
/-- Where the run of the element before k begins. -/
def fromTo (xs : List Int) : Nat → Nat
  | 0 => 0
  | k + 1 => if k = 0 ∨ nth xs k ≠ nth xs (k - 1) then k else fromTo xs k
/-- How many runs there are. -/
def runsTo (xs : List Int) : Nat → Nat
  | 0 => 0
  | k + 1 => if k = 0 ∨ nth xs k ≠ nth xs (k - 1) then runsTo xs k + 1 else runsTo xs k
theorem fromTo_le (xs : List Int) (k : Nat) : fromTo xs k ≤ k - 1 := by
  induction k with
  | zero => simp [fromTo]
  | succ k ih => unfold fromTo; split <;> omega
theorem runsTo_le (xs : List Int) (k : Nat) : runsTo xs k ≤ k := by
  induction k with
  | zero => simp [runsTo]
  | succ k ih => unfold runsTo; split <;> omega
/-- From the beginning of the last run on all are equal. -/
theorem fromTo_eq (xs : List Int) (k : Nat) (hk : 1 ≤ k) : ∀ j, fromTo xs k ≤ j → j < k → nth xs j = nth xs (k - 1) := by
  induction k with
  | zero => omega
  | succ k ih =>
    intro j h1 h2
    unfold fromTo at h1
    split at h1
    · have : j = k := by omega
      subst this; rfl
    · rename_i h
      have h3 : k ≠ 0 := fun e => h (.inl e)
      have h4 : nth xs k = nth xs (k - 1) := by
        by_cases e : nth xs k = nth xs (k - 1)
        · exact e
        · exact (h (.inr e)).elim
      by_cases e : j = k
      · subst e; rfl
      · rw [ih (by omega) j h1 (by omega)]
        show _ = nth xs k
        exact h4.symm
theorem runTo_whole (xs : List Int) (i k : Nat) (h : ∀ j, i ≤ j → j < k → nth xs j = nth xs i) : runTo xs i k = k - i := by
  induction k with
  | zero => simp [runTo]
  | succ k ih =>
    have := ih (fun j a b => h j a (by omega))
    unfold runTo
    by_cases e : i ≤ k
    · rw [if_pos ⟨e, this, h k e (by omega)⟩]; omega
    · rw [if_neg (fun x => e x.1)]; omega
/-- What stands ahead of the last run ends ahead of it. -/
theorem runTo_stays (xs : List Int) (k i : Nat) (hi : i < fromTo xs (k + 1)) : runTo xs i (k + 1) = runTo xs i k := by
  have hle := runTo_le xs i k
  show (if i ≤ k ∧ runTo xs i k = k - i ∧ nth xs k = nth xs i then runTo xs i k + 1 else runTo xs i k) = runTo xs i k
  rw [if_neg]
  rintro ⟨h1, h2, h3⟩
  -- all from i to k are equal: then the last run begins at i or ahead of it
  have all : ∀ m, m ≤ k → runTo xs i m = m - i ∨ runTo xs i k < k - i := by
    intro m hm
    by_cases e : runTo xs i m = m - i
    · exact .inl e
    · right
      have := runTo_le xs i m
      have key : ∀ d, m + d ≤ k → runTo xs i (m + d) < m + d - i := by
        intro d
        induction d with
        | zero => intro _; simp; omega
        | succ d ih =>
          intro hd
          have := ih (by omega)
          show runTo xs i (m + d + 1) < _
          unfold runTo
          rw [if_neg (fun x => by omega)]
          omega
      have := key (k - m) (by omega)
      rwa [show m + (k - m) = k by omega] at this
  have eq : ∀ j, i ≤ j → j ≤ k → nth xs j = nth xs i := by
    intro j hj1 hj2
    by_cases e : j = k
    · subst e; exact h3
    · rcases all (j + 1) (by omega) with h | h
      · unfold runTo at h
        split at h
        · rename_i h'; exact h'.2.2
        · rename_i h'
          rcases all j (by omega) with h4 | h4
          · by_cases e2 : nth xs j = nth xs i
            · exact e2
            · rw [h4] at h; omega
          · omega
      · omega
  have : fromTo xs (k + 1) ≤ i := by
    have key : ∀ m, i + 1 ≤ m → m ≤ k + 1 → fromTo xs m ≤ i := by
      intro m
      induction m with
      | zero => intro h; omega
      | succ m ih =>
        intro h5 h6
        by_cases e : m = i
        · subst e
          have := fromTo_le xs (m + 1)
          simpa using this
        · unfold fromTo
          rw [if_neg]
          · exact ih (by omega) (by omega)
          · rintro (h | h)
            · omega
            · exact h (by rw [eq m (by omega) (by omega), eq (m - 1) (by omega) (by omega)])
    exact key (k + 1) (by omega) (Nat.le_refl _)
  omega
/-- The best of those ahead of i. -/
theorem bestTo_spec (xs : List Int) (k : Nat) : ∀ i, (∀ j, j < i → runTo xs j k ≤ (bestTo xs k i).2) ∧ (((bestTo xs k i).2 = 0 ∧ (bestTo xs k i).1 = 0) ∨ ((bestTo xs k i).1 < i ∧ runTo xs (bestTo xs k i).1 k = (bestTo xs k i).2 ∧ 0 < (bestTo xs k i).2 ∧ ∀ j, j < (bestTo xs k i).1 → runTo xs j k < (bestTo xs k i).2)) := by
  intro i
  induction i with
  | zero => exact ⟨fun j h => by omega, .inl ⟨rfl, rfl⟩⟩
  | succ i ih =>
    obtain ⟨h1, h2⟩ := ih
    unfold bestTo
    split
    · rename_i h
      refine ⟨fun j hj => ?_, .inr ⟨by simp, rfl, by simp; omega, fun j hj => ?_⟩⟩
      · by_cases e : j = i
        · subst e; exact Nat.le_refl _
        · have := h1 j (by omega); simp; omega
      · have := h1 j hj; simp; omega
    · rename_i h
      refine ⟨fun j hj => ?_, ?_⟩
      · by_cases e : j = i
        · subst e; omega
        · exact h1 j (by omega)
      · rcases h2 with h2 | ⟨a, b, c, d⟩
        · exact .inl h2
        · exact .inr ⟨by omega, b, c, d⟩
theorem bestTo_unique {xs : List Int} {k i s n : Nat} (h1 : ∀ j, j < i → runTo xs j k ≤ n) (h2 : s < i) (h3 : runTo xs s k = n) (h4 : 0 < n) (h5 : ∀ j, j < s → runTo xs j k < n) : bestTo xs k i = (s, n) := by
  obtain ⟨a, b⟩ := bestTo_spec xs k i
  have h6 := a s h2
  rcases b with ⟨b1, b2⟩ | ⟨b1, b2, b3, b4⟩
  · omega
  · have h7 := h1 _ b1
    have e : (bestTo xs k i).2 = n := by omega
    have e2 : (bestTo xs k i).1 = s := by
      rcases Nat.lt_trichotomy (bestTo xs k i).1 s with h | h | h
      · have := h5 _ h; omega
      · exact h
      · have := b4 _ h; omega
    exact Prod.ext e2 e
/-- One element more. -/
theorem bestTo_step (xs : List Int) (k : Nat) : bestTo xs (k + 1) (k + 1) = if (bestTo xs k k).2 < k + 1 - fromTo xs (k + 1) then (fromTo xs (k + 1), k + 1 - fromTo xs (k + 1)) else bestTo xs k k := by
  have hf := fromTo_le xs (k + 1)
  have hfe := fromTo_eq xs (k + 1) (by omega)
  obtain ⟨a, b⟩ := bestTo_spec xs k k
  have hw : ∀ i, fromTo xs (k + 1) ≤ i → i ≤ k → runTo xs i (k + 1) = k + 1 - i := fun i h1 h2 => runTo_whole xs i (k + 1) fun j h3 h4 => by
    rw [hfe j (by omega) h4, hfe i h1 (by omega)]
  have hst : ∀ i, i < fromTo xs (k + 1) → runTo xs i (k + 1) = runTo xs i k := fun i h => runTo_stays xs k i h
  split
  · rename_i h
    refine bestTo_unique (fun j hj => ?_) (by omega) (hw _ (Nat.le_refl _) (by omega)) (by omega) (fun j hj => ?_)
    · by_cases e : j < fromTo xs (k + 1)
      · rw [hst j e]
        have := a j (by omega)
        omega
      · rw [hw j (by omega) (by omega)]; omega
    · rw [hst j hj]
      have := a j (by omega)
      omega
  · rename_i h
    rcases b with ⟨b1, b2⟩ | ⟨b1, b2, b3, b4⟩
    · omega
    · have hlt : (bestTo xs k k).1 < fromTo xs (k + 1) := by
        rcases Nat.lt_or_ge (bestTo xs k k).1 (fromTo xs (k + 1)) with h' | h'
        · exact h'
        · have h8 : runTo xs (bestTo xs k k).1 k = k - (bestTo xs k k).1 := runTo_whole xs _ k fun j h3 h4 => by
            rw [hfe j (by omega) (by omega), hfe _ h' (by omega)]
          omega
      refine bestTo_unique (fun j hj => ?_) (by omega) (by rw [hst _ hlt]; exact b2) b3 (fun j hj => ?_)
      · by_cases e : j < fromTo xs (k + 1)
        · rw [hst j e]
          exact a j (by omega)
        · rw [hw j (by omega) (by omega)]; omega
      · rw [hst j (by omega)]; exact b4 j hj
theorem best_le (xs : List Int) (k : Nat) : (bestTo xs k k).1 ≤ k ∧ (bestTo xs k k).2 ≤ k := by
  obtain ⟨a, b⟩ := bestTo_spec xs k k
  rcases b with ⟨b1, b2⟩ | ⟨b1, b2, b3, b4⟩
  · omega
  · have := runTo_le xs (bestTo xs k k).1 k
    omega
end Go.Proofs.Ytahmhdjoaoldcaa
