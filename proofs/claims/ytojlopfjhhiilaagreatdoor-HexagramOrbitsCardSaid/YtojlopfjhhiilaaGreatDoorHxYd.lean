/-
  Plain facts for maps that operations make: what is found, one after another; how many there are.
-/
import Derived.Test.YtojlopfjhhiilaaGreatDoorHxS
namespace Go.Proofs.YtojlopfjhhiilaaGreatDoor
open Go Go.RowKit
set_option linter.unusedVariables false

/-- The map that changes nothing; a map with another one after it. -/
def idL : List Int := (List.range 64).map fun h : Nat => (h : Int)
def compL (f s : List Int) : List Int := f.map fun x => nth s x.toNat
/-- One map more, if it is new. -/
def addM (fs : List (List Int)) (x : List Int) : List (List Int) := if x ∈ fs then fs else fs ++ [x]
def stepM (x : List Int) (fs : List (List Int)) (os : List Nat) : List (List Int) := os.foldl (fun fs o => addM fs (compL x (opL o))) fs
theorem stepM_snoc (x : List Int) (fs : List (List Int)) (os : List Nat) (o : Nat) : stepM x fs (os ++ [o]) = addM (stepM x fs os) (compL x (opL o)) := by simp [stepM]
def nthM (fs : List (List Int)) (k : Nat) : List Int := fs.getD k []
theorem nthM_eq {fs : List (List Int)} {k : Nat} (h : k < fs.length) : nthM fs k = fs[k] := by simp [nthM, h]
theorem nthM_mem {fs : List (List Int)} {k : Nat} (h : k < fs.length) : nthM fs k ∈ fs := by rw [nthM_eq h]; exact List.getElem_mem _
def reachM (set : Int) : Nat → List (List Int)
  | 0 => [idL]
  | k + 1 => if k < (reachM set k).length then stepM (nthM (reachM set k) k) (reachM set k) (opsTo set 4) else reachM set k
theorem addM_len (fs : List (List Int)) (x : List Int) : fs.length ≤ (addM fs x).length := by unfold addM; split <;> simp
theorem addM_nth {fs : List (List Int)} {x : List Int} {k : Nat} (h : k < fs.length) : nthM (addM fs x) k = nthM fs k := by
  unfold addM
  split
  · rfl
  · simp [nthM, List.getElem?_append, h]
theorem stepM_len (x : List Int) (fs : List (List Int)) (os : List Nat) : fs.length ≤ (stepM x fs os).length ∧ ∀ k, k < fs.length → nthM (stepM x fs os) k = nthM fs k := by
  unfold stepM
  induction os generalizing fs with
  | nil => exact ⟨Nat.le_refl _, fun _ _ => rfl⟩
  | cons o r ih =>
    obtain ⟨h1, h2⟩ := ih (addM fs (compL x (opL o)))
    have h3 := addM_len fs (compL x (opL o))
    exact ⟨Nat.le_trans h3 h1, fun k hk => (h2 k (by omega)).trans (addM_nth hk)⟩
/-- A map of the hexagrams. -/
def MapL (m : List Int) : Prop := m.length = 64 ∧ ∀ x ∈ m, Hex x
def Mapps (fs : List (List Int)) : Prop := ∀ m ∈ fs, MapL m
theorem idL_map : MapL idL := ⟨by simp [idL], fun x hx => by
  simp [idL] at hx
  obtain ⟨a, h1, rfl⟩ := hx
  exact ⟨by omega, by omega⟩⟩
theorem opL_map (o : Nat) : MapL (opL o) := ⟨by simp [opL], fun x hx => by
  simp [opL] at hx
  obtain ⟨a, h1, rfl⟩ := hx
  exact opV_hex _ _⟩
theorem MapL.nth {m : List Int} (h : MapL m) {k : Nat} (hk : k < 64) : Hex (nth m k) := h.2 _ (nth_mem (by rw [h.1]; exact hk))
theorem compL_map {f s : List Int} (hf : MapL f) (hs : MapL s) : MapL (compL f s) := ⟨by simp [compL, hf.1], fun x hx => by
  simp only [compL, List.mem_map] at hx
  obtain ⟨a, h1, rfl⟩ := hx
  obtain ⟨u, v⟩ := hf.2 a h1
  exact hs.nth (by omega)⟩
theorem addM_maps {fs : List (List Int)} (h : Mapps fs) {x : List Int} (hx : MapL x) : Mapps (addM fs x) := by
  unfold addM
  split
  · exact h
  · intro y hy
    rcases List.mem_append.1 hy with hy | hy
    · exact h y hy
    · simp at hy; subst hy; exact hx
theorem stepM_maps {x : List Int} (hx : MapL x) (os : List Nat) {fs : List (List Int)} (h : Mapps fs) : Mapps (stepM x fs os) := by
  unfold stepM
  induction os generalizing fs with
  | nil => exact h
  | cons o r ih => exact ih (addM_maps h (compL_map hx (opL_map o)))
theorem reachM_maps (set : Int) (k : Nat) : Mapps (reachM set k) := by
  induction k with
  | zero => intro m hm; simp [reachM] at hm; subst hm; exact idL_map
  | succ k ih =>
    rw [reachM]
    split
    · rename_i hk
      exact stepM_maps (ih _ (nthM_mem hk)) _ ih
    · exact ih
theorem reachM_end {set : Int} {k : Nat} (h : (reachM set k).length ≤ k) (d : Nat) : reachM set (k + d) = reachM set k := by
  induction d with
  | zero => rfl
  | succ d ih =>
    rw [← Nat.add_assoc, reachM, if_neg (by rw [ih]; omega), ih]
theorem reachM_mono (set : Int) (k d : Nat) : (reachM set k).length ≤ (reachM set (k + d)).length := by
  induction d with
  | zero => exact Nat.le_refl _
  | succ d ih =>
    rw [← Nat.add_assoc, reachM]
    split
    · exact Nat.le_trans ih (stepM_len _ _ _).1
    · exact ih
/-- How many maps a set of operations makes. -/
def mapsN (set : Int) : Nat := (reachM set 52).length
set_option maxRecDepth 100000 in
theorem all_maps : ∀ s, s < 16 → mapsN (s : Nat) = [1, 2, 2, 4, 2, 4, 4, 8, 4, 6, 8, 12, 16, 26, 32, 52].getD s 0 := by decide +kernel
theorem maps_bd {set : Int} (h0 : 0 ≤ set) (h15 : set ≤ 15) : 1 ≤ mapsN set ∧ mapsN set ≤ 52 := by
  obtain ⟨s, rfl⟩ := Int.eq_ofNat_of_zero_le h0
  have hs : s < 16 := by omega
  rw [all_maps s hs]
  exact (show ∀ s : Nat, s < 16 → 1 ≤ [1, 2, 2, 4, 2, 4, 4, 8, 4, 6, 8, 12, 16, 26, 32, 52].getD s 0 ∧ [1, 2, 2, 4, 2, 4, 4, 8, 4, 6, 8, 12, 16, 26, 32, 52].getD s 0 ≤ 52 by decide +kernel) s hs
theorem reachM_52 {set : Int} (h0 : 0 ≤ set) (h15 : set ≤ 15) (k : Nat) : (reachM set k).length ≤ 52 := by
  have h2 : ∀ n : Nat, n = 52 → (reachM set n).length ≤ n := fun n e => by subst e; exact (maps_bd h0 h15).2
  obtain ⟨n, hn⟩ : ∃ n : Nat, n = 52 := ⟨_, rfl⟩
  have h1 := h2 n hn
  rw [← hn]
  by_cases h : k ≤ n
  · obtain ⟨d, rfl⟩ : ∃ d, n = k + d := ⟨n - k, by omega⟩
    exact Nat.le_trans (reachM_mono set k d) h1
  · obtain ⟨d, rfl⟩ : ∃ d, k = n + d := ⟨k - n, by omega⟩
    rw [reachM_end h1 d]
    exact h1
end Go.Proofs.YtojlopfjhhiilaaGreatDoor
