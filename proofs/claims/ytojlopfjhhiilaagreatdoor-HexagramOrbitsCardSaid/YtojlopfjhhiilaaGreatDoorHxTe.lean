/-
  Rows of 64 marks.
-/
import Derived.Test.YtojlopfjhhiilaaGreatDoorHxTb
namespace Go.Proofs.YtojlopfjhhiilaaGreatDoor
open Go Go.RowKit
set_option linter.unusedVariables false

def arrB (bs : List Bool) : Array Value := (bs.map Value.bool).toArray
def off64 : List Bool := List.replicate 64 false
theorem info_64b : (Tryz.prog.info? 34).map (·.size) = some 64 := by kernel_rfl
theorem arrB_one (bs : List Bool) : (arrB bs).all (·.oneCell') = true := by simp [arrB, Value.oneCell']
theorem arrB_size (bs : List Bool) : (arrB bs).size = bs.length := by simp [arrB]
theorem arrB_set (bs : List Bool) (k : Nat) (v : Bool) : (arrB bs).setIfInBounds k (.bool v) = arrB (bs.set k v) := by simp [arrB, List.map_set]
theorem arrB_get {bs : List Bool} {k : Nat} (h : k < bs.length) : (arrB bs)[k]? = some (.bool (bs.getD k false)) := by simp [arrB, h]
/-- The first j elements of L are marked. -/
def Mkd (L : List Int) (j : Nat) (B : List Bool) : Prop := B.length = 64 ∧ ∀ i, i < j → B.getD (nth L i).toNat false = true
theorem Mkd.start (L : List Int) : Mkd L 0 off64 := ⟨by simp [off64], fun i hi => by omega⟩
theorem Mkd.step {L : List Int} {j : Nat} {B : List Bool} (h : Mkd L j B) {P : Nat} (hP : P < 64) (hn : nth L j = P) : Mkd L (j + 1) (B.set P true) := by
  refine ⟨by rw [List.length_set]; exact h.1, fun i hi => ?_⟩
  have key : ∀ p, (B.set P true).getD p false = if P = p then true else B.getD p false := by
    intro p
    simp only [List.getD_eq_getElem?_getD, List.getElem?_set]
    split
    · rename_i e
      subst e
      rw [if_pos (by rw [h.1]; exact hP)]
      rfl
    · rfl
  rw [key]
  split
  · rfl
  · rename_i hne
    by_cases e : i = j
    · subst e
      rw [hn] at hne
      exact absurd (by simp) hne
    · exact h.2 i (by omega)
/-- What the law asks of an orbit. -/
structure OrbOk (h s : Nat) (L W : List Int) (N : Nat) : Prop where
  hex : ∀ k, k < L.length → 0 ≤ nth L k ∧ nth L k ≤ 63
  asc : ∀ k, k + 1 < L.length → nth L k < nth L (k + 1)
  wide : ∀ k, k < L.length → ∃ j, j < W.length ∧ nth W j = nth L k
  whex : ∀ k, k < W.length → 0 ≤ nth W k ∧ nth W k ≤ 63
  op : ∀ k, k < L.length → ∀ o, o < 4 → setB (s : Int) o = true → ∃ j, j < L.length ∧ nth L j = opV (nth L k) o
  self : ∃ j, j < L.length ∧ nth L j = h
  same : s < 8 → ∀ k, k < L.length → orbitL (nth L k) (s : Int) = L
  maps : s < 8 → N % L.length = 0
theorem nth_of_mem {L : List Int} {x : Int} (h : x ∈ L) : ∃ j, j < L.length ∧ nth L j = x := by
  obtain ⟨j, hj, e⟩ := List.getElem_of_mem h
  exact ⟨j, hj, by rw [nth_eq hj]; exact e⟩
theorem orb_ok {h s d : Nat} (hh : h < 64) (hs : s < 16) (hd : d < 16) : OrbOk h s (orbitL (h : Int) (s : Int)) (orbitL (h : Int) ((s ||| d : Nat) : Int)) (mapsN (s : Int)) := by
  have hsd := (setB_or s hs d hd).1
  refine ⟨fun k hk => ?_, fun k hk => orb_asc hh hs k hk, fun k hk => nth_of_mem (orb_wide hh hs hd (nth_mem hk)), fun k hk => ?_, fun k hk o ho hb => ?_, nth_of_mem (orb_self hh hs), fun h8 k hk => orb_same hh h8 (nth_mem hk), fun h8 => (orb_maps hh hs).2 h8⟩
  · have := orb_hex hh hs (nth_mem hk)
    unfold Hex at this
    omega
  · have := orb_hex hh hsd (nth_mem hk)
    unfold Hex at this
    omega
  · have hx := orb_hex hh hs (nth_mem hk)
    have := orb_op hh hs (nth_mem hk) ho hb
    have e : ((nth (orbitL (h : Int) (s : Int)) k).toNat : Int) = nth (orbitL (h : Int) (s : Int)) k := by unfold Hex at hx; omega
    rw [e] at this
    exact nth_of_mem this
end Go.Proofs.YtojlopfjhhiilaaGreatDoor
