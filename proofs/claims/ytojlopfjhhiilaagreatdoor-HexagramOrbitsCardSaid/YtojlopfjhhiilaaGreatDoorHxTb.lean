/-
  HexagramGroups: what the law asks of the orbits.
-/
import Derived.Test.YtojlopfjhhiilaaGreatDoorHxTa
import Derived.Test.YtojlopfjhhiilaaGreatDoorHxTc
import Derived.Test.YtojlopfjhhiilaaGreatDoorHxYw
namespace Go.Proofs.YtojlopfjhhiilaaGreatDoor
open Go Go.RowKit
set_option linter.unusedVariables false

theorem setE_in {s : Nat} (hs : s < 16) : setE (s : Int) = 0 := by
  unfold setE
  rw [if_neg]
  simp [outB]
  omega
theorem orbE_in {h s : Nat} (hh : h < 64) (hs : s < 16) : orbitE (h : Int) (s : Int) = 0 := by
  have : chkH [(h : Int)] = 0 := chkH_of fun k hk => by
    have : k = 0 := by simp at hk; omega
    subst this
    exact ⟨by simp [nth], by simp [nth]; omega⟩
  unfold orbitE
  rw [if_pos this]
  exact setE_in hs
theorem orb_eq {h s : Nat} (hh : h < 64) (hs : s < 16) : orbitL (h : Int) (s : Int) = sortL (reachTo (s : Int) (h : Int) 64) := by
  unfold orbitL
  rw [if_pos (orbE_in hh hs)]
theorem sortL_perm (xs : List Int) : (sortL xs).Perm xs := List.mergeSort_perm xs _
theorem sortL_asc (xs : List Int) : (sortL xs).Pairwise (· ≤ ·) := by
  refine (List.pairwise_mergeSort (le := fun x y : Int => decide (x ≤ y)) (fun a b c h1 h2 => by simp at *; omega) (fun a b => by simp; omega) xs).imp ?_
  intro a b h
  simpa using h
theorem orb_mem {h s : Nat} (hh : h < 64) (hs : s < 16) (x : Int) : x ∈ orbitL (h : Int) (s : Int) ↔ x ∈ reachTo (s : Int) (h : Int) 64 := by
  rw [orb_eq hh hs]
  exact (sortL_perm _).mem_iff
theorem orb_hexes {h s : Nat} (hh : h < 64) : Hexes (reachTo (s : Int) (h : Int) 64) := reachTo_hexes ⟨by omega, by omega⟩ 64
theorem orb_len {h s : Nat} (hh : h < 64) (hs : s < 16) : (orbitL (h : Int) (s : Int)).length = (reachTo (s : Int) (h : Int) 64).length := by rw [orb_eq hh hs, sortL_length]
theorem orb_hex {h s : Nat} (hh : h < 64) (hs : s < 16) {x : Int} (hx : x ∈ orbitL (h : Int) (s : Int)) : Hex x := (orb_hexes hh).2 x ((orb_mem hh hs x).1 hx)
theorem orb_len1 {h s : Nat} (hh : h < 64) (hs : s < 16) : 1 ≤ (orbitL (h : Int) (s : Int)).length := by rw [orb_len hh hs]; exact reachTo_len _ _ _
theorem orb_len64 {h s : Nat} (hh : h < 64) (hs : s < 16) : (orbitL (h : Int) (s : Int)).length ≤ 64 := by rw [orb_len hh hs]; exact (orb_hexes hh).len
theorem orb_asc {h s : Nat} (hh : h < 64) (hs : s < 16) (i : Nat) (hi : i + 1 < (orbitL (h : Int) (s : Int)).length) : nth (orbitL (h : Int) (s : Int)) i < nth (orbitL (h : Int) (s : Int)) (i + 1) := by
  have h1 : (orbitL (h : Int) (s : Int)).Pairwise (· ≤ ·) := by rw [orb_eq hh hs]; exact sortL_asc _
  have h2 : (orbitL (h : Int) (s : Int)).Nodup := by rw [orb_eq hh hs]; exact (sortL_perm _).nodup_iff.2 (orb_hexes hh).1
  rw [nth_eq (by omega), nth_eq hi]
  have a := List.pairwise_iff_getElem.1 h1 i (i + 1) (by omega) hi (by omega)
  have b := List.pairwise_iff_getElem.1 h2 i (i + 1) (by omega) hi (by omega)
  omega
theorem orb_self {h s : Nat} (hh : h < 64) (hs : s < 16) : (h : Int) ∈ orbitL (h : Int) (s : Int) := (orb_mem hh hs _).2 (reach_first _ _ _)
theorem orb_shut {h s : Nat} (hh : h < 64) (hs : s < 16) : ∀ x ∈ reachTo (s : Int) (h : Int) 64, ∀ o ∈ opsTo (s : Int) 4, nth (opL o) x.toNat ∈ reachTo (s : Int) (h : Int) 64 := by
  intro x hx o ho
  have := List.all_eq_true.1 (List.all_eq_true.1 (orb_closed s hs h hh) x hx) o ho
  simpa using this
theorem opL_op (o : Nat) {x : Int} (hx : Hex x) : nth (opL o) x.toNat = opV x.toNat o := by
  obtain ⟨a, b⟩ := hx
  unfold opL nth
  rw [List.getD_eq_getElem?_getD, List.getElem?_map, List.getElem?_range (by omega)]
  rfl
theorem orb_op {h s : Nat} (hh : h < 64) (hs : s < 16) {x : Int} (hx : x ∈ orbitL (h : Int) (s : Int)) {o : Nat} (ho : o < 4) (hset : setB (s : Int) o = true) : opV x.toNat o ∈ orbitL (h : Int) (s : Int) := by
  rw [← opL_op o (orb_hex hh hs hx), orb_mem hh hs]
  exact orb_shut hh hs x ((orb_mem hh hs x).1 hx) o (by simp [opsTo, ho, hset])
theorem setB_or : ∀ s, s < 16 → ∀ m, m < 16 → s ||| m < 16 ∧ ∀ k, k < 4 → setB (s : Nat) k = true → setB ((s ||| m : Nat) : Int) k = true := by decide +kernel
theorem orb_wide {h s m : Nat} (hh : h < 64) (hs : s < 16) (hm : m < 16) {x : Int} (hx : x ∈ orbitL (h : Int) (s : Int)) : x ∈ orbitL (h : Int) ((s ||| m : Nat) : Int) := by
  obtain ⟨a, b⟩ := setB_or s hs m hm
  rw [orb_mem hh a]
  refine reach_least (reach_first _ _ _) ?_ 64 x ((orb_mem hh hs x).1 hx)
  intro y hy o ho
  refine orb_shut hh a y hy o ?_
  simp only [opsTo, List.mem_filter, List.mem_range] at ho ⊢
  exact ⟨ho.1, b o ho.1 ho.2⟩
theorem orb_same {h s : Nat} (hh : h < 64) (hs : s < 8) {x : Int} (hx : x ∈ orbitL (h : Int) (s : Int)) : orbitL x (s : Int) = orbitL (h : Int) (s : Int) := by
  have hs6 : s < 16 := by omega
  have hX := orb_hex hh hs6 hx
  obtain ⟨n, rfl⟩ := Int.eq_ofNat_of_zero_le hX.1
  have hn : n < 64 := by have := hX.2; omega
  have hR := (orb_mem hh hs6 _).1 hx
  have hb : (h : Int) ∈ reachTo (s : Int) (n : Int) 64 := by
    have := List.all_eq_true.1 (orb_back s hs h hh) _ hR
    simpa using this
  have hp : (reachTo (s : Int) (n : Int) 64).Perm (reachTo (s : Int) (h : Int) 64) := by
    rw [List.perm_ext_iff_of_nodup (orb_hexes hn).1 (orb_hexes hh).1]
    intro a
    exact ⟨reach_least hR (orb_shut hh hs6) 64 a, reach_least hb (orb_shut hn hs6) 64 a⟩
  rw [orb_eq hn hs6, orb_eq hh hs6]
  exact sortL_eq (hp.trans (sortL_perm _).symm) (sortL_asc _)
theorem orb_maps {h s : Nat} (hh : h < 64) (hs : s < 16) : (orbitL (h : Int) (s : Int)).length ≤ mapsN (s : Int) ∧ (s < 8 → mapsN (s : Int) % (orbitL (h : Int) (s : Int)).length = 0) := by
  rw [orb_len hh hs, all_maps s hs]
  exact orb_size s hs h hh
theorem mapsR_in {s : Nat} (hs : s < 16) : mapsR (s : Int) = (mapsN (s : Int) : Nat) := by unfold mapsR; rw [if_pos (setE_in hs)]
end Go.Proofs.YtojlopfjhhiilaaGreatDoor
