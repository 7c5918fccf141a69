/-
  Package hexagram: orbits.
-/
import Derived.Test.YtojlopfjhhiilaaGreatDoorHxT
import Derived.Lib.OwnBridge
namespace Go.Proofs.YtojlopfjhhiilaaGreatDoor
open Go Go.RowKit Go.Shelf Go.Sort Go.Lib
set_option linter.unusedVariables false

/-- The error of a set of operations. -/
def setE (set : Int) : Int := if outB 0 15 set = true then 2 else 0
theorem setE_zero {set : Int} (h : setE set = 0) : 0 ≤ set ∧ set ≤ 15 := by
  unfold setE at h
  split at h
  · simp at h
  · rename_i h1
    simp [outB] at h1
    omega
theorem setE_or (set : Int) : setE set = 0 ∨ setE set = 2 := by unfold setE; split <;> simp
set_option maxHeartbeats 400000 in
theorem checkSet_any (set : Int) (w : World) :
    Calls Tryz.prog 14 #[.int .i64 set] w fun e w' => e = .returned (.int .i64 (setE set)) ∧ Below w.heap.size w w' := by
  have hb : Below w.heap.size w ((w.alloc (.cells #[.int .i64 0] 3)).alloc (.cells #[.int .i64 15] 3)) := ((Below.refl _ _).alloc (Nat.le_refl _) _).alloc (by simp) _
  cases ho : outB 0 15 set
  all_goals
    have Ho := Lib.hid ho
    unfold setE
    rw [ho]
    clear ho
    go_enter Tryz.func14, Tryz.ntmps14
    go_wp2_with fail
    refine (outside_anyI 0 15 w).mono ?_
    rintro e w' ⟨rfl, rfl⟩
    go_wp2_with fail
    refine (outside1_anyI _ 0 15 _ _ _ (by go_cell) (by go_cell)).mono ?_
    rintro e w' ⟨rfl, rfl⟩
    rw [Ho.out]
    go_wp2
    go_ret
    exact ⟨rfl, hb⟩

/-- Ascending. -/
def sortL (xs : List Int) : List Int := xs.mergeSort fun x y => decide (x ≤ y)
theorem sortL_length (xs : List Int) : (sortL xs).length = xs.length := List.length_mergeSort _
theorem sortL_eq {xs ys : List Int} (hp : xs.Perm ys) (hs : ys.Pairwise (· ≤ ·)) : sortL xs = ys := by
  refine List.Perm.eq_of_pairwise (le := (· ≤ ·)) (fun a b _ _ h1 h2 => by omega) ?_ hs ((List.mergeSort_perm xs _).trans hp)
  have := List.pairwise_mergeSort (le := fun x y : Int => decide (x ≤ y)) (fun a b c h1 h2 => by simp at *; omega) (fun a b => by simp; omega) xs
  refine this.imp ?_
  intro a b h
  simpa using h
theorem below_grow {B : Nat} {w0 w : World} (h : Below B w0 w) (hB : B ≤ w.heap.size) (os : Array Obj) : Below B w0 (grow w os) := h.trans ⟨rfl, rfl, rfl, by simp, fun k hk => heap_grow_old w os (by omega)⟩
/-- What was sorted in a row of the call's own. -/
theorem sort_own {base : Nat} (v : Value) (xs : List Int) (w0 w : World) (hne : xs ≠ []) (hl : xs.length ≤ 1000000) (h : w.ownsRow base 3 1 v xs.length (xs.map (Value.int .i64))) (hb : Below base w0 w) (hbw : base ≤ w.heap.size) :
    ∃ g c, v = .slice (some ⟨g, 0, none⟩) xs.length c ∧ Calls Tryz.prog 17 #[.slice (some ⟨g, 0, none⟩) xs.length c] w fun e w' => e = .returned (.tuple #[]) ∧ Reads w' (some ⟨g, 0, none⟩) (sortL xs) ∧ Below base w0 w' := by
  have hv : v ≠ .slice none 0 0 := fun e => by
    subst e
    rcases h.2 with ⟨_, h0⟩ | ⟨g, cap, cur, e0, _⟩
    · exact hne (List.eq_nil_of_length_eq_zero h0)
    · cases e0
  obtain ⟨g, cap, rfl, hg, hgw, h1, h2, h3, hH⟩ := holds_of_ownsRow h hv
  refine ⟨g, cap, rfl, ?_⟩
  refine (Tryz.slices_Sort_int g 0 cap xs w hH hgw (by omega)).mono ?_
  rintro e w' ⟨rfl, n, os, rfl⟩
  have ho := ownsRow_putRow (q := n) (k := xs.length) (ys := sortL xs) h (sortL_length xs) (Nat.le_refl _)
  rw [List.take_of_length_le (by rw [sortL_length]; exact Nat.le_refl _)] at ho
  have hgt := Got.of_owns (n := xs.length) (xs := sortL xs) ho
  obtain ⟨p, c, e, hr⟩ := hgt
  have hp : p = some ⟨g, 0, none⟩ := by simp at e; exact e.1.symm
  subst hp
  refine ⟨rfl, ?_, ?_⟩
  · refine hr.below (below_grow (Below.refl _ _) (Nat.le_refl _) os) (Nat.le_refl _)
  · exact below_grow (below_putRow hb hg) (by simp [putRow, mapBlock, Sort.ahead]; omega) os

/-- What Orbit returns. -/
def orbitE (h set : Int) : Int := if chkH [h] = 0 then setE set else chkH [h]
def orbitL (h set : Int) : List Int := if orbitE h set = 0 then sortL (reachTo set h 64) else []
theorem reachTo_len (set h : Int) (k : Nat) : 1 ≤ (reachTo set h k).length := by
  induction k with
  | zero => simp [reachTo]
  | succ k ih =>
    rw [reachTo]
    split
    · exact Nat.le_trans ih (stepF_len _ _ _).1
    · exact ih

theorem reached_any (set first : Int) (h0s : 0 ≤ set) (h15 : set ≤ 15) (hf : Hex first) (w : World) (hs : Src w) :
    Calls Tryz.prog 15 #[.int .i64 first, .int .i64 set, .func (.func 16) #[] #[]] w fun e W' => ∃ v, e = .returned v ∧ W'.ownsRow w.heap.size 3 1 v (reachTo set first 64).length ((reachTo set first 64).map (Value.int .i64)) ∧ Below w.heap.size w W' :=
  (callsIn_wide (n := 6)).1 (reached_in set first h0s h15 hf w hs)

set_option maxHeartbeats 1000000 in
theorem orbit_any (h set : Int) (w : World) (hs : Src w) :
    Calls Tryz.prog 5 #[.int .i64 h, .int .i64 set] w fun e w' => ∃ q, (∃ c, e = .returned (.tuple #[.slice q (orbitL h set).length c, .int .i64 (orbitE h set)])) ∧ Reads w' q (orbitL h set) ∧ Below w.heap.size w w' := by
  rcases chkH_or [h] with h0 | h0
  · have H := Lib.hid h0
    have hx := chkH_zero h0 0 (by simp)
    simp only [nth, List.getD_cons_zero] at hx
    have E := Lib.hid (show orbitE h set = setE set by unfold orbitE; rw [if_pos h0])
    clear h0
    rcases setE_or set with h1 | h1
    · have H1 := Lib.hid h1
      obtain ⟨s0, s1⟩ := setE_zero h1
      have E2 := Lib.hid (show orbitL h set = sortL (reachTo set h 64) by unfold orbitL; rw [E.out, if_pos h1])
      have HX := Lib.hid (reachTo_hexes (set := set) hx 64)
      have HL := Lib.hid (reachTo_len set h 64)
      clear h1
      obtain ⟨R, hR⟩ : ∃ R, reachTo set h 64 = R := ⟨_, rfl⟩
      have HRR := Lib.hid hR
      rw [hR] at E2 HX HL
      clear hR
      go_enter Tryz.func5, Tryz.ntmps5
      go_wp2_with fail
      refine (checkH_any _ [h] 1 _ (by simp) (reads_new w _ [h])).mono ?_
      rintro e w1 ⟨rfl, hb1⟩
      rw [H.out]
      have hb2 : Below w.heap.size w w1 := (below1 _ _).trans (hb1.mono (by simp))
      clear hb1
      go_wp2_with fail
      refine (checkSet_any set _).mono ?_
      rintro e w2 ⟨rfl, hb3⟩
      rw [H1.out]
      have hb4 := tr hb2 hb3
      clear hb2 hb3
      go_wp2_with fail
      refine (reached_any set h s0 s1 hx _ (hs.below hb4 (Nat.le_refl _))).mono ?_
      rintro e w3 ⟨v, rfl, hown, hb5⟩
      rw [HRR.out] at hown
      obtain ⟨g, c, rfl, hS⟩ := sort_own v R w2 w3 (fun e => by have := HL.out; rw [e] at this; simp at this) (by have := HX.out.len; omega) hown hb5 hb5.size
      have HS := Lib.hid hS
      clear hown hS
      go_wp2_with fail
      refine HS.out.mono ?_
      rintro e w4 ⟨rfl, hrd, hb6⟩
      have HLn := Lib.hid (show (orbitL h set).length = R.length by rw [E2.out, sortL_length])
      go_wp2
      refine bodyPost_ret (v := .tuple #[.slice (some ⟨g, 0, none⟩) R.length c, .int .i64 0]) (by simp [results, Tryz.results5, go_sem]) rfl ⟨_, ⟨c, by rw [HLn.out, E.out, H1.out]⟩, by rw [E2.out]; exact hrd, hb4.trans (hb6.mono hb4.size)⟩
    · have H1 := Lib.hid h1
      have E2 := Lib.hid (show orbitL h set = [] by unfold orbitL; rw [E.out, h1]; rfl)
      clear h1
      go_enter Tryz.func5, Tryz.ntmps5
      go_wp2_with fail
      refine (checkH_any _ [h] 1 _ (by simp) (reads_new w _ [h])).mono ?_
      rintro e w1 ⟨rfl, hb1⟩
      rw [H.out]
      have hb2 : Below w.heap.size w w1 := (below1 _ _).trans (hb1.mono (by simp))
      clear hb1
      go_wp2_with fail
      refine (checkSet_any set _).mono ?_
      rintro e w2 ⟨rfl, hb3⟩
      rw [H1.out]
      have hb4 := tr hb2 hb3
      clear hb2 hb3
      go_wp2
      refine bodyPost_ret (v := .tuple #[.slice none 0 0, .int .i64 2]) (by simp [results, Tryz.results5, go_sem]) rfl ⟨none, ⟨0, by rw [E2.out, E.out, H1.out]; rfl⟩, by rw [E2.out]; exact Reads.nil _ _, hb4⟩
  · have H := Lib.hid h0
    have E := Lib.hid (show orbitE h set = 3 by unfold orbitE; rw [if_neg (by omega), h0])
    have E2 := Lib.hid (show orbitL h set = [] by unfold orbitL; rw [E.out]; rfl)
    clear h0
    go_enter Tryz.func5, Tryz.ntmps5
    go_wp2_with fail
    refine (checkH_any _ [h] 1 _ (by simp) (reads_new w _ [h])).mono ?_
    rintro e w1 ⟨rfl, hb1⟩
    rw [H.out]
    have hb2 : Below w.heap.size w w1 := (below1 _ _).trans (hb1.mono (by simp))
    clear hb1
    go_wp2
    refine bodyPost_ret (v := .tuple #[.slice none 0 0, .int .i64 3]) (by simp [results, Tryz.results5, go_sem]) rfl ⟨none, ⟨0, by rw [E2.out, E.out]; rfl⟩, by rw [E2.out]; exact Reads.nil _ _, hb2⟩
end Go.Proofs.YtojlopfjhhiilaaGreatDoor
