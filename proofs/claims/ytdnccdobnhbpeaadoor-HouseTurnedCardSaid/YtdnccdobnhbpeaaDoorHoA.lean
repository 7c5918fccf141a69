/-
  Package house: numbers of houses are checked; how far apart, and who rules, at whatever numbers.
-/
import Derived.Test.YtdnccdobnhbpeaaDoorHoK
import Derived.Test.YtdnccdobnhbpeaaDoorHoE
import Derived.Test.YtdnccdobnhbpeaaDoorShE
import Derived.Test.YtdnccdobnhbpeaaDoorShR
namespace Go.Proofs.YtdnccdobnhbpeaaDoor
open Go Go.RowKit
set_option linter.unusedVariables false

set_option maxHeartbeats 400000 in
theorem outside1_anyP (x lo hi : Int) (a b : Addr) (w : World) (ha : w.cell? a = some (.int .i64 lo)) (hb : w.cell? b = some (.int .i64 hi)) :
    Calls Tryd.prog 76 #[.int .i64 x, .pointer (some a), .pointer (some b)] w fun e w' => e = .returned (.bool (outB lo hi x)) ∧ w = w' := by
  by_cases h1 : x < lo
  · go_enter Tryd.func76, Tryd.ntmps76
    go_wp2
    go_ret
    exact ⟨by simp [outB, h1], rfl⟩
  · go_enter Tryd.func76, Tryd.ntmps76
    go_wp2
    go_ret
    refine ⟨?_, rfl⟩
    simp [outB]; omega
set_option maxHeartbeats 400000 in
theorem outside_anyP (lo hi : Int) (w : World) :
    Calls Tryd.prog 53 #[.int .i64 lo, .int .i64 hi] w fun e w' => e = .returned (.func (.func 76) #[] #[.pointer (some ⟨w.heap.size, 0, none⟩), .pointer (some ⟨w.heap.size + 1, 0, none⟩)]) ∧
      (w.alloc (.cells #[.int .i64 lo] 76)).alloc (.cells #[.int .i64 hi] 76) = w' := by
  go_enter Tryd.func53, Tryd.ntmps53
  go_wp2
  go_ret
  exact ⟨rfl, rfl⟩

/-- The error of numbers that must be those of houses. -/
def chkH (xs : List Int) : Int := if anyB (outB 1 12) xs = true then 3 else 0
theorem checkH_any (p : Option Addr) (xs : List Int) (c : Nat) (w : World) (hl : xs.length ≤ 100) (hR : Reads w p xs) :
    Calls Tryd.prog 48 #[.slice p xs.length c] w fun e w' => e = .returned (.int .i64 (chkH xs)) ∧ Below w.heap.size w w' := by
  have hb : Below w.heap.size w ((w.alloc (.cells #[.int .i64 1] 3)).alloc (.cells #[.int .i64 12] 3)) := ((Below.refl _ _).alloc (Nat.le_refl _) _).alloc (by simp) _
  have hR2 := hR.below hb (Nat.le_refl _)
  cases ho : anyB (outB 1 12) xs
  all_goals
    have Ho := Lib.hid ho
    unfold chkH
    rw [ho]
    clear ho
    go_enter Tryd.func48, Tryd.ntmps48
    go_wp2_with fail
    refine (outside_anyI 1 12 w).mono ?_
    rintro e w' ⟨rfl, rfl⟩
    go_wp2_with fail
    refine (containsFunc_outsideI 1 12 _ _ _ (by go_cell) (by go_cell) p xs c (by omega) hR2).mono ?_
    rintro e w' ⟨rfl, rfl⟩
    rw [Ho.out]
    go_wp2
    go_ret
    exact ⟨rfl, hb⟩

/-- A number of a house. -/
def Hou (n : Int) : Prop := 1 ≤ n ∧ n ≤ 12
theorem chkH_two {a b : Int} : (chkH [a, b] = 0 ∧ Hou a ∧ Hou b) ∨ (chkH [a, b] = 3 ∧ ¬ (Hou a ∧ Hou b)) := by
  unfold chkH
  by_cases h : anyB (outB 1 12) [a, b] = true
  · rw [if_pos h]
    refine .inr ⟨rfl, ?_⟩
    simp [anyB, outB] at h
    unfold Hou
    omega
  · rw [if_neg h]
    refine .inl ⟨rfl, ?_⟩
    simp [anyB, outB] at h
    unfold Hou
    omega
theorem chkH_one {a : Int} : (chkH [a] = 0 ∧ Hou a) ∨ (chkH [a] = 3 ∧ ¬ Hou a) := by
  unfold chkH
  by_cases h : anyB (outB 1 12) [a] = true
  · rw [if_pos h]
    refine .inr ⟨rfl, ?_⟩
    simp [anyB, outB] at h
    unfold Hou
    omega
  · rw [if_neg h]
    refine .inl ⟨rfl, ?_⟩
    simp [anyB, outB] at h
    unfold Hou
    omega
/-- By how many houses two houses are apart. -/
def apartN (a b : Nat) : Nat := min (max a b - min a b) (12 - (max a b - min a b))
theorem apart_run : ((List.range 12).all fun a => (List.range 12).all fun b => isII (Int.ofNat (apartN (a + 1) (b + 1))) 0 (Ev.lstartT Tryd.prog 6 [] 2000 28 [.int .i64 (Int.ofNat (a + 1)), .int .i64 (Int.ofNat (b + 1))])) = true := by kernel_rfl
theorem refApart_run : ((List.range 12).all fun a => (List.range 12).all fun b => isI (Int.ofNat (apartN (a + 1) (b + 1))) (Ev.lstartT Tryd.prog 6 [] 2000 47 [.int .i64 (Int.ofNat (a + 1)), .int .i64 (Int.ofNat (b + 1))])) = true := by kernel_rfl
theorem hou_nat {a : Int} (h : Hou a) : ∃ n : Nat, n < 12 ∧ a = Int.ofNat (n + 1) := ⟨(a - 1).toNat, by unfold Hou at h; omega, by unfold Hou at h; simp; omega⟩
/-- The value of Apart. -/
def apartV (a b : Int) : Int := if chkH [a, b] = 0 then Int.ofNat (apartN a.toNat b.toNat) else 0
theorem no_tabs {w : World} : ∀ t ∈ ([] : List Ev.Tab), Ev.TabMet w t := fun t ht => by simp at ht
theorem refApart_any (a b : Int) (ha : Hou a) (hb : Hou b) (w : World) (hw : 6 ≤ w.heap.size) :
    Calls Tryd.prog 47 #[.int .i64 a, .int .i64 b] w fun e w' => e = .returned (.int .i64 (Int.ofNat (apartN a.toNat b.toNat))) ∧ Below w.heap.size w w' := by
  obtain ⟨m, hm, rfl⟩ := hou_nat ha
  obtain ⟨n, hn, rfl⟩ := hou_nat hb
  have := refApart_run
  simp only [List.all_eq_true, List.mem_range] at this
  exact run_I follows_mixed (this m hm n hn) (by decide) hw no_tabs
theorem news2 (w : World) (T : TypeId) (a b : Int) : Reads (w.alloc (.cells #[.int .i64 a, .int .i64 b] T)) (some ⟨w.heap.size, 0, none⟩) [a, b] := reads_new w T [a, b]
set_option maxHeartbeats 400000 in
theorem apartS_any (a b : Int) (w : World) (hw : 6 ≤ w.heap.size) :
    Calls Tryd.prog 28 #[.int .i64 a, .int .i64 b] w fun e w' => e = .returned (.tuple #[.int .i64 (apartV a b), .int .i64 (chkH [a, b])]) ∧ Below w.heap.size w w' := by
  rcases @chkH_two a b with ⟨h, ha, hb⟩ | ⟨h, h2⟩
  · unfold apartV
    rw [if_pos h, h]
    obtain ⟨m, hm, rfl⟩ := hou_nat ha
    obtain ⟨n, hn, rfl⟩ := hou_nat hb
    have := apart_run
    simp only [List.all_eq_true, List.mem_range] at this
    exact run_II follows_mixed (this m hm n hn) (by decide) hw no_tabs
  · unfold apartV
    rw [if_neg (by omega)]
    have H := Lib.hid h
    clear h h2 hw
    go_enter Tryd.func28, Tryd.ntmps28
    go_wp2_with fail
    refine (checkH_any _ [a, b] 2 _ (by simp) (news2 w _ a b)).mono ?_
    rintro e w1 ⟨rfl, hb1⟩
    rw [H.out]
    go_wp2
    go_ret2
    exact ⟨by rw [H.out]; rfl, ((Below.refl _ _).alloc (Nat.le_refl _) _).trans (hb1.mono (by simp))⟩

/-- The ruler of a figure. -/
def rulV (f : Int) : Int := if chkF [f] = 0 then nth rulL f.toNat else 0
theorem ruler_run : ((List.range 16).all fun f => isII (nth rulL f) 0 (Ev.lstartT Tryd.prog 6 [rulT] 2000 31 [.int .i64 (Int.ofNat f)])) = true := by kernel_rfl
theorem refRuler_run : ((List.range 16).all fun f => isI (nth rulL f) (Ev.lstartT Tryd.prog 6 [] 2000 38 [.int .i64 (Int.ofNat f)])) = true := by kernel_rfl
theorem fig_nat {f : Int} (h : Fig f) : ∃ n : Nat, n < 16 ∧ f = Int.ofNat n := ⟨f.toNat, by unfold Fig at h; omega, by unfold Fig at h; simp; omega⟩
theorem refRuler_any (f : Int) (hf : Fig f) (w : World) (hw : 6 ≤ w.heap.size) :
    Calls Tryd.prog 38 #[.int .i64 f] w fun e w' => e = .returned (.int .i64 (nth rulL f.toNat)) ∧ Below w.heap.size w w' := by
  obtain ⟨n, hn, rfl⟩ := fig_nat hf
  have := refRuler_run
  simp only [List.all_eq_true, List.mem_range] at this
  exact run_I follows_mixed (this n hn) (by decide) hw no_tabs
theorem one_tab {w : World} (h : Rul w) : ∀ t ∈ [rulT], Ev.TabMet w t := fun t ht => by simp at ht; subst ht; exact rulT_met h
set_option maxHeartbeats 400000 in
theorem ruler_any (f : Int) (w : World) (hw : 6 ≤ w.heap.size) (hr : Rul w) :
    Calls Tryd.prog 31 #[.int .i64 f] w fun e w' => e = .returned (.tuple #[.int .i64 (rulV f), .int .i64 (chkF [f])]) ∧ Below w.heap.size w w' := by
  rcases chkF_or [f] with h | h
  · unfold rulV
    rw [if_pos h, h]
    have hf : Fig f := chkF_zero h 0 (by simp)
    obtain ⟨n, hn, rfl⟩ := fig_nat hf
    have := ruler_run
    simp only [List.all_eq_true, List.mem_range] at this
    exact run_II follows_mixed (this n hn) (by decide) hw (one_tab hr)
  · unfold rulV
    rw [if_neg (by omega)]
    have H := Lib.hid h
    clear h hw hr
    go_enter Tryd.func31, Tryd.ntmps31
    go_wp2_with fail
    refine (checkS_any f _).mono ?_
    rintro e w1 ⟨rfl, hb1⟩
    rw [H.out]
    go_wp2
    go_ret2
    exact ⟨by rw [H.out]; rfl, hb1⟩

/-- The figures that something rules. -/
def ruledL (p : Nat) : List Int := ((List.range 16).filter fun f => nth rulL f == Int.ofNat p).map Int.ofNat
def ruledV (p : Int) : List Int := if outB 0 8 p = true then [] else ruledL p.toNat
def ruledE (p : Int) : Int := if outB 0 8 p = true then 3 else 0
theorem ruled_run : ((List.range 9).all fun p => isRI 6 (ruledL p) 0 (Ev.lstartT Tryd.prog 6 [rulT] 4000 32 [.int .i64 (Int.ofNat p)])) = true := by kernel_rfl
set_option maxHeartbeats 400000 in
theorem ruled_any (p : Int) (w : World) (hw : 6 ≤ w.heap.size) (hr : Rul w) :
    Calls Tryd.prog 32 #[.int .i64 p] w fun e w' => (∃ q c, e = .returned (.tuple #[.slice q (ruledV p).length c, .int .i64 (ruledE p)]) ∧ Reads w' q (ruledV p)) ∧ Below w.heap.size w w' := by
  unfold ruledV ruledE
  cases h : outB 0 8 p with
  | false =>
    simp only [Bool.false_eq_true, if_false]
    simp [outB] at h
    have hn : p = Int.ofNat p.toNat := by simp; omega
    have := ruled_run
    simp only [List.all_eq_true, List.mem_range] at this
    have := this p.toNat (by omega)
    rw [← hn] at this
    exact run_RI follows_mixed this (by decide) hw (one_tab hr)
  | true =>
    simp only [if_true]
    have H := Lib.hid h
    clear h hw hr
    go_enter Tryd.func32, Tryd.ntmps32
    go_wp2_with fail
    refine (outside_anyP 0 8 _).mono ?_
    rintro e w1 ⟨rfl, rfl⟩
    go_wp2_with fail
    refine (outside1_anyP p 0 8 _ _ _ (by go_cell) (by go_cell)).mono ?_
    rintro e w1 ⟨rfl, rfl⟩
    rw [H.out]
    go_wp2
    go_ret2
    exact ⟨⟨none, 0, rfl, Reads.nil _ _⟩, ((Below.refl _ _).alloc (Nat.le_refl _) _).alloc (by simp) _⟩

/-- Whether a number is that of a house. -/
def houB (n : Int) : Bool := decide (1 ≤ n ∧ n ≤ 12)
set_option maxHeartbeats 400000 in
theorem refHouse_any (n : Int) (w : World) :
    Calls Tryd.prog 10 #[.int .i64 n] w fun e w' => e = .returned (.bool (houB n)) ∧ w = w' := by
  by_cases h0 : 1 ≤ n
  · by_cases h1 : n ≤ 12
    · go_enter Tryd.func10, Tryd.ntmps10
      go_wp2
      go_ret
      exact ⟨by simp [houB, h0, h1], rfl⟩
    · go_enter Tryd.func10, Tryd.ntmps10
      go_wp2
      go_ret
      exact ⟨by simp [houB, h0, h1], rfl⟩
  · go_enter Tryd.func10, Tryd.ntmps10
    go_wp2
    go_ret
    exact ⟨by rw [show houB n = false by simp [houB]; omega]; rfl, rfl⟩
end Go.Proofs.YtdnccdobnhbpeaaDoor
