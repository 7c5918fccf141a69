/-
  Package habit: counted, Tally; the reference's Tally.
-/
import Derived.Test.YtahmhdjoaoldcaaHbA
namespace Go.Proofs.Ytahmhdjoaoldcaa
open Go Go.RowKit
set_option linter.unusedVariables false
set_option linter.unusedSimpArgs false

theorem info_intH : (Try.prog.info? 3).map (fun i => (i.zero, i.size, i.bytes)) = some (some (.int .i64 0), 1, 8) := by kernel_rfl
/-- A list with one place greater by one. -/
def incL (ys : List Int) (j : Nat) : List Int := ys.set j (nth ys j + 1)
theorem incL_len (ys : List Int) (j : Nat) : (incL ys j).length = ys.length := by simp [incL]
theorem incL_nth (ys : List Int) {j : Nat} (hj : j < ys.length) (i : Nat) : nth (incL ys j) i = if i = j then nth ys j + 1 else nth ys i := by
  unfold incL nth
  rw [List.getD_eq_getElem?_getD, List.getD_eq_getElem?_getD, List.getD_eq_getElem?_getD]
  by_cases e : i = j
  · subst e; simp [hj]
  · rw [if_neg e, List.getElem?_set_ne (Ne.symm e)]
/-- How often each outcome occurs among the first k. -/
def cntTo (xs : List Int) (m : Nat) : Nat → List Int
  | 0 => List.replicate m 0
  | k + 1 => incL (cntTo xs m k) (nth xs k).toNat
theorem cntTo_len (xs : List Int) (m k : Nat) : (cntTo xs m k).length = m := by
  induction k with
  | zero => simp [cntTo]
  | succ k ih => rw [cntTo, incL_len, ih]
theorem rep_nth (m j : Nat) : nth (List.replicate m 0) j = 0 := by
  unfold nth
  rw [List.getD_eq_getElem?_getD, List.getElem?_replicate]
  split <;> rfl
theorem cntTo_bd (xs : List Int) (m k : Nat) (j : Nat) : 0 ≤ nth (cntTo xs m k) j ∧ nth (cntTo xs m k) j ≤ k := by
  induction k with
  | zero => rw [cntTo, rep_nth]; simp
  | succ k ih =>
    rw [cntTo]
    by_cases hj : (nth xs k).toNat < (cntTo xs m k).length
    · rw [incL_nth _ hj]
      split
      · subst_vars; omega
      · omega
    · have : incL (cntTo xs m k) (nth xs k).toNat = cntTo xs m k := by unfold incL; rw [List.set_eq_of_length_le (by omega)]
      rw [this]; omega
/-- How often each pair occurs among the first k. -/
def pairTo (xs : List Int) (m : Nat) : Nat → List Int
  | 0 => List.replicate (m * m) 0
  | 0 + 1 => List.replicate (m * m) 0
  | k + 1 + 1 => incL (pairTo xs m (k + 1)) ((nth xs k).toNat * m + (nth xs (k + 1)).toNat)
theorem pairTo_len (xs : List Int) (m : Nat) : ∀ k, (pairTo xs m k).length = m * m
  | 0 => by simp [pairTo]
  | 0 + 1 => by simp [pairTo]
  | k + 1 + 1 => by rw [pairTo, incL_len, pairTo_len xs m (k + 1)]
theorem pairTo_bd (xs : List Int) (m : Nat) (j : Nat) : ∀ k, 0 ≤ nth (pairTo xs m k) j ∧ nth (pairTo xs m k) j ≤ k
  | 0 => by rw [pairTo, rep_nth]; simp
  | 0 + 1 => by rw [pairTo, rep_nth]; simp
  | k + 1 + 1 => by
    have ih := pairTo_bd xs m j (k + 1)
    rw [pairTo]
    by_cases hj : (nth xs k).toNat * m + (nth xs (k + 1)).toNat < (pairTo xs m (k + 1)).length
    · rw [incL_nth _ hj]
      split
      · subst_vars; push_cast at *; omega
      · push_cast at *; omega
    · have : incL (pairTo xs m (k + 1)) ((nth xs k).toNat * m + (nth xs (k + 1)).toNat) = pairTo xs m (k + 1) := by unfold incL; rw [List.set_eq_of_length_le (by omega)]
      rw [this]; push_cast at *; omega
/-- All outcomes are below m. -/
def InReg (xs : List Int) (m : Nat) : Prop := ∀ k, k < xs.length → 0 ≤ nth xs k ∧ nth xs k < m
theorem inReg_of {xs : List Int} {m : Nat} (h : regE xs m = 0) : InReg xs m ∧ xs.length ≤ 400 := by
  unfold regE at h
  split at h
  · cases h
  · split at h
    · cases h
    · rename_i h1 h2
      refine ⟨fun k hk => ?_, by omega⟩
      have h3 : anyB (outB 0 (m - 1)) xs = false := by simpa using h2
      unfold anyB at h3
      rw [List.any_eq_false] at h3
      have := h3 _ (nth_mem hk)
      simp [outB] at this
      omega
theorem ix_lt {a b m : Nat} (ha : a < m) (hb : b < m) : a * m + b < m * m := by
  have : (a + 1) * m ≤ m * m := Nat.mul_le_mul_right m ha
  rw [Nat.add_mul] at this
  omega

set_option maxHeartbeats 1000000 in
theorem counted_any (p : Option Addr) (xs : List Int) (n c : Nat) (hx : Hid (xs.length = n)) (hn : n ≤ 1000) (m : Nat) (hm : m ≤ 1024) (hr : Hid (InReg xs m)) (w : World) (hR : Reads w p xs) :
    Calls Try.prog 24 #[.slice p n c, .int .i64 m] w fun e w' => ∃ g, e = .returned (.slice (some ⟨g, 0, none⟩) m m) ∧ Row w' w.heap.size g m (cntTo xs m n) ∧ Below w.heap.size w w' := by
  obtain ⟨i0, hi, hz0, hz1, hz2⟩ := info_parts info_intH
  go_enter Try.func24, Try.ntmps24
  go_wp2_with (at_make; refine wpList_make_full _ rfl _ _ 22 rfl w.heap.size 3 i0 (.int .i64 0) 1 Try.underlying22 hi hz0 hz1 .i64 .i64 _ _ m rfl rfl rfl rfl ?c1 ?c2 ?c3 ?_)
  case c1 => rw [hz2]; omega
  case c2 => unfold maxLen; omega
  case c3 => exact Nat.le_refl _
  intro w2 hown hgr
  have hrow := Row.made hown
  have hb2 : Below w.heap.size w w2 := (Below.refl _ w).grown hgr (Nat.le_refl _) (fun k e => by cases e)
  clear hown hgr
  go_wp2
  go_loopw [12] (fun i wr => ∃ k : Nat, k ≤ n ∧ i = .int .i64 k ∧ Row wr w.heap.size w.heap.size m (cntTo xs m k) ∧ Below w.heap.size w wr) (fun i _ => n - (intOf i).toNat)
  case atStart => exact ⟨0, Nat.zero_le _, rfl, hrow, hb2⟩
  case round =>
    obtain ⟨k, hk, rfl, hrw, hb⟩ := hrel
    by_cases hlt : k < n
    · have hkx : k < xs.length := by rw [hx.out]; exact hlt
      obtain ⟨q, o, rfl, hcell⟩ := hR.below hb (Nat.le_refl _) k hkx
      obtain ⟨j, hj⟩ := Int.eq_ofNat_of_zero_le (hr.out k hkx).1
      have hjl : j < m := by have := (hr.out k hkx).2; omega
      rw [hj] at hcell
      obtain ⟨v, hv⟩ : ∃ v, nth (cntTo xs m k) j = v := ⟨_, rfl⟩
      have hbd := cntTo_bd xs m k j
      rw [hv] at hbd
      obtain ⟨hv0, hv1⟩ := hbd
      have Hset := Lib.hid (hrw.set j (v + 1))
      have Hj : Hid (cntTo xs m (k + 1) = (cntTo xs m k).set j (v + 1)) := by show _ = _; rw [cntTo, incL, hj]; simp [hv]
      have hc3 := hrw.cell hjl
      rw [hv] at hc3
      clear hj hv hkx
      have hf3 := hrw.frozen j
      have hj1 : (j : Int) < (m : Int) := by omega
      go_wp2
      go_roundw
      case rel => exact ⟨k + 1, by omega, by go_num, by rw [Hj.out]; exact Hset.out, hb.setCell (p := ⟨w.heap.size, j, none⟩) (Nat.le_refl _) _⟩
      case measure => simp [intOf]; omega
    · obtain rfl : k = n := by omega
      go_wp2
      go_ret
      exact ⟨_, rfl, hrw, hb⟩
end Go.Proofs.Ytahmhdjoaoldcaa
