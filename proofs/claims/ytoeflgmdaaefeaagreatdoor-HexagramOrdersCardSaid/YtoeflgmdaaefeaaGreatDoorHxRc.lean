/-
  The reference of chapter 4: the hexagrams of a cast.
-/
import Derived.Test.YtoeflgmdaaefeaaGreatDoorHxRb
namespace Go.Proofs.YtoeflgmdaaefeaaGreatDoor
open Go Go.RowKit
set_option linter.unusedVariables false

theorem num_six : ∀ b0 b1 b2 b3 b4 b5 : Bool, numTo [bI b0, bI b1, bI b2, bI b3, bI b4, bI b5] 6 = hexTo (fun i => [b0, b1, b2, b3, b4, b5].getD i false) 6 := by decide +kernel
theorem numTo_congr {l l' : List Int} (h : ∀ k, k < 6 → nth l k = nth l' k) (k : Nat) : numTo l k = numTo l' k := by
  induction k with
  | zero => rfl
  | succ k ih => unfold numTo; rw [ih, h (5 - k) (by omega)]
theorem num_hex {l : List Int} {g : Nat → Bool} (h : ∀ k, k < 6 → nth l k = bI (g k)) : numTo l 6 = hexTo g 6 := by
  rw [numTo_congr (l' := [bI (g 0), bI (g 1), bI (g 2), bI (g 3), bI (g 4), bI (g 5)]) (fun k hk => by
    rw [h k hk]
    have : k = 0 ∨ k = 1 ∨ k = 2 ∨ k = 3 ∨ k = 4 ∨ k = 5 := by omega
    rcases this with rfl | rfl | rfl | rfl | rfl | rfl <;> rfl), num_six]
  refine hexTo_congr fun i hi => ?_
  have : i = 0 ∨ i = 1 ∨ i = 2 ∨ i = 3 ∨ i = 4 ∨ i = 5 := by omega
  rcases this with rfl | rfl | rfl | rfl | rfl | rfl <;> rfl

def lineOk (v : Int) : Prop := 6 ≤ v ∧ v ≤ 9
theorem any_bad {m : List Int} {k : Nat} (hk : k < m.length) (h : ¬ lineOk (nth m k)) : anyB (outB 6 9) m = true := by
  simp only [anyB, List.any_eq_true]
  refine ⟨nth m k, nth_mem hk, ?_⟩
  simp only [outB, decide_eq_true_eq]
  unfold lineOk at h
  omega
theorem any_good {m : List Int} (hl : m.length = 6) (h : ∀ j, j < 6 → lineOk (nth m j)) : anyB (outB 6 9) m = false := by
  rw [Bool.eq_false_iff]
  intro h1
  simp only [anyB, List.any_eq_true] at h1
  obtain ⟨x, hx, h2⟩ := h1
  obtain ⟨i, hi, rfl⟩ := List.getElem_of_mem hx
  have := h i (by omega)
  rw [nth_eq hi] at this
  simp only [outB, decide_eq_true_eq] at h2
  unfold lineOk at this
  omega
def aL (m : List Int) (k : Nat) : List Int := fillTo (fun j => bI (firstB (nth m j))) 6 k
def bL (m : List Int) (k : Nat) : List Int := fillTo (fun j => bI (secondB (nth m j))) 6 k
theorem aL_length (m : List Int) (k : Nat) : (aL m k).length = 6 := fillTo_length _ _ _
theorem bL_length (m : List Int) (k : Nat) : (bL m k).length = 6 := fillTo_length _ _ _
theorem aL_nth (m : List Int) {k : Nat} (hk : k < 6) : nth (aL m 6) k = bI (firstB (nth m k)) := by
  unfold aL; rw [fillTo_all, nth_eq (by simpa using hk)]; simp
theorem bL_nth (m : List Int) {k : Nat} (hk : k < 6) : nth (bL m 6) k = bI (secondB (nth m k)) := by
  unfold bL; rw [fillTo_all, nth_eq (by simpa using hk)]; simp
theorem aL_bts (m : List Int) : Bts (aL m 6) := fun k hk => by rw [aL_nth m hk]; exact bI_bd _
theorem bL_bts (m : List Int) : Bts (bL m 6) := fun k hk => by rw [bL_nth m hk]; exact bI_bd _
theorem aL_num {m : List Int} (hl : m.length = 6) (h : ∀ j, j < 6 → lineOk (nth m j)) : castF m = numTo (aL m 6) 6 := by
  unfold castF; rw [any_good hl h]; exact (num_hex fun k hk => aL_nth m hk).symm
theorem bL_num {m : List Int} (hl : m.length = 6) (h : ∀ j, j < 6 → lineOk (nth m j)) : castS m = numTo (bL m 6) 6 := by
  unfold castS; rw [any_good hl h]; exact (num_hex fun k hk => bL_nth m hk).symm
theorem line_four {v : Int} (h : lineOk v) : v = 6 ∨ v = 7 ∨ v = 8 ∨ v = 9 := by unfold lineOk at h; omega

theorem Blk.range {w : World} {g : Nat} {t : TypeId} {xs : List Int} (h : Blk w g t (arr xs)) : w.rangeAt g 0 (xs.map (Value.int .i64)) := fun j v hj => by
  rw [Nat.zero_add, h.cell]
  simpa [arr] using hj
theorem range_tr {w w' : World} (hb : Below w.heap.size w w') {g o : Nat} {cs : List Value} (h : w.rangeAt g o cs) : w'.rangeAt g o cs := fun j v hj => cell_tr hb (h j v hj)
theorem aStep {wr : World} {g : Nat} {t : TypeId} {m : List Int} {k : Nat} {a : Int} (h : Blk wr g t (arr (aL m k))) (e : bI (firstB (nth m k)) = a) : Blk (wr.setCell ⟨g, k, none⟩ (.int .i64 a)) g t (arr (aL m (k + 1))) := by
  have := h.set_ k (.int .i64 (bI (firstB (nth m k))))
  unfold aL at this
  rw [arr_set, fillTo_succ (fun j => bI (firstB (nth m j))) 6 k, e] at this
  exact this
theorem bStep {wr : World} {g : Nat} {t : TypeId} {m : List Int} {k : Nat} {b : Int} (h : Blk wr g t (arr (bL m k))) (e : bI (secondB (nth m k)) = b) : Blk (wr.setCell ⟨g, k, none⟩ (.int .i64 b)) g t (arr (bL m (k + 1))) := by
  have := h.set_ k (.int .i64 (bI (secondB (nth m k))))
  unfold bL at this
  rw [arr_set, fillTo_succ (fun j => bI (secondB (nth m j))) 6 k, e] at this
  exact this
theorem bStep2 {wr : World} {g : Nat} {t : TypeId} {m : List Int} {k : Nat} {x b : Int} (h : Blk wr g t (arr (bL m k))) (e : bI (secondB (nth m k)) = b) : Blk ((wr.setCell ⟨g, k, none⟩ (.int .i64 x)).setCell ⟨g, k, none⟩ (.int .i64 b)) g t (arr (bL m (k + 1))) := by
  have := (h.set_ k (.int .i64 x)).set_ k (.int .i64 (bI (secondB (nth m k))))
  unfold bL at this
  rw [arr_set, arr_set, List.set_set, fillTo_succ (fun j => bI (secondB (nth m j))) 6 k, e] at this
  exact this
theorem okStep {m : List Int} {k : Nat} (h : ∀ j, j < k → lineOk (nth m j)) (hk : lineOk (nth m k)) : ∀ j, j < k + 1 → lineOk (nth m j) := fun j hj => by
  rcases (by omega : j < k ∨ j = k) with h1 | rfl
  · exact h j h1
  · exact hk

theorem keepR {a b : Nat} {a0 a1 a2 a3 a4 a5 b0 b1 b2 b3 b4 b5 : Int} {w5 W W' : World} (h : W.cell? ⟨a, 0, none⟩ = some (.int .i64 a0) ∧ W.cell? ⟨a, 1, none⟩ = some (.int .i64 a1) ∧ W.cell? ⟨a, 2, none⟩ = some (.int .i64 a2) ∧ W.cell? ⟨a, 3, none⟩ = some (.int .i64 a3) ∧ W.cell? ⟨a, 4, none⟩ = some (.int .i64 a4) ∧ W.cell? ⟨a, 5, none⟩ = some (.int .i64 a5) ∧ W.cell? ⟨b, 0, none⟩ = some (.int .i64 b0) ∧ W.cell? ⟨b, 1, none⟩ = some (.int .i64 b1) ∧ W.cell? ⟨b, 2, none⟩ = some (.int .i64 b2) ∧ W.cell? ⟨b, 3, none⟩ = some (.int .i64 b3) ∧ W.cell? ⟨b, 4, none⟩ = some (.int .i64 b4) ∧ W.cell? ⟨b, 5, none⟩ = some (.int .i64 b5) ∧ Below w5.heap.size w5 W) (hb : Below W.heap.size W W') : W'.cell? ⟨a, 0, none⟩ = some (.int .i64 a0) ∧ W'.cell? ⟨a, 1, none⟩ = some (.int .i64 a1) ∧ W'.cell? ⟨a, 2, none⟩ = some (.int .i64 a2) ∧ W'.cell? ⟨a, 3, none⟩ = some (.int .i64 a3) ∧ W'.cell? ⟨a, 4, none⟩ = some (.int .i64 a4) ∧ W'.cell? ⟨a, 5, none⟩ = some (.int .i64 a5) ∧ W'.cell? ⟨b, 0, none⟩ = some (.int .i64 b0) ∧ W'.cell? ⟨b, 1, none⟩ = some (.int .i64 b1) ∧ W'.cell? ⟨b, 2, none⟩ = some (.int .i64 b2) ∧ W'.cell? ⟨b, 3, none⟩ = some (.int .i64 b3) ∧ W'.cell? ⟨b, 4, none⟩ = some (.int .i64 b4) ∧ W'.cell? ⟨b, 5, none⟩ = some (.int .i64 b5) ∧ Below w5.heap.size w5 W' := by
  obtain ⟨h0, h1, h2, h3, h4, h5, h6, h7, h8, h9, h10, h11, h12⟩ := h
  exact ⟨cell_tr hb h0, cell_tr hb h1, cell_tr hb h2, cell_tr hb h3, cell_tr hb h4, cell_tr hb h5, cell_tr hb h6, cell_tr hb h7, cell_tr hb h8, cell_tr hb h9, cell_tr hb h10, cell_tr hb h11, tr h12 hb⟩
theorem list_six {l : List Int} (h : l.length = 6) : ∃ a0 a1 a2 a3 a4 a5, l = [a0, a1, a2, a3, a4, a5] := by
  match l, h with
  | [a0, a1, a2, a3, a4, a5], _ => exact ⟨a0, a1, a2, a3, a4, a5, rfl⟩
theorem num_below {w w' : World} {l : List Int} (h : w.alloc (.cells (arr l) 45) = w') : Below w.heap.size w w' := h ▸ below1 _ _

set_option maxRecDepth 100000 in
set_option maxHeartbeats 1000000 in
theorem refCast_any (m : List Int) (hl : Hid (m.length = 6)) (w : World) :
    Calls Tryz.prog 41 #[.agg (arr m)] w fun e w' => e = .returned (.tuple #[.int .i64 (castF m), .int .i64 (castS m), .int .i64 (castE m)]) ∧ Below w.heap.size w w' := by
  have HM0 := Lib.hid (show Blk (((w.alloc (.cells (arr m) 45)).alloc (.cells (arr (List.replicate 6 0)) 45)).alloc (.cells (arr (List.replicate 6 0)) 45)) w.heap.size 45 (arr m) from ((Blk.new w _ _).alloc _).alloc _)
  have N0 := Lib.hid (show Blk (((w.alloc (.cells (arr m) 45)).alloc (.cells (arr (List.replicate 6 0)) 45)).alloc (.cells (arr (List.replicate 6 0)) 45)) (w.heap.size + 1) 45 (arr (List.replicate 6 0)) from (Blk.newN _ _ (by simp)).alloc _)
  have L0 := Lib.hid (show Blk (((w.alloc (.cells (arr m) 45)).alloc (.cells (arr (List.replicate 6 0)) 45)).alloc (.cells (arr (List.replicate 6 0)) 45)) (w.heap.size + 2) 45 (arr (List.replicate 6 0)) from Blk.newN _ _ (by simp))
  have L1 := Lib.hid (show Blk ((((w.alloc (.cells (arr m) 45)).alloc (.cells (arr (List.replicate 6 0)) 45)).alloc (.cells (arr (List.replicate 6 0)) 45)).setRow (w.heap.size + 1) (arr (List.replicate 6 0))) (w.heap.size + 2) 45 (arr (List.replicate 6 0)) from L0.out.rowFar (by omega) _)
  go_enter Tryz.func41, Tryz.ntmps41
  go_wp2_with (first
    | (refine wpList_store_row rfl 45 (.tmp 5) (.tmp 8) rfl (w.heap.size + 1) (arr (List.replicate 6 0)) rfl rfl 45 _ N0.out info_six rfl (arr_one _) ?_)
    | (refine wpList_store_row rfl 45 (.tmp 6) (.tmp 9) rfl (w.heap.size + 2) (arr (List.replicate 6 0)) rfl rfl 45 _ L1.out info_six rfl (arr_one _) ?_) | fail)
  have HX := Lib.hid (show Blk (((((w.alloc (.cells (arr m) 45)).alloc (.cells (arr (List.replicate 6 0)) 45)).alloc (.cells (arr (List.replicate 6 0)) 45)).setRow (w.heap.size + 1) (arr (List.replicate 6 0))).setRow (w.heap.size + 2) (arr (List.replicate 6 0))) (w.heap.size + 2) 45 (arr (bL m 0)) from by rw [show bL m 0 = List.replicate 6 0 from fillTo_zero _ _]; exact L1.out.row _)
  have HA := Lib.hid (show Blk (((((w.alloc (.cells (arr m) 45)).alloc (.cells (arr (List.replicate 6 0)) 45)).alloc (.cells (arr (List.replicate 6 0)) 45)).setRow (w.heap.size + 1) (arr (List.replicate 6 0))).setRow (w.heap.size + 2) (arr (List.replicate 6 0))) (w.heap.size + 1) 45 (arr (aL m 0)) from by rw [show aL m 0 = List.replicate 6 0 from fillTo_zero _ _]; exact (N0.out.row _).rowFar (by omega) _)
  have HM := Lib.hid (show Blk (((((w.alloc (.cells (arr m) 45)).alloc (.cells (arr (List.replicate 6 0)) 45)).alloc (.cells (arr (List.replicate 6 0)) 45)).setRow (w.heap.size + 1) (arr (List.replicate 6 0))).setRow (w.heap.size + 2) (arr (List.replicate 6 0))) w.heap.size 45 (arr m) from (HM0.out.rowFar (by omega) _).rowFar (by omega) _)
  have hb5 : Below w.heap.size w (((((w.alloc (.cells (arr m) 45)).alloc (.cells (arr (List.replicate 6 0)) 45)).alloc (.cells (arr (List.replicate 6 0)) 45)).setRow (w.heap.size + 1) (arr (List.replicate 6 0))).setRow (w.heap.size + 2) (arr (List.replicate 6 0))) := below_setRow (below_setRow ((((Below.refl _ _).alloc (Nat.le_refl _) _).alloc (by simp) _).alloc (by simp; omega) _) (by omega) _) (by omega) _
  clear HM0 N0 L0 L1
  obtain ⟨W, hW⟩ : ∃ W, (((((w.alloc (.cells (arr m) 45)).alloc (.cells (arr (List.replicate 6 0)) 45)).alloc (.cells (arr (List.replicate 6 0)) 45)).setRow (w.heap.size + 1) (arr (List.replicate 6 0))).setRow (w.heap.size + 2) (arr (List.replicate 6 0))) = W := ⟨_, rfl⟩
  rw [hW] at HX HA HM hb5
  have e0 : (((((w.alloc (.cells (arr m) 45)).alloc (.cells #[.int .i64 0, .int .i64 0, .int .i64 0, .int .i64 0, .int .i64 0, .int .i64 0] 45)).alloc (.cells #[.int .i64 0, .int .i64 0, .int .i64 0, .int .i64 0, .int .i64 0, .int .i64 0] 45)).setRow (w.heap.size + 1) (arr [0, 0, 0, 0, 0, 0])).setRow (w.heap.size + 2) (arr [0, 0, 0, 0, 0, 0])) = W := hW
  rw [e0]
  clear hW e0
  go_loopw [2, 3, 4, 7] (fun a b c i wr => ∃ k : Nat, k ≤ 6 ∧ a = .int .i64 0 ∧ b = .int .i64 0 ∧ c = .int .i64 0 ∧ i = .int .i64 k ∧ Hid (∀ j, j < k → lineOk (nth m j)) ∧ Hid (Blk wr (w.heap.size + 1) 45 (arr (aL m k))) ∧ Hid (Blk wr (w.heap.size + 2) 45 (arr (bL m k))) ∧ Below (w.heap.size + 1) W wr) (fun _ _ _ i _ => 6 - (intOf i).toNat)
  case atStart => exact ⟨0, by omega, rfl, rfl, rfl, rfl, Lib.hid fun j hj => absurd hj (by omega), HA, HX, Below.refl _ _⟩
  case round =>
    obtain ⟨k, hk, rfl, rfl, rfl, rfl, Gk, HAk, HBk, hB⟩ := hrel
    have La := Lib.hid (aL_length m k)
    have Lb := Lib.hid (bL_length m k)
    by_cases hlt : k < 6
    · have ha := HAk.out.cell k
      have hb := HBk.out.cell k
      rw [arr_get (by rw [aL_length]; exact hlt)] at ha
      rw [arr_get (by rw [bL_length]; exact hlt)] at hb
      have hfa := HAk.out.frozen k
      have hfb := HBk.out.frozen k
      have hm := (HM.out.below hB (by omega)).cell k
      rw [arr_get (by rw [hl.out]; exact hlt)] at hm
      by_cases hok : lineOk (nth m k)
      · skip
        rcases line_four hok with hv | hv | hv | hv
        · have E1 := Lib.hid (show bI (firstB (nth m k)) = 0 by rw [hv]; rfl)
          have E2 := Lib.hid (show bI (secondB (nth m k)) = 1 by rw [hv]; rfl)
          have G' := Lib.hid (okStep Gk.out hok)
          rw [hv] at hm
          clear hv hok
          go_wp2_with fail
          go_roundw
          case rel => exact ⟨k + 1, by omega, rfl, rfl, rfl, by go_num, G', ((aStep HAk.out E1.out).far (show w.heap.size + 1 ≠ w.heap.size + 1 + 1 by omega) _).far (show w.heap.size + 1 ≠ w.heap.size + 1 + 1 by omega) _, bStep2 (HBk.out.far (show w.heap.size + 2 ≠ w.heap.size + 1 by omega) _) E2.out, ((hB.setCell (Nat.le_refl _) _).setCell (show w.heap.size + 1 ≤ w.heap.size + 1 + 1 by omega) _).setCell (show w.heap.size + 1 ≤ w.heap.size + 1 + 1 by omega) _⟩
          case measure => simp [intOf]; omega
        · have E1 := Lib.hid (show bI (firstB (nth m k)) = 1 by rw [hv]; rfl)
          have E2 := Lib.hid (show bI (secondB (nth m k)) = 1 by rw [hv]; rfl)
          have G' := Lib.hid (okStep Gk.out hok)
          rw [hv] at hm
          clear hv hok
          go_wp2_with fail
          go_roundw
          case rel => exact ⟨k + 1, by omega, rfl, rfl, rfl, by go_num, G', (aStep HAk.out E1.out).far (show w.heap.size + 1 ≠ w.heap.size + 1 + 1 by omega) _, bStep (HBk.out.far (show w.heap.size + 2 ≠ w.heap.size + 1 by omega) _) E2.out, (hB.setCell (Nat.le_refl _) _).setCell (show w.heap.size + 1 ≤ w.heap.size + 1 + 1 by omega) _⟩
          case measure => simp [intOf]; omega
        · have E1 := Lib.hid (show bI (firstB (nth m k)) = 0 by rw [hv]; rfl)
          have E2 := Lib.hid (show bI (secondB (nth m k)) = 0 by rw [hv]; rfl)
          have G' := Lib.hid (okStep Gk.out hok)
          rw [hv] at hm
          clear hv hok
          go_wp2_with fail
          go_roundw
          case rel => exact ⟨k + 1, by omega, rfl, rfl, rfl, by go_num, G', (aStep HAk.out E1.out).far (show w.heap.size + 1 ≠ w.heap.size + 1 + 1 by omega) _, bStep (HBk.out.far (show w.heap.size + 2 ≠ w.heap.size + 1 by omega) _) E2.out, (hB.setCell (Nat.le_refl _) _).setCell (show w.heap.size + 1 ≤ w.heap.size + 1 + 1 by omega) _⟩
          case measure => simp [intOf]; omega
        · have E1 := Lib.hid (show bI (firstB (nth m k)) = 1 by rw [hv]; rfl)
          have E2 := Lib.hid (show bI (secondB (nth m k)) = 0 by rw [hv]; rfl)
          have G' := Lib.hid (okStep Gk.out hok)
          rw [hv] at hm
          clear hv hok
          go_wp2_with fail
          go_roundw
          case rel => exact ⟨k + 1, by omega, rfl, rfl, rfl, by go_num, G', ((aStep HAk.out E1.out).far (show w.heap.size + 1 ≠ w.heap.size + 1 + 1 by omega) _).far (show w.heap.size + 1 ≠ w.heap.size + 1 + 1 by omega) _, bStep2 (HBk.out.far (show w.heap.size + 2 ≠ w.heap.size + 1 by omega) _) E2.out, ((hB.setCell (Nat.le_refl _) _).setCell (show w.heap.size + 1 ≤ w.heap.size + 1 + 1 by omega) _).setCell (show w.heap.size + 1 ≤ w.heap.size + 1 + 1 by omega) _⟩
          case measure => simp [intOf]; omega
      · have T := any_bad (show k < m.length by rw [hl.out]; exact hlt) hok
        have E1 := Lib.hid (show castF m = 0 by unfold castF; rw [T]; rfl)
        have E2 := Lib.hid (show castS m = 0 by unfold castS; rw [T]; rfl)
        have E3 := Lib.hid (show castE m = 2 by unfold castE; rw [T]; rfl)
        have hb6 := hb5.trans (hB.mono (by omega))
        by_cases h6 : nth m k < 6
        · clear T hok
          go_wp2_with fail
          exact bodyPost_ret (v := .tuple #[.int .i64 0, .int .i64 0, .int .i64 2]) (by simp [results, Tryz.results41, go_sem]) rfl ⟨by rw [E1.out, E2.out, E3.out], hb6⟩
        · have h9 : 9 < nth m k := by unfold lineOk at hok; omega
          clear T hok
          go_wp2_with fail
          exact bodyPost_ret (v := .tuple #[.int .i64 0, .int .i64 0, .int .i64 2]) (by simp [results, Tryz.results41, go_sem]) rfl ⟨by rw [E1.out, E2.out, E3.out], hb6⟩
    · obtain rfl : k = 6 := by omega
      have E1 := Lib.hid (aL_num hl.out Gk.out)
      have E2 := Lib.hid (bL_num hl.out Gk.out)
      have E3 := Lib.hid (show castE m = 0 by unfold castE; rw [any_good hl.out Gk.out]; rfl)
      have hb6 := hb5.trans (hB.mono (by omega))
      have ta := Lib.hid (aL_bts m)
      have tb := Lib.hid (bL_bts m)
      obtain ⟨la, ea⟩ : ∃ l, aL m 6 = l := ⟨_, rfl⟩
      obtain ⟨lb, eb⟩ : ∃ l, bL m 6 = l := ⟨_, rfl⟩
      rw [ea] at HAk E1 ta La
      rw [eb] at HBk E2 tb Lb
      clear ea eb HA HX HM hB Gk hb5
      obtain ⟨a0, a1, a2, a3, a4, a5, rfl⟩ := list_six La.out
      obtain ⟨b0, b1, b2, b3, b4, b5, rfl⟩ := list_six Lb.out
      have ka0 : wr.cell? ⟨w.heap.size + 1, 0, none⟩ = some (.int .i64 a0) := HAk.out.cell 0
      have kb0 : wr.cell? ⟨w.heap.size + 1 + 1, 0, none⟩ = some (.int .i64 b0) := HBk.out.cell 0
      have ka1 : wr.cell? ⟨w.heap.size + 1, 1, none⟩ = some (.int .i64 a1) := HAk.out.cell 1
      have kb1 : wr.cell? ⟨w.heap.size + 1 + 1, 1, none⟩ = some (.int .i64 b1) := HBk.out.cell 1
      have ka2 : wr.cell? ⟨w.heap.size + 1, 2, none⟩ = some (.int .i64 a2) := HAk.out.cell 2
      have kb2 : wr.cell? ⟨w.heap.size + 1 + 1, 2, none⟩ = some (.int .i64 b2) := HBk.out.cell 2
      have ka3 : wr.cell? ⟨w.heap.size + 1, 3, none⟩ = some (.int .i64 a3) := HAk.out.cell 3
      have kb3 : wr.cell? ⟨w.heap.size + 1 + 1, 3, none⟩ = some (.int .i64 b3) := HBk.out.cell 3
      have ka4 : wr.cell? ⟨w.heap.size + 1, 4, none⟩ = some (.int .i64 a4) := HAk.out.cell 4
      have kb4 : wr.cell? ⟨w.heap.size + 1 + 1, 4, none⟩ = some (.int .i64 b4) := HBk.out.cell 4
      have ka5 : wr.cell? ⟨w.heap.size + 1, 5, none⟩ = some (.int .i64 a5) := HAk.out.cell 5
      have kb5 : wr.cell? ⟨w.heap.size + 1 + 1, 5, none⟩ = some (.int .i64 b5) := HBk.out.cell 5
      have C1 : ∀ W, Calls Tryz.prog 71 #[.agg #[.int .i64 a0, .int .i64 a1, .int .i64 a2, .int .i64 a3, .int .i64 a4, .int .i64 a5]] W fun e w' => e = .returned (.int .i64 (numTo [a0, a1, a2, a3, a4, a5] 6)) ∧ Below W.heap.size W w' := fun W => by
        refine (refNumber_any [a0, a1, a2, a3, a4, a5] (Lib.hid rfl) ta.out W).mono ?_
        rintro e w' ⟨rfl, hw'⟩
        exact ⟨rfl, num_below hw'⟩
      have C2 : ∀ W, Calls Tryz.prog 71 #[.agg #[.int .i64 b0, .int .i64 b1, .int .i64 b2, .int .i64 b3, .int .i64 b4, .int .i64 b5]] W fun e w' => e = .returned (.int .i64 (numTo [b0, b1, b2, b3, b4, b5] 6)) ∧ Below W.heap.size W w' := fun W => by
        refine (refNumber_any [b0, b1, b2, b3, b4, b5] (Lib.hid rfl) tb.out W).mono ?_
        rintro e w' ⟨rfl, hw'⟩
        exact ⟨rfl, num_below hw'⟩
      obtain ⟨na, hna⟩ : ∃ n, numTo [a0, a1, a2, a3, a4, a5] 6 = n := ⟨_, rfl⟩
      obtain ⟨nb, hnb⟩ : ∃ n, numTo [b0, b1, b2, b3, b4, b5] 6 = n := ⟨_, rfl⟩
      rw [hna] at E1 C1
      rw [hnb] at E2 C2
      clear hna hnb ta tb HAk HBk La Lb
      go_wp2_with fail
      go_region_held3 (fun w' => w'.cell? ⟨w.heap.size + 1, 0, none⟩ = some (.int .i64 a0) ∧ w'.cell? ⟨w.heap.size + 1, 1, none⟩ = some (.int .i64 a1) ∧ w'.cell? ⟨w.heap.size + 1, 2, none⟩ = some (.int .i64 a2) ∧ w'.cell? ⟨w.heap.size + 1, 3, none⟩ = some (.int .i64 a3) ∧ w'.cell? ⟨w.heap.size + 1, 4, none⟩ = some (.int .i64 a4) ∧ w'.cell? ⟨w.heap.size + 1, 5, none⟩ = some (.int .i64 a5) ∧ w'.cell? ⟨w.heap.size + 1 + 1, 0, none⟩ = some (.int .i64 b0) ∧ w'.cell? ⟨w.heap.size + 1 + 1, 1, none⟩ = some (.int .i64 b1) ∧ w'.cell? ⟨w.heap.size + 1 + 1, 2, none⟩ = some (.int .i64 b2) ∧ w'.cell? ⟨w.heap.size + 1 + 1, 3, none⟩ = some (.int .i64 b3) ∧ w'.cell? ⟨w.heap.size + 1 + 1, 4, none⟩ = some (.int .i64 b4) ∧ w'.cell? ⟨w.heap.size + 1 + 1, 5, none⟩ = some (.int .i64 b5) ∧ Below wr.heap.size wr w')
        (first | exact ⟨ka0, ka1, ka2, ka3, ka4, ka5, kb0, kb1, kb2, kb3, kb4, kb5, (Below.refl _ _).drew⟩ | assumption | exact keepR (by assumption) hbk | exact keepR (W := wr.drew) ⟨ka0, ka1, ka2, ka3, ka4, ka5, kb0, kb1, kb2, kb3, kb4, kb5, (Below.refl _ _).drew⟩ hbk)
        (first
          | (go_at_call 71; (first | (with_reducible refine (C1 _).mono ?_) | (with_reducible refine (C2 _).mono ?_)); rintro e w' ⟨rfl, hbk⟩))
      rename_i hh
      obtain ⟨_, _, _, _, _, _, _, _, _, _, _, _, hz⟩ := hh
      go_wp2_with fail
      exact bodyPost_ret (v := .tuple #[.int .i64 na, .int .i64 nb, .int .i64 0]) (by simp [results, Tryz.results41, go_sem]) rfl ⟨by rw [E1.out, E2.out, E3.out], tr hb6 hz⟩
end Go.Proofs.YtoeflgmdaaefeaaGreatDoor
