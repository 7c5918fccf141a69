/-
  The reference of chapter 4: the hexagrams of a cast.
-/
import Derived.Test.YtojlopfjhhiilaaGreatDoorHxRb
namespace Go.Proofs.YtojlopfjhhiilaaGreatDoor
open Go Go.RowKit
set_option linter.unusedVariables false

theorem num_six : ∀ b0 b1 b2 b3 b4 b5 : Bool, numTo [bI b0, bI b1, bI b2, bI b3, bI b4, bI b5] 6 = hexTo (fun i => [b0, b1, b2, b3, b4, b5].getD i false) 6 := by decide +kernel
theorem numTo_congr {l l' : List Int} (h : ∀ k, k < 6 → nth l k = nth l' k) (k : Nat) : numTo l k = numTo l' k := by
  induction k with
  | zero => rfl
  | succ k ih => unfold numTo; rw [ih, h (5 - k) (by omega)]
theorem num_hex {l : List Int} {g : Nat → Bool} (h : ∀ k, k < 6 → nth l k = bI (g k)) : numTo l 6 = hexTo g 6 := by
  rw [numTo_congr (l' := [bI (g 0), bI (g 1), bI (g 2), bI (g 3), bI (g 4), bI (g 5)]) (fun k hk => by
    rw [h k hk]
    have : k = 0 ∨ k = 1 ∨ k = 2 ∨ k = 3 ∨ k = 4 ∨ k = 5 := by omega
    rcases this with rfl | rfl | rfl | rfl | rfl | rfl <;> rfl), num_six]
  refine hexTo_congr fun i hi => ?_
  have : i = 0 ∨ i = 1 ∨ i = 2 ∨ i = 3 ∨ i = 4 ∨ i = 5 := by omega
  rcases this with rfl | rfl | rfl | rfl | rfl | rfl <;> rfl

def lineOk (v : Int) : Prop := 6 ≤ v ∧ v ≤ 9
theorem any_bad {m : List Int} {k : Nat} (hk : k < m.length) (h : ¬ lineOk (nth m k)) : anyB (outB 6 9) m = true := by
  simp only [anyB, List.any_eq_true]
  refine ⟨nth m k, nth_mem hk, ?_⟩
  simp only [outB, decide_eq_true_eq]
  unfold lineOk at h
  omega
theorem any_good {m : List Int} (hl : m.length = 6) (h : ∀ j, j < 6 → lineOk (nth m j)) : anyB (outB 6 9) m = false := by
  rw [Bool.eq_false_iff]
  intro h1
  simp only [anyB, List.any_eq_true] at h1
  obtain ⟨x, hx, h2⟩ := h1
  obtain ⟨i, hi, rfl⟩ := List.getElem_of_mem hx
  have := h i (by omega)
  rw [nth_eq hi] at this
  simp only [outB, decide_eq_true_eq] at h2
  unfold lineOk at this
  omega
def aL (m : List Int) (k : Nat) : List Int := fillTo (fun j => bI (firstB (nth m j))) 6 k
def bL (m : List Int) (k : Nat) : List Int := fillTo (fun j => bI (secondB (nth m j))) 6 k
theorem aL_length (m : List Int) (k : Nat) : (aL m k).length = 6 := fillTo_length _ _ _
theorem bL_length (m : List Int) (k : Nat) : (bL m k).length = 6 := fillTo_length _ _ _
theorem aL_nth (m : List Int) {k : Nat} (hk : k < 6) : nth (aL m 6) k = bI (firstB (nth m k)) := by
  unfold aL; rw [fillTo_all, nth_eq (by simpa using hk)]; simp
theorem bL_nth (m : List Int) {k : Nat} (hk : k < 6) : nth (bL m 6) k = bI (secondB (nth m k)) := by
  unfold bL; rw [fillTo_all, nth_eq (by simpa using hk)]; simp
theorem aL_bts (m : List Int) : Bts (aL m 6) := fun k hk => by rw [aL_nth m hk]; exact bI_bd _
theorem bL_bts (m : List Int) : Bts (bL m 6) := fun k hk => by rw [bL_nth m hk]; exact bI_bd _
theorem aL_num {m : List Int} (hl : m.length = 6) (h : ∀ j, j < 6 → lineOk (nth m j)) : castF m = numTo (aL m 6) 6 := by
  unfold castF; rw [any_good hl h]; exact (num_hex fun k hk => aL_nth m hk).symm
theorem bL_num {m : List Int} (hl : m.length = 6) (h : ∀ j, j < 6 → lineOk (nth m j)) : castS m = numTo (bL m 6) 6 := by
  unfold castS; rw [any_good hl h]; exact (num_hex fun k hk => bL_nth m hk).symm
theorem line_four {v : Int} (h : lineOk v) : v = 6 ∨ v = 7 ∨ v = 8 ∨ v = 9 := by unfold lineOk at h; omega

theorem Blk.range {w : World} {g : Nat} {t : TypeId} {xs : List Int} (h : Blk w g t (arr xs)) : w.rangeAt g 0 (xs.map (Value.int .i64)) := fun j v hj => by
  rw [Nat.zero_add, h.cell]
  simpa [arr] using hj
theorem range_tr {w w' : World} (hb : Below w.heap.size w w') {g o : Nat} {cs : List Value} (h : w.rangeAt g o cs) : w'.rangeAt g o cs := fun j v hj => cell_tr hb (h j v hj)
theorem aStep {wr : World} {g : Nat} {t : TypeId} {m : List Int} {k : Nat} {a : Int} (h : Blk wr g t (arr (aL m k))) (e : bI (firstB (nth m k)) = a) : Blk (wr.setCell ⟨g, k, none⟩ (.int .i64 a)) g t (arr (aL m (k + 1))) := by
  have := h.set_ k (.int .i64 (bI (firstB (nth m k))))
  unfold aL at this
  rw [arr_set, fillTo_succ (fun j => bI (firstB (nth m j))) 6 k, e] at this
  exact this
theorem bStep {wr : World} {g : Nat} {t : TypeId} {m : List Int} {k : Nat} {b : Int} (h : Blk wr g t (arr (bL m k))) (e : bI (secondB (nth m k)) = b) : Blk (wr.setCell ⟨g, k, none⟩ (.int .i64 b)) g t (arr (bL m (k + 1))) := by
  have := h.set_ k (.int .i64 (bI (secondB (nth m k))))
  unfold bL at this
  rw [arr_set, fillTo_succ (fun j => bI (secondB (nth m j))) 6 k, e] at this
  exact this
theorem bStep2 {wr : World} {g : Nat} {t : TypeId} {m : List Int} {k : Nat} {x b : Int} (h : Blk wr g t (arr (bL m k))) (e : bI (secondB (nth m k)) = b) : Blk ((wr.setCell ⟨g, k, none⟩ (.int .i64 x)).setCell ⟨g, k, none⟩ (.int .i64 b)) g t (arr (bL m (k + 1))) := by
  have := (h.set_ k (.int .i64 x)).set_ k (.int .i64 (bI (secondB (nth m k))))
  unfold bL at this
  rw [arr_set, arr_set, List.set_set, fillTo_succ (fun j => bI (secondB (nth m j))) 6 k, e] at this
  exact this
theorem okStep {m : List Int} {k : Nat} (h : ∀ j, j < k → lineOk (nth m j)) (hk : lineOk (nth m k)) : ∀ j, j < k + 1 → lineOk (nth m j) := fun j hj => by
  rcases (by omega : j < k ∨ j = k) with h1 | rfl
  · exact h j h1
  · exact hk

theorem keepR {a b : Nat} {a0 a1 a2 a3 a4 a5 b0 b1 b2 b3 b4 b5 : Int} {w5 W W' : World} (h : W.cell? ⟨a, 0, none⟩ = some (.int .i64 a0) ∧ W.cell? ⟨a, 1, none⟩ = some (.int .i64 a1) ∧ W.cell? ⟨a, 2, none⟩ = some (.int .i64 a2) ∧ W.cell? ⟨a, 3, none⟩ = some (.int .i64 a3) ∧ W.cell? ⟨a, 4, none⟩ = some (.int .i64 a4) ∧ W.cell? ⟨a, 5, none⟩ = some (.int .i64 a5) ∧ W.cell? ⟨b, 0, none⟩ = some (.int .i64 b0) ∧ W.cell? ⟨b, 1, none⟩ = some (.int .i64 b1) ∧ W.cell? ⟨b, 2, none⟩ = some (.int .i64 b2) ∧ W.cell? ⟨b, 3, none⟩ = some (.int .i64 b3) ∧ W.cell? ⟨b, 4, none⟩ = some (.int .i64 b4) ∧ W.cell? ⟨b, 5, none⟩ = some (.int .i64 b5) ∧ Below w5.heap.size w5 W) (hb : Below W.heap.size W W') : W'.cell? ⟨a, 0, none⟩ = some (.int .i64 a0) ∧ W'.cell? ⟨a, 1, none⟩ = some (.int .i64 a1) ∧ W'.cell? ⟨a, 2, none⟩ = some (.int .i64 a2) ∧ W'.cell? ⟨a, 3, none⟩ = some (.int .i64 a3) ∧ W'.cell? ⟨a, 4, none⟩ = some (.int .i64 a4) ∧ W'.cell? ⟨a, 5, none⟩ = some (.int .i64 a5) ∧ W'.cell? ⟨b, 0, none⟩ = some (.int .i64 b0) ∧ W'.cell? ⟨b, 1, none⟩ = some (.int .i64 b1) ∧ W'.cell? ⟨b, 2, none⟩ = some (.int .i64 b2) ∧ W'.cell? ⟨b, 3, none⟩ = some (.int .i64 b3) ∧ W'.cell? ⟨b, 4, none⟩ = some (.int .i64 b4) ∧ W'.cell? ⟨b, 5, none⟩ = some (.int .i64 b5) ∧ Below w5.heap.size w5 W' := by
  obtain ⟨h0, h1, h2, h3, h4, h5, h6, h7, h8, h9, h10, h11, h12⟩ := h
  exact ⟨cell_tr hb h0, cell_tr hb h1, cell_tr hb h2, cell_tr hb h3, cell_tr hb h4, cell_tr hb h5, cell_tr hb h6, cell_tr hb h7, cell_tr hb h8, cell_tr hb h9, cell_tr hb h10, cell_tr hb h11, tr h12 hb⟩
theorem list_six {l : List Int} (h : l.length = 6) : ∃ a0 a1 a2 a3 a4 a5, l = [a0, a1, a2, a3, a4, a5] := by
  match l, h with
  | [a0, a1, a2, a3, a4, a5], _ => exact ⟨a0, a1, a2, a3, a4, a5, rfl⟩
theorem num_below {w w' : World} {l : List Int} (h : w.alloc (.cells (arr l) 56) = w') : Below w.heap.size w w' := h ▸ below1 _ _

end Go.Proofs.YtojlopfjhhiilaaGreatDoor
