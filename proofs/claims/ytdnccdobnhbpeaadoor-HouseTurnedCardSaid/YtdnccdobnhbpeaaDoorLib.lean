/-
  Plain words and lemmas of this seat: lists of ints, and slices that read as lists of ints. No condition.
-/
import Derived.WalkKit
import Derived.WalkSpells
import Derived.WalkLawsBesides
import Derived.Lib.Hide
import Derived.Deep.LoopGhost
import Derived.Handy
namespace Go.Proofs.YtdnccdobnhbpeaaDoor
open Go.RowKit

/-- The element k of a list, 0 beyond its end. -/
def nth (xs : List Int) (k : Nat) : Int := xs.getD k 0
theorem nth_eq {xs : List Int} {k : Nat} (h : k < xs.length) : nth xs k = xs[k] := by simp [nth, h]
theorem nth_mem {xs : List Int} {k : Nat} (h : k < xs.length) : nth xs k ∈ xs := by rw [nth_eq h]; exact List.getElem_mem _
theorem take_succ {xs : List Int} {k : Nat} (h : k < xs.length) : xs.take (k + 1) = xs.take k ++ [nth xs k] := by
  rw [nth_eq h, List.take_succ_eq_append_getElem h]

/-- A slice that begins at p reads as the ints xs. -/
def Reads (w : World) (p : Option Addr) (xs : List Int) : Prop :=
  ∀ k, k < xs.length → ∃ q o, p = some ⟨q, o, none⟩ ∧ w.cell? ⟨q, o + k, none⟩ = some (.int .i64 (nth xs k))
theorem Reads.below {w w' : World} {p : Option Addr} {xs : List Int} (h : Reads w p xs) {B : Nat} (hb : Below B w w') (hB : w.heap.size ≤ B) : Reads w' p xs := fun k hk => by
  obtain ⟨q, o, rfl, hc⟩ := h k hk
  have := World.block_lt_of_cell? w _ hc
  exact ⟨q, o, rfl, (hb.cell (p := ⟨q, o + k, none⟩) (by simp at this ⊢; omega)).trans hc⟩
theorem Reads.nil (w : World) (p : Option Addr) : Reads w p [] := fun k hk => by simp at hk

/-- A value that is a slice and reads as the ints xs. -/
def Got (w : World) (v : Value) (xs : List Int) : Prop := ∃ p c, v = .slice p xs.length c ∧ Reads w p xs
theorem Got.below {w w' : World} {v : Value} {xs : List Int} (h : Got w v xs) {B : Nat} (hb : Below B w w') (hB : w.heap.size ≤ B) : Got w' v xs := by
  obtain ⟨p, c, rfl, hr⟩ := h
  exact ⟨p, c, rfl, hr.below hb hB⟩
theorem Got.nil (w : World) : Got w (.slice none 0 0) [] := ⟨none, 0, rfl, Reads.nil _ _⟩
theorem Got.of_owns {w : World} {B e : Nat} {v : Value} {n : Nat} {xs : List Int} (h : w.ownsRow B e 1 v n (xs.map (Value.int .i64))) : Got w v xs := by
  have hl : xs.length = n := by simpa using h.1
  subst hl
  have hc := fun g hg => h.cells (g := g) hg
  rcases h.2 with ⟨rfl, h0⟩ | ⟨g, cap, cur, rfl, _, _, _⟩
  · refine ⟨none, 0, by rw [h0], fun k hk => by omega⟩
  · refine ⟨_, cap, rfl, fun k hk => ⟨g, 0, rfl, ?_⟩⟩
    have := hc g rfl k (.int .i64 (nth xs k)) (by rw [nth_eq hk]; simp [hk])
    have e : (⟨g, 0, none⟩ : Addr).add k = ⟨g, 0 + k, none⟩ := by unfold Addr.add; split <;> simp_all
    rwa [e] at this

/-- The sum of the first k. -/
def psum (xs : List Int) (k : Nat) : Int := (xs.take k).sum
theorem psum_zero (xs : List Int) : psum xs 0 = 0 := by simp [psum]
theorem psum_succ {xs : List Int} {k : Nat} (h : k < xs.length) : psum xs (k + 1) = psum xs k + nth xs k := by
  unfold psum; rw [take_succ h]; simp
/-- The sum of all. -/
def lsum (xs : List Int) : Int := xs.sum
theorem psum_all (xs : List Int) : psum xs xs.length = lsum xs := by simp [psum, lsum]

/-- All weights are from 0 to 10^15. -/
def Small (xs : List Int) : Prop := ∀ k, k < xs.length → 0 ≤ nth xs k ∧ nth xs k ≤ 1000000000000000
theorem psum_bd {xs : List Int} (h : Small xs) {k : Nat} (hk : k ≤ xs.length) : 0 ≤ psum xs k ∧ psum xs k ≤ k * 1000000000000000 := by
  induction k with
  | zero => simp [psum]
  | succ k ih =>
    have := ih (by omega)
    have := h k (by omega)
    rw [psum_succ (by omega)]
    omega

/-- Some element passes. -/
def anyB (f : Int → Bool) (xs : List Int) : Bool := xs.any f
/-- None of the first k passes. -/
def noneB (f : Int → Bool) (xs : List Int) (k : Nat) : Prop := ∀ i, i < k → f (nth xs i) = false
theorem anyB_true {f : Int → Bool} {xs : List Int} {k : Nat} (hk : k < xs.length) (h : f (nth xs k) = true) : anyB f xs = true := by
  unfold anyB
  rw [List.any_eq_true]
  exact ⟨_, nth_mem hk, h⟩
theorem anyB_false {f : Int → Bool} {xs : List Int} (h : noneB f xs xs.length) : anyB f xs = false := by
  unfold anyB
  rw [List.any_eq_false]
  intro x hx
  obtain ⟨i, hi, rfl⟩ := List.getElem_of_mem hx
  have := h i hi
  rw [nth_eq hi] at this
  simp [this]
theorem noneB_succ {f : Int → Bool} {xs : List Int} {k : Nat} (h : noneB f xs k) (h1 : f (nth xs k) = false) : noneB f xs (k + 1) := fun i hi => by
  by_cases e : i = k
  · subst e; exact h1
  · exact h i (by omega)

/-- Not from lo to hi. -/
def outB (lo hi x : Int) : Bool := decide (x < lo ∨ hi < x)
theorem small_of_anyB {xs : List Int} (h : anyB (outB 0 1000000000000000) xs = false) : Small xs := fun k hk => by
  unfold anyB at h
  rw [List.any_eq_false] at h
  have := h _ (nth_mem hk)
  simp [outB] at this
  omega
theorem not_small_of_anyB {xs : List Int} (h : anyB (outB 0 1000000000000000) xs = true) : ¬ Small xs := fun hs => by
  unfold anyB at h
  rw [List.any_eq_true] at h
  obtain ⟨x, hx, h1⟩ := h
  obtain ⟨i, hi, rfl⟩ := List.getElem_of_mem hx
  have := hs i hi
  rw [nth_eq hi] at this
  simp [outB] at h1
  omega

theorem ret_int {k : IntKind} {a b : Int} (h : a = b) : Ending.returned (.int k a) = .returned (.int k b) := by rw [h]

/-- f 0, .., f (k - 1). -/
def upto {α : Type} (f : Nat → α) (k : Nat) : List α := (List.range k).map f
theorem upto_succ {α : Type} (f : Nat → α) (k : Nat) : upto f (k + 1) = upto f k ++ [f k] := by simp [upto, List.range_succ]
theorem upto_length {α : Type} (f : Nat → α) (k : Nat) : (upto f k).length = k := by simp [upto]

/-- Two steps, the second said of what lay behind the first. -/
theorem tr {A B C : World} (h : Below A.heap.size A B) (k : Below B.heap.size B C) : Below A.heap.size A C := h.trans (k.mono h.size)

/-- A row of n ints of the call's own, of which block g is the memory. -/
def Row (w : World) (B g n : Nat) (xs : List Int) : Prop := xs.length = n ∧ w.ownsRow B 3 1 (.slice (some ⟨g, 0, none⟩) n n) n (xs.map (Value.int .i64))
theorem Row.cell {w : World} {B g n : Nat} {xs : List Int} (h : Row w B g n xs) {k : Nat} (hk : k < n) : w.cell? ⟨g, k, none⟩ = some (.int .i64 (nth xs k)) := by
  rw [h.2.cellAt k (by omega)]
  have := h.1
  rw [nth_eq (by omega)]
  simp [show k < xs.length by omega]
theorem Row.frozen {w : World} {B g n : Nat} {xs : List Int} (h : Row w B g n xs) (k : Nat) : w.frozen? ⟨g, k, none⟩ = false := h.2.frozenAt k
theorem Row.set {w : World} {B g n : Nat} {xs : List Int} (h : Row w B g n xs) (k : Nat) (v : Int) : Row (w.setCell ⟨g, k, none⟩ (.int .i64 v)) B g n (xs.set k v) := by
  refine ⟨by simpa using h.1, ?_⟩
  have := (h.2.stored k (.int .i64 v)).1
  rwa [List.map_set]
theorem Row.lt {w : World} {B g n : Nat} {xs : List Int} (h : Row w B g n xs) : B ≤ g ∧ g < w.heap.size := h.2.lt g rfl
theorem Row.kept {w w' : World} {B g n B' : Nat} {xs : List Int} (h : Row w B g n xs) (hb : Below B' w w') (hg : g < B') : Row w' B g n xs := by
  refine ⟨h.1, h.2.1, ?_⟩
  rcases h.2.2 with h | ⟨g', cap, cur, e, h1, h2, h3⟩
  · exact .inl h
  · refine .inr ⟨g', cap, cur, e, h1, ?_, h3⟩
    have : g = g' := (by simpa using e : g = g' ∧ n = cap).1
    subst this
    rw [hb.block g hg]; exact h2
theorem Row.got {w : World} {B g n : Nat} {xs : List Int} (h : Row w B g n xs) : Got w (.slice (some ⟨g, 0, none⟩) n n) xs := Got.of_owns h.2
theorem Row.reads {w : World} {B g n : Nat} {xs : List Int} (h : Row w B g n xs) : Reads w (some ⟨g, 0, none⟩) xs := fun k hk =>
  ⟨g, 0, rfl, by have := h.1; rw [Nat.zero_add]; exact h.cell (by omega)⟩
theorem Row.made {w : World} {B g n : Nat} (h : w.ownsRow B 3 1 (.slice (some ⟨g, 0, none⟩) n n) n (madeCells #[Value.int .i64 0] n).toList) : Row w B g n (List.replicate n 0) := by
  refine ⟨by simp, ?_⟩
  have e : (madeCells #[Value.int .i64 0] n).toList = (List.replicate n (0 : Int)).map (Value.int .i64) := (toList_madeCells_one _ _).trans (by simp)
  rw [e] at h
  exact h

/-- A list that is filled from its beginning: f 0, .., f (k - 1), and 0 behind. -/
def fillTo (f : Nat → Int) (n k : Nat) : List Int := (List.range n).map fun j => if j < k then f j else 0
theorem fillTo_zero (f : Nat → Int) (n : Nat) : fillTo f n 0 = List.replicate n 0 := by
  unfold fillTo
  apply List.ext_getElem <;> simp
theorem fillTo_length (f : Nat → Int) (n k : Nat) : (fillTo f n k).length = n := by simp [fillTo]
theorem fillTo_succ (f : Nat → Int) (n k : Nat) : (fillTo f n k).set k (f k) = fillTo f n (k + 1) := by
  unfold fillTo
  apply List.ext_getElem
  · simp
  · intro i h1 h2
    simp only [List.length_set, List.length_map, List.length_range] at h1
    rw [List.getElem_set]
    by_cases e : k = i
    · subst e; simp
    · have : i < k ↔ i < k + 1 := by omega
      simp [e, this]
theorem fillTo_all (f : Nat → Int) (n : Nat) : fillTo f n n = (List.range n).map f := by
  unfold fillTo
  apply List.map_congr_left
  intro j hj
  simp at hj
  simp [hj]
theorem fill_map (f : Int → Int) (xs : List Int) : (List.range xs.length).map (fun j => f (nth xs j)) = xs.map f := by
  apply List.ext_getElem
  · simp
  · intro i h1 h2
    simp at h2
    simp [nth_eq h2]

/-- What divides all of a list of numbers that are not negative. -/
def gcdl (xs : List Int) : Int := xs.foldl (fun g x => (Int.gcd g x : Int)) 0
/-- Of the first k. -/
def gcdTo (xs : List Int) (k : Nat) : Int := gcdl (xs.take k)
theorem gcdTo_zero (xs : List Int) : gcdTo xs 0 = 0 := by simp [gcdTo, gcdl]
theorem gcdTo_succ {xs : List Int} {k : Nat} (h : k < xs.length) : gcdTo xs (k + 1) = (Int.gcd (gcdTo xs k) (nth xs k) : Int) := by
  unfold gcdTo gcdl; rw [take_succ h]; simp
theorem gcdTo_all (xs : List Int) : gcdTo xs xs.length = gcdl xs := by simp [gcdTo]
theorem gcd_step (a b : Int) (_ha : 0 ≤ a) (hb : 0 < b) : Int.gcd b (a % b) = Int.gcd a b := by
  obtain ⟨m, rfl⟩ := Int.eq_ofNat_of_zero_le _ha
  obtain ⟨n, rfl⟩ := Int.eq_ofNat_of_zero_le (Int.le_of_lt hb)
  rw [← Int.natCast_emod, Int.gcd_natCast_natCast, Int.gcd_natCast_natCast, Nat.gcd_comm n, ← Nat.gcd_rec, Nat.gcd_comm]
theorem gcd_zero (a : Int) (ha : 0 ≤ a) : (Int.gcd a 0 : Int) = a := by simp; omega

/-- The error of one list of weights. -/
def chk1 (xs : List Int) : Int := if 4096 < xs.length then 5 else if anyB (outB 0 1000000000000000) xs = true ∨ outB 1 1000000000000000 (lsum xs) = true then 2 else 0
/-- The error of the first list that has one. -/
def chkL : List (List Int) → Int
  | [] => 0
  | x :: r => if chk1 x = 0 then chkL r else chk1 x
/-- The list k of some lists. -/
def nthL (ls : List (List Int)) (k : Nat) : List Int := ls.getD k []
theorem nthL_eq {ls : List (List Int)} {k : Nat} (h : k < ls.length) : nthL ls k = ls[k] := by simp [nthL, h]
theorem chkL_all {ls : List (List Int)} (h : ∀ k, k < ls.length → chk1 (nthL ls k) = 0) : chkL ls = 0 := by
  induction ls with
  | nil => rfl
  | cons x r ih =>
    have h0 := h 0 (by simp)
    simp [nthL] at h0
    simp only [chkL, h0, if_true]
    exact ih fun k hk => by have := h (k + 1) (by simp; omega); simpa [nthL] using this
theorem chkL_at {ls : List (List Int)} {k : Nat} (hk : k < ls.length) (h : ∀ i, i < k → chk1 (nthL ls i) = 0) (h1 : chk1 (nthL ls k) ≠ 0) : chkL ls = chk1 (nthL ls k) := by
  induction ls generalizing k with
  | nil => simp at hk
  | cons x r ih =>
    cases k with
    | zero => simp [nthL] at h1 ⊢; simp [chkL, h1]
    | succ k =>
      have h0 := h 0 (by simp)
      simp [nthL] at h0
      simp only [chkL, h0, if_true]
      have := ih (k := k) (by simpa using hk) (fun i hi => by have := h (i + 1) (by omega); simpa [nthL] using this) (by simpa [nthL] using h1)
      simpa [nthL] using this
theorem chk1_ok {xs : List Int} (h : chk1 xs = 0) : xs.length ≤ 4096 ∧ Small xs ∧ 1 ≤ lsum xs ∧ lsum xs ≤ 1000000000000000 := by
  unfold chk1 at h
  split at h
  · simp at h
  · split at h
    · simp at h
    · rename_i h1 h2
      refine ⟨by omega, small_of_anyB (by simpa using fun e => h2 (.inl e)), ?_⟩
      have : outB 1 1000000000000000 (lsum xs) = false := by simpa using fun e => h2 (.inr e)
      simp [outB] at this
      omega

/-- A slice of slices that begins at p reads as the lists ls. -/
def ReadsL (w : World) (p : Option Addr) (ls : List (List Int)) : Prop :=
  ∀ k, k < ls.length → ∃ q o, p = some ⟨q, o, none⟩ ∧ ∃ r c, w.cell? ⟨q, o + k, none⟩ = some (.slice r (nthL ls k).length c) ∧ Reads w r (nthL ls k)
theorem ReadsL.below {w w' : World} {p : Option Addr} {ls : List (List Int)} (h : ReadsL w p ls) {B : Nat} (hb : Below B w w') (hB : w.heap.size ≤ B) : ReadsL w' p ls := fun k hk => by
  obtain ⟨q, o, rfl, r, c, hc, hr⟩ := h k hk
  have := World.block_lt_of_cell? w _ hc
  exact ⟨q, o, rfl, r, c, (hb.cell (p := ⟨q, o + k, none⟩) (by simp at this ⊢; omega)).trans hc, hr.below hb hB⟩

/-- One row of a product of lists: x times the first j of b, added from place i on. -/
def addRow (l : List Int) (i : Nat) (x : Int) (b : List Int) : Nat → List Int
  | 0 => l
  | j + 1 => (addRow l i x b j).set (i + j) (nth (addRow l i x b j) (i + j) + x * nth b j)
/-- The weights of a sum, by the first i of a. -/
def sumTo (n : Nat) (a b : List Int) : Nat → List Int
  | 0 => List.replicate n 0
  | i + 1 => addRow (sumTo n a b i) i (nth a i) b b.length
/-- The weights of a sum. -/
def conv (a b : List Int) : List Int := sumTo (a.length + b.length - 1) a b a.length
theorem addRow_length (l : List Int) (i : Nat) (x : Int) (b : List Int) (j : Nat) : (addRow l i x b j).length = l.length := by
  induction j with
  | zero => rfl
  | succ j ih => simp [addRow, ih]
theorem sumTo_length (n : Nat) (a b : List Int) (i : Nat) : (sumTo n a b i).length = n := by
  induction i with
  | zero => simp [sumTo]
  | succ i ih => simp [sumTo, addRow_length, ih]
/-- No element is below 0. -/
def Pos (xs : List Int) : Prop := ∀ k, 0 ≤ nth xs k
theorem nth_out {xs : List Int} {k : Nat} (h : ¬ k < xs.length) : nth xs k = 0 := by simp [nth, List.getElem?_eq_none (by omega : xs.length ≤ k)]
theorem Small.pos {xs : List Int} (h : Small xs) : Pos xs := fun k => by
  by_cases hk : k < xs.length
  · exact (h k hk).1
  · rw [nth_out hk]; omega
theorem nth_set {xs : List Int} {k j : Nat} {v : Int} (hk : k < xs.length) : nth (xs.set k v) j = if k = j then v else nth xs j := by
  unfold nth
  rw [List.getD_eq_getElem?_getD, List.getD_eq_getElem?_getD, List.getElem?_set]
  by_cases e : k = j
  · subst e; simp [hk]
  · simp [e]
theorem nth_replicate (n : Nat) (v : Int) (k : Nat) : nth (List.replicate n v) k = if k < n then v else 0 := by
  unfold nth
  rw [List.getD_eq_getElem?_getD, List.getElem?_replicate]
  split <;> simp_all
theorem lsum_nil : lsum [] = 0 := rfl
theorem lsum_cons (x : Int) (xs : List Int) : lsum (x :: xs) = x + lsum xs := by simp [lsum]
theorem lsum_set {xs : List Int} {k : Nat} {v : Int} (hk : k < xs.length) : lsum (xs.set k v) = lsum xs - nth xs k + v := by
  induction xs generalizing k with
  | nil => simp at hk
  | cons x r ih =>
    cases k with
    | zero => simp [lsum, nth]; omega
    | succ k =>
      have := ih (k := k) (by simpa using hk)
      simp only [List.set_cons_succ, lsum_cons, this]
      have e : nth (x :: r) (k + 1) = nth r k := by simp [nth]
      rw [e]; omega
theorem nth_le_lsum {xs : List Int} (h : Pos xs) (k : Nat) : nth xs k ≤ lsum xs := by
  induction xs generalizing k with
  | nil => simp [nth, lsum]
  | cons x r ih =>
    have h0 := h 0
    have hr : Pos r := fun j => by have := h (j + 1); simpa [nth] using this
    have hs : 0 ≤ lsum r := by
      have := ih hr 0
      have := hr 0
      omega
    cases k with
    | zero => simp [lsum_cons, nth] at *; omega
    | succ k =>
      have := ih hr k
      simp [nth] at h0
      rw [lsum_cons]
      have e : nth (x :: r) (k + 1) = nth r k := by simp [nth]
      rw [e]; omega
theorem lsum_nonneg {xs : List Int} (h : Pos xs) : 0 ≤ lsum xs := by
  have := nth_le_lsum h 0
  have := h 0
  omega
theorem psum_nonneg {xs : List Int} (h : Pos xs) (k : Nat) : 0 ≤ psum xs k := by
  induction k with
  | zero => simp [psum]
  | succ k ih =>
    by_cases hk : k < xs.length
    · rw [psum_succ hk]; have := h k; omega
    · have e : psum xs (k + 1) = psum xs k := by
        unfold psum; rw [List.take_of_length_le (by omega), List.take_of_length_le (by omega)]
      rw [e]; exact ih
theorem psum_le {xs : List Int} (h : Pos xs) {k : Nat} (_hk : k ≤ xs.length) : psum xs k ≤ lsum xs := by
  have e : psum xs k + (xs.drop k).sum = lsum xs := by
    unfold psum lsum; rw [← List.sum_append, List.take_append_drop]
  have hd : 0 ≤ (xs.drop k).sum := by
    have : Pos (xs.drop k) := fun j => by
      have := h (k + j)
      simpa [nth, List.getElem?_drop] using this
    exact lsum_nonneg this
  omega
theorem lsum_replicate (n : Nat) : lsum (List.replicate n 0) = 0 := by
  induction n with
  | zero => rfl
  | succ n ih => rw [List.replicate_succ, lsum_cons, ih]; rfl
theorem addRow_facts {l : List Int} {i : Nat} {x : Int} {b : List Int} (hl : Pos l) (hx : 0 ≤ x) (hb : Pos b) (hin : i + b.length ≤ l.length) {j : Nat} (hj : j ≤ b.length) :
    Pos (addRow l i x b j) ∧ lsum (addRow l i x b j) = lsum l + x * psum b j := by
  induction j with
  | zero => simp [addRow, psum, hl]
  | succ j ih =>
    obtain ⟨h1, h2⟩ := ih (by omega)
    have hlen := addRow_length l i x b j
    have hp : 0 ≤ x * nth b j := Int.mul_nonneg hx (hb j)
    refine ⟨fun k => ?_, ?_⟩
    · simp only [addRow]
      rw [nth_set (by omega)]
      have := h1 k
      have := h1 (i + j)
      split <;> omega
    · simp only [addRow]
      rw [lsum_set (by omega), h2, psum_succ (by omega), Int.mul_add]
      omega
theorem sumTo_facts {n : Nat} {a b : List Int} (ha : Pos a) (hb : Pos b) {i : Nat} (hi : i ≤ a.length) (hn : a.length + b.length ≤ n + 1) : Pos (sumTo n a b i) ∧ lsum (sumTo n a b i) = psum a i * lsum b := by
  induction i with
  | zero => exact ⟨fun k => by simp only [sumTo]; rw [nth_replicate]; split <;> omega, by simp [sumTo, lsum_replicate, psum]⟩
  | succ i ih =>
    obtain ⟨h1, h2⟩ := ih (by omega)
    have := addRow_facts (i := i) (x := nth a i) (b := b) (j := b.length) h1 (ha i) hb (by rw [sumTo_length]; omega) (Nat.le_refl _)
    refine ⟨this.1, ?_⟩
    simp only [sumTo]
    rw [this.2, h2, psum_all, psum_succ (by omega), Int.add_mul]
/-- What the walk of a sum asks at each step. -/
theorem conv_step {n : Nat} {a b : List Int} (ha : Pos a) (hb : Pos b) (hn : a.length + b.length ≤ n + 1) (hle : lsum a * lsum b ≤ 1000000000000000) {i j : Nat} (hi : i < a.length) (hj : j < b.length) :
    0 ≤ nth (addRow (sumTo n a b i) i (nth a i) b j) (i + j) ∧ 0 ≤ nth a i * nth b j ∧ nth (addRow (sumTo n a b i) i (nth a i) b j) (i + j) + nth a i * nth b j ≤ 1000000000000000 := by
  obtain ⟨h1, h2⟩ := sumTo_facts (n := n) ha hb (show i ≤ a.length by omega) hn
  have h3 := addRow_facts (i := i) (x := nth a i) (b := b) (j := j) h1 (ha i) hb (by rw [sumTo_length]; omega) (by omega)
  have h4 := addRow_facts (i := i) (x := nth a i) (b := b) (j := j + 1) h1 (ha i) hb (by rw [sumTo_length]; omega) (by omega)
  have h5 := nth_le_lsum h4.1 (i + j)
  have e : nth (addRow (sumTo n a b i) i (nth a i) b (j + 1)) (i + j) = nth (addRow (sumTo n a b i) i (nth a i) b j) (i + j) + nth a i * nth b j := by
    simp only [addRow]
    rw [nth_set (by rw [addRow_length, sumTo_length]; omega), if_pos rfl]
  rw [e, h4.2, h2] at h5
  have hpb := psum_le hb (show j + 1 ≤ b.length by omega)
  have hpa := psum_le ha (show i + 1 ≤ a.length by omega)
  have h6 : psum a i * lsum b + nth a i * psum b (j + 1) ≤ psum a (i + 1) * lsum b := by
    rw [psum_succ hi, Int.add_mul]
    have := Int.mul_le_mul_of_nonneg_left hpb (ha i)
    omega
  have h7 : psum a (i + 1) * lsum b ≤ lsum a * lsum b := Int.mul_le_mul_of_nonneg_right hpa (lsum_nonneg hb)
  exact ⟨h3.1 _, Int.mul_nonneg (ha i) (hb j), by omega⟩
end Go.Proofs.YtdnccdobnhbpeaaDoor
