/-
  What Pick of package odds returns, for every list and value.
-/
import Derived.Test.YtnpnnfbmnlgioaaH
namespace Go.Proofs.Ytnpnnfbmnlgioaa
open Go.RowKit Go.Shelf

/-- The first outcome below whose sum a value lies. -/
def pickAt (xs : List Int) (v : Int) : Option Nat := (List.range xs.length).find? fun k => decide (v < psum xs (k + 1))
/-- What Pick returns. -/
def sPick (xs : List Int) (v : Int) : Int × Int :=
  if chk1 xs ≠ 0 then (0, chk1 xs) else if v < 0 then (0, 3) else match pickAt xs v with | some k => ((k : Int), 0) | none => (0, 3)

attribute [local go_sem] Oper.semAt_some

set_option maxRecDepth 100000 in
set_option maxHeartbeats 2000000 in
theorem pick_in (p : Option Addr) (xs : List Int) (c : Nat) (v : Int) (w : World) (hl : xs.length ≤ 1000000000000000) (hR : Reads w p xs) (h0 : chk1 xs = 0) (hv : 0 ≤ v) :
    CallsIn Fence.wide 3 Try.prog 39 #[.slice p xs.length c, .int .i64 v] w fun e W' => e = .returned (.tuple #[.int .i64 (sPick xs v).1, .int .i64 (sPick xs v).2]) ∧ Below w.heap.size w W' := by
  obtain ⟨a1, a2, a3, a4⟩ := chk1_ok h0
  have He := Lib.hid h0
  clear h0
  refine callsIn_of_wp_marks Try.func39 rfl trivial ?_ rfl
  simp only [Try.ntmps39, List.size_toArray, List.length_cons, List.length_nil, Nat.reduceAdd, Nat.reduceSub, Array.replicate_succ, Array.replicate_zero, List.push_toArray, List.append_toArray, List.nil_append, List.cons_append]
  gi_wp2_with fail
  refine ⟨trivial, ?_⟩
  have hC := check1 p xs c (w.heap.size + 3) ((((w.alloc (.cells #[.int .i64 v] 3)).alloc (.cells #[.int .i64 0] 3)).alloc (.cells #[.int .i64 0] 24)).alloc (.cells #[.slice p xs.length c] 34)) (by omega) (by go_simp) (hR.below ((((below1 _ _).alloc (by simp) _).alloc (by simp; omega) _).alloc (by simp; omega) _) (Nat.le_refl _))
  refine (callsIn_wide.2 hC).mono ?_
  rintro e w1 ⟨rfl, hb1⟩
  rw [He.out]
  have hB1 : Below w.heap.size w w1 := ((((below1 _ _).alloc (by simp) _).alloc (by simp; omega) _).alloc (by simp; omega) _).trans (hb1.mono (by simp; omega))
  have kv : w1.cell? ⟨w.heap.size, 0, none⟩ = some (.int .i64 v) := (hb1.cell (p := ⟨w.heap.size, 0, none⟩) (by simp; omega)).trans (by go_simp)
  have k4 : w1.cell? ⟨w.heap.size + 1, 0, none⟩ = some (.int .i64 0) := (hb1.cell (p := ⟨w.heap.size + 1, 0, none⟩) (by simp <;> omega)).trans (by go_simp)
  have k5 : w1.cell? ⟨w.heap.size + 1 + 1, 0, none⟩ = some (.int .i64 0) := (hb1.cell (p := ⟨w.heap.size + 1 + 1, 0, none⟩) (by simp <;> omega)).trans (by go_simp)
  have f4 : w1.frozen? ⟨w.heap.size + 1, 0, none⟩ = false := (hb1.frozen (p := ⟨w.heap.size + 1, 0, none⟩) (by simp <;> omega)).trans (by go_simp)
  have f5 : w1.frozen? ⟨w.heap.size + 1 + 1, 0, none⟩ = false := (hb1.frozen (p := ⟨w.heap.size + 1 + 1, 0, none⟩) (by simp <;> omega)).trans (by go_simp)
  have hsz : w.heap.size + 3 < w1.heap.size := by have := hb1.size; simp at this; omega
  clear hb1 hC
  gi_wp2_with fail
  refine ⟨trivial, ?_⟩
  refine (sums_in Fence.wide (3 - 1) trivial rfl _ _ _ _).mono ?_
  rintro e w' ⟨rfl, rfl⟩
  gi_wp2_with fail
  have hB2 := hB1.alloc hB1.size (.cells #[.slice p xs.length c] 34)
  have hbb := below1 w1 (.cells #[.slice p xs.length c] 34)
  have kv' := (hbb.cell (p := ⟨w.heap.size, 0, none⟩) (by show w.heap.size < _; omega)).trans kv
  have k4' := (hbb.cell (p := ⟨w.heap.size + 1, 0, none⟩) (by show w.heap.size + 1 < _; omega)).trans k4
  have k5' := (hbb.cell (p := ⟨w.heap.size + 1 + 1, 0, none⟩) (by show w.heap.size + 1 + 1 < _; omega)).trans k5
  have f4' := (hbb.frozen (p := ⟨w.heap.size + 1, 0, none⟩) (by show w.heap.size + 1 < _; omega)).trans f4
  have f5' := (hbb.frozen (p := ⟨w.heap.size + 1 + 1, 0, none⟩) (by show w.heap.size + 1 + 1 < _; omega)).trans f5
  refine wpIn_rangeFunc_ownG (F := Fence.wide) rfl (by omega) (gf := 73) (lb := #[.pointer (some ⟨w1.heap.size, 0, none⟩)]) rfl trivial (enters_of Try.func73 (by kernel_rfl) rfl)
    (sums_stops Fence.wide (3 - 1) trivial rfl (by omega) w1.heap.size w1.heap.size p xs c a1 a2 _ (by simp) (by simp) (by rw [World.cell?_alloc_at _ _ _ _ rfl]; rfl) (fun k hk => by
      obtain ⟨q, o, e, hq, h⟩ := (hR.below hB1 (Nat.le_refl _)).lt k hk
      exact ⟨q, o, e, hq, by rw [World.cell?_alloc_past _ _ _ hq]; exact h⟩)) belowK_t (belowK_b (by simp)) (Below.refl _ _) (fun _ => rfl)
    (fun pre W => ((∀ x ∈ pre, x.2 ≤ v) ∧ W.cell? ⟨w.heap.size, 0, none⟩ = some (.int .i64 v) ∧ (W.cell? ⟨w.heap.size + 1, 0, none⟩ = some (.int .i64 0) ∧ W.frozen? ⟨w.heap.size + 1, 0, none⟩ = false) ∧ (W.cell? ⟨w.heap.size + 1 + 1, 0, none⟩ = some (.int .i64 0) ∧ W.frozen? ⟨w.heap.size + 1 + 1, 0, none⟩ = false)) ∧ Below w.heap.size w W)
    (fun c pre W => (c = .ret ∧ ∃ ini last, pre = ini ++ [last] ∧ (∀ x ∈ ini, x.2 ≤ v) ∧ v < last.2 ∧ W.cell? ⟨w.heap.size + 1, 0, none⟩ = some (.int .i64 (last.1 : Int)) ∧ W.cell? ⟨w.heap.size + 1 + 1, 0, none⟩ = some (.int .i64 0)) ∧ Below w.heap.size w W)
    (OwnFrom.and (Own.from (fun s A B row hs hg hr => ⟨hs.1, cell_kept hs.2.1 hg hr, ⟨cell_kept hs.2.2.1.1 hg hr, (frozen_kept hs.2.2.1.1 hg hr).trans hs.2.2.1.2⟩, ⟨cell_kept hs.2.2.2.1 hg hr, (frozen_kept hs.2.2.2.1 hg hr).trans hs.2.2.2.2⟩⟩) _) (ownFrom_below (Nat.le_refl _) (by simp; omega)))
    (fun c => OwnFrom.and (Own.from (fun s A B row hs hg hr => by obtain ⟨hc, ini, last, e1, e2, e3, e4, e5⟩ := hs; exact ⟨hc, ini, last, e1, e2, e3, cell_kept e4 hg hr, cell_kept e5 hg hr⟩) _) (ownFrom_below (Nat.le_refl _) (by simp; omega)))
    ⟨⟨by simp, kv', ⟨k4', f4'⟩, ⟨k5', f5'⟩⟩, hB2⟩
    (fun x => { tmps := #[.slice p xs.length c, .int .i64 v, undef, .pointer (some ⟨w.heap.size, 0, none⟩), .pointer (some ⟨w.heap.size + 1, 0, none⟩), .pointer (some ⟨w.heap.size + 1 + 1, 0, none⟩), .int .i64 0, .int .i64 (x.1 : Int), .int .i64 x.2, .slice p xs.length c, .slice (some ⟨w.heap.size + 1 + 1 + 1, 0, none⟩) 1 1, .int .i64 0, .int .i64 0, .bool false, undef, .int .i64 v, .bool (decide (v < 0)), .slice p xs.length c, .func (.func 73) #[] #[.pointer (some ⟨w1.heap.size, 0, none⟩)], .int .i64 (x.1 : Int), .int .i64 x.2, undef, undef, undef, undef], defers := [] }) ?assign ?body ?done ?stop
  case assign =>
    intro l x W K hK
    gi_wp2
    exact hK
  case body =>
    rintro l pre x W ⟨⟨hp, hcv, ⟨hc4, hf4⟩, ⟨hc5, hf5⟩⟩, hB⟩ _
    gi_wp2
    · have hx : v < x.2 := by assumption
      refine ⟨((KeepsOthers.setCell _ _ _).trans (KeepsOthers.setCell _ _ _)).from _, ⟨rfl, pre, x, rfl, hp, hx, ?_, ?_⟩, (hB.setCell (p := ⟨w.heap.size + 1, 0, none⟩) (by simp) _).setCell (p := ⟨w.heap.size + 1 + 1, 0, none⟩) (by simp <;> omega) _⟩
      · have e := World.cell?_setCell_same' W ⟨w.heap.size + 1, 0, none⟩ (.int .i64 (x.1 : Int)) (by rw [hc4]; rfl)
        rw [← e]
        exact World.cell?_of_block (Below.heap_setCell _ _ _ _ (by simp))
      · exact World.cell?_setCell_same' _ _ _ (by rw [show (W.setCell ⟨w.heap.size + 1, 0, none⟩ (.int .i64 (x.1 : Int))).cell? ⟨w.heap.size + 1 + 1, 0, none⟩ = some (.int .i64 0) from (World.cell?_of_block (Below.heap_setCell _ _ _ _ (by simp))).trans hc5]; rfl)
    · have hx : x.2 ≤ v := by assumption
      exact ⟨KeepsFrom.refl _ _, Below.refl _ _, ⟨fun y hy => (List.mem_append.1 hy).elim (hp y) (fun e => by simp at e; subst e; exact hx), hcv, ⟨hc4, hf4⟩, ⟨hc5, hf5⟩⟩, hB⟩
  case done =>
    rintro D ys W hD rfl ⟨⟨hne, hcv, ⟨hc4, hf4⟩, ⟨hc5, hf5⟩⟩, hB⟩ hK
    have hpk : pickAt xs v = none := by
      unfold pickAt
      rw [List.find?_eq_none]
      intro k hk
      have := hne (k, psum xs (k + 1)) (by simp only [upto, List.mem_map, List.mem_range]; exact ⟨k, by simpa using hk, rfl⟩)
      simp at this ⊢
      exact this
    have Hs : Hid (sPick xs v = (0, 3)) := by show _ = _; unfold sPick; rw [if_neg (by rw [He.out]; simp), if_neg (by omega), hpk]
    clear hpk hne
    gi_wp2
    have hK' := ((KeepsOthers.setCell W ⟨w.heap.size + 1, 0, none⟩ (.int .i64 0)).trans (KeepsOthers.setCell _ ⟨w.heap.size + 1 + 1, 0, none⟩ (.int .i64 3))).same D _ hK rfl
    have g5 : ((W.setCell ⟨w.heap.size + 1, 0, none⟩ (.int .i64 0)).setCell ⟨w.heap.size + 1 + 1, 0, none⟩ (.int .i64 3)).cell? ⟨w.heap.size + 1 + 1, 0, none⟩ = some (.int .i64 3) :=
      World.cell?_setCell_same' _ _ _ (by rw [show (W.setCell ⟨w.heap.size + 1, 0, none⟩ (.int .i64 0)).cell? ⟨w.heap.size + 1 + 1, 0, none⟩ = some (.int .i64 0) from (World.cell?_of_block (Below.heap_setCell _ _ _ _ (by simp))).trans hc5]; rfl)
    have g4 : ((W.setCell ⟨w.heap.size + 1, 0, none⟩ (.int .i64 0)).setCell ⟨w.heap.size + 1 + 1, 0, none⟩ (.int .i64 3)).cell? ⟨w.heap.size + 1, 0, none⟩ = some (.int .i64 0) :=
      (World.cell?_of_block (Below.heap_setCell _ _ _ _ (by simp))).trans (World.cell?_setCell_same' _ _ _ (by rw [hc4]; rfl))
    refine ⟨by simp, .inl ⟨_, _, rfl, run_takeDeferred hK', ?_⟩⟩
    have j4 := cell_kept g4 (grownBy_putObj' _ D (.deferred none)) (fun r e => by cases e; exact ⟨_, hK', rfl⟩)
    have j5 := cell_kept g5 (grownBy_putObj' _ D (.deferred none)) (fun r e => by cases e; exact ⟨_, hK', rfl⟩)
    refine ⟨.tuple #[.int .i64 0, .int .i64 3], by simp [results, Try.f39, go_sem, j4, j5], by rw [Hs.out], ?_⟩
    exact ((hB.setCell (p := ⟨w.heap.size + 1, 0, none⟩) (by simp) _).setCell (p := ⟨w.heap.size + 1 + 1, 0, none⟩) (by simp <;> omega) _).trans (belowK_b (w := w) (Nat.le_refl _) _ D _ _ (by simp at hD; omega) hK' rfl rfl)
  case stop =>
    rintro D c pre W hD ⟨k, hk, rfl⟩ ⟨⟨rfl, ini, last, e1, e2, e3, h4, h5⟩, hB⟩ hK
    obtain ⟨k', rfl⟩ : ∃ k', k = k' + 1 := by
      cases k with
      | zero => simp [upto] at e1
      | succ k' => exact ⟨k', rfl⟩
    rw [upto_succ] at e1
    obtain ⟨rfl, e5⟩ := List.append_inj' e1 rfl
    obtain rfl : (k', psum xs (k' + 1)) = last := by simpa using e5
    have hpk : pickAt xs v = some k' := by
      unfold pickAt
      rw [List.find?_range_eq_some]
      refine ⟨by simpa using e3, by simp; omega, fun j hj => ?_⟩
      have := e2 (j, psum xs (j + 1)) (by simp only [upto, List.mem_map, List.mem_range]; exact ⟨j, hj, rfl⟩)
      simp at this ⊢
      exact this
    have Hs : Hid (sPick xs v = ((k' : Int), 0)) := by show _ = _; unfold sPick; rw [if_neg (by rw [He.out]; simp), if_neg (by omega), hpk]
    clear hpk e1 e2 e3 e5
    gi_wp2
    refine ⟨by simp, .inl ⟨_, _, rfl, run_takeDeferred hK, ?_⟩⟩
    have j4 := cell_kept h4 (grownBy_putObj' _ D (.deferred none)) (fun r e => by cases e; exact ⟨_, hK, rfl⟩)
    have j5 := cell_kept h5 (grownBy_putObj' _ D (.deferred none)) (fun r e => by cases e; exact ⟨_, hK, rfl⟩)
    refine ⟨.tuple #[.int .i64 (k' : Int), .int .i64 0], by simp [results, Try.f39, go_sem, j4, j5], by rw [Hs.out], ?_⟩
    exact hB.trans (belowK_b (w := w) (Nat.le_refl _) W D _ _ (by simp at hD; omega) hK rfl rfl)

set_option maxHeartbeats 1000000 in
theorem pick_neg (p : Option Addr) (xs : List Int) (c : Nat) (v : Int) (w : World) (hl : xs.length ≤ 1000000000000000) (hR : Reads w p xs) (h0 : chk1 xs = 0) (hv : v < 0) :
    Calls Try.prog 39 #[.slice p xs.length c, .int .i64 v] w fun e W' => e = .returned (.tuple #[.int .i64 (sPick xs v).1, .int .i64 (sPick xs v).2]) ∧ Below w.heap.size w W' := by
  have He := Lib.hid h0
  have Hs : Hid (sPick xs v = (0, 3)) := by show _ = _; unfold sPick; rw [if_neg (by rw [h0]; simp), if_pos hv]
  clear h0
  have hC := check1 p xs c (w.heap.size + 3) ((((w.alloc (.cells #[.int .i64 v] 3)).alloc (.cells #[.int .i64 0] 3)).alloc (.cells #[.int .i64 0] 24)).alloc (.cells #[.slice p xs.length c] 34)) (by omega) (by go_simp) (hR.below ((((below1 _ _).alloc (by simp) _).alloc (by simp; omega) _).alloc (by simp; omega) _) (Nat.le_refl _))
  have HC := Lib.hid hC
  clear hC
  go_enter Try.func39, Try.ntmps39
  go_wp2_with fail
  refine HC.out.mono ?_
  rintro e w1 ⟨rfl, hb1⟩
  rw [He.out]
  have hB1 : Below w.heap.size w w1 := ((((below1 _ _).alloc (by simp) _).alloc (by simp; omega) _).alloc (by simp; omega) _).trans (hb1.mono (by simp; omega))
  have kv : w1.cell? ⟨w.heap.size, 0, none⟩ = some (.int .i64 v) := (hb1.cell (p := ⟨w.heap.size, 0, none⟩) (by simp; omega)).trans (by go_simp)
  have k4 : w1.cell? ⟨w.heap.size + 1, 0, none⟩ = some (.int .i64 0) := (hb1.cell (p := ⟨w.heap.size + 1, 0, none⟩) (by simp <;> omega)).trans (by go_simp)
  have k5 : w1.cell? ⟨w.heap.size + 1 + 1, 0, none⟩ = some (.int .i64 0) := (hb1.cell (p := ⟨w.heap.size + 1 + 1, 0, none⟩) (by simp <;> omega)).trans (by go_simp)
  have f4 : w1.frozen? ⟨w.heap.size + 1, 0, none⟩ = false := (hb1.frozen (p := ⟨w.heap.size + 1, 0, none⟩) (by simp <;> omega)).trans (by go_simp)
  have f5 : w1.frozen? ⟨w.heap.size + 1 + 1, 0, none⟩ = false := (hb1.frozen (p := ⟨w.heap.size + 1 + 1, 0, none⟩) (by simp <;> omega)).trans (by go_simp)
  clear hb1
  go_wp2
  have g5 : ((w1.setCell ⟨w.heap.size + 1, 0, none⟩ (.int .i64 0)).setCell ⟨w.heap.size + 1 + 1, 0, none⟩ (.int .i64 3)).cell? ⟨w.heap.size + 1 + 1, 0, none⟩ = some (.int .i64 3) :=
    World.cell?_setCell_same' _ _ _ (by rw [show (w1.setCell ⟨w.heap.size + 1, 0, none⟩ (.int .i64 0)).cell? ⟨w.heap.size + 1 + 1, 0, none⟩ = some (.int .i64 0) from (World.cell?_of_block (Below.heap_setCell _ _ _ _ (by simp))).trans k5]; rfl)
  have g4 : ((w1.setCell ⟨w.heap.size + 1, 0, none⟩ (.int .i64 0)).setCell ⟨w.heap.size + 1 + 1, 0, none⟩ (.int .i64 3)).cell? ⟨w.heap.size + 1, 0, none⟩ = some (.int .i64 0) :=
    (World.cell?_of_block (Below.heap_setCell _ _ _ _ (by simp))).trans (World.cell?_setCell_same' _ _ _ (by rw [k4]; rfl))
  refine bodyPost_ret (v := .tuple #[.int .i64 0, .int .i64 3]) (by simp [results, Try.results39, go_sem, g4, g5]) rfl ⟨by rw [Hs.out], ?_⟩
  exact (hB1.setCell (p := ⟨w.heap.size + 1, 0, none⟩) (by simp) _).setCell (p := ⟨w.heap.size + 1 + 1, 0, none⟩) (by simp <;> omega) _

set_option maxHeartbeats 1000000 in
theorem pick_err (p : Option Addr) (xs : List Int) (c : Nat) (v : Int) (w : World) (hl : xs.length ≤ 1000000000000000) (hR : Reads w p xs) (x : Int) (hx : chk1 xs = x) (h0 : ¬ chk1 xs = 0) :
    Calls Try.prog 39 #[.slice p xs.length c, .int .i64 v] w fun e W' => e = .returned (.tuple #[.int .i64 (sPick xs v).1, .int .i64 (sPick xs v).2]) ∧ Below w.heap.size w W' := by
  have Hs : Hid (sPick xs v = (0, x)) := by show _ = _; unfold sPick; rw [if_pos h0, hx]
  rw [hx] at h0
  have hb : (x == 0) = false := by simpa using h0
  have hb' : (x != 0) = true := by simpa using h0
  have He := Lib.hid hx
  clear hx h0
  have hC := check1 p xs c (w.heap.size + 3) ((((w.alloc (.cells #[.int .i64 v] 3)).alloc (.cells #[.int .i64 0] 3)).alloc (.cells #[.int .i64 0] 24)).alloc (.cells #[.slice p xs.length c] 34)) (by omega) (by go_simp) (hR.below ((((below1 _ _).alloc (by simp) _).alloc (by simp; omega) _).alloc (by simp; omega) _) (Nat.le_refl _))
  have HC := Lib.hid hC
  clear hC
  go_enter Try.func39, Try.ntmps39
  go_wp2_with fail
  refine HC.out.mono ?_
  rintro e w1 ⟨rfl, hb1⟩
  rw [He.out]
  have hB1 : Below w.heap.size w w1 := ((((below1 _ _).alloc (by simp) _).alloc (by simp; omega) _).alloc (by simp; omega) _).trans (hb1.mono (by simp; omega))
  have kv : w1.cell? ⟨w.heap.size, 0, none⟩ = some (.int .i64 v) := (hb1.cell (p := ⟨w.heap.size, 0, none⟩) (by simp; omega)).trans (by go_simp)
  have k4 : w1.cell? ⟨w.heap.size + 1, 0, none⟩ = some (.int .i64 0) := (hb1.cell (p := ⟨w.heap.size + 1, 0, none⟩) (by simp <;> omega)).trans (by go_simp)
  have k5 : w1.cell? ⟨w.heap.size + 1 + 1, 0, none⟩ = some (.int .i64 0) := (hb1.cell (p := ⟨w.heap.size + 1 + 1, 0, none⟩) (by simp <;> omega)).trans (by go_simp)
  have f4 : w1.frozen? ⟨w.heap.size + 1, 0, none⟩ = false := (hb1.frozen (p := ⟨w.heap.size + 1, 0, none⟩) (by simp <;> omega)).trans (by go_simp)
  have f5 : w1.frozen? ⟨w.heap.size + 1 + 1, 0, none⟩ = false := (hb1.frozen (p := ⟨w.heap.size + 1 + 1, 0, none⟩) (by simp <;> omega)).trans (by go_simp)
  clear hb1
  go_wp2
  have g5 : ((w1.setCell ⟨w.heap.size + 1, 0, none⟩ (.int .i64 0)).setCell ⟨w.heap.size + 1 + 1, 0, none⟩ (.int .i64 x)).cell? ⟨w.heap.size + 1 + 1, 0, none⟩ = some (.int .i64 x) :=
    World.cell?_setCell_same' _ _ _ (by rw [show (w1.setCell ⟨w.heap.size + 1, 0, none⟩ (.int .i64 0)).cell? ⟨w.heap.size + 1 + 1, 0, none⟩ = some (.int .i64 0) from (World.cell?_of_block (Below.heap_setCell _ _ _ _ (by simp))).trans k5]; rfl)
  have g4 : ((w1.setCell ⟨w.heap.size + 1, 0, none⟩ (.int .i64 0)).setCell ⟨w.heap.size + 1 + 1, 0, none⟩ (.int .i64 x)).cell? ⟨w.heap.size + 1, 0, none⟩ = some (.int .i64 0) :=
    (World.cell?_of_block (Below.heap_setCell _ _ _ _ (by simp))).trans (World.cell?_setCell_same' _ _ _ (by rw [k4]; rfl))
  refine bodyPost_ret (v := .tuple #[.int .i64 0, .int .i64 x]) (by simp [results, Try.results39, go_sem, g4, g5]) rfl ⟨by rw [Hs.out], ?_⟩
  exact (hB1.setCell (p := ⟨w.heap.size + 1, 0, none⟩) (by simp) _).setCell (p := ⟨w.heap.size + 1 + 1, 0, none⟩) (by simp <;> omega) _

theorem pick_any (p : Option Addr) (xs : List Int) (c : Nat) (v : Int) (w : World) (hl : xs.length ≤ 1000000000000000) (hR : Reads w p xs) :
    Calls Try.prog 39 #[.slice p xs.length c, .int .i64 v] w fun e W' => e = .returned (.tuple #[.int .i64 (sPick xs v).1, .int .i64 (sPick xs v).2]) ∧ Below w.heap.size w W' := by
  by_cases h0 : chk1 xs = 0
  · by_cases hv : 0 ≤ v
    · exact (callsIn_wide (n := 3)).1 (pick_in p xs c v w hl hR h0 hv)
    · exact pick_neg p xs c v w hl hR h0 (by omega)
  · exact pick_err p xs c v w hl hR _ rfl h0
end Go.Proofs.Ytnpnnfbmnlgioaa
