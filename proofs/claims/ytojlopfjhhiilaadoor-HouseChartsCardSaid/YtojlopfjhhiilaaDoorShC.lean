/-
  Package shield: the figure that follows at a place, and the chart of mothers.
-/
import Derived.Test.YtojlopfjhhiilaaDoorShB
import Derived.Test.YtojlopfjhhiilaaDoorShW
namespace Go.Proofs.YtojlopfjhhiilaaDoor
open Go.RowKit
set_option linter.unusedVariables false

/-- The table of places of which those from 8 on are the sums. -/
def parL : List Int := [0, 1, 2, 3, 4, 5, 6, 7, 8, 9, 10, 11, 12, 13, 14, 0]
/-- The variable of parents holds its table. -/
def Par (w : World) : Prop := ∀ j, j < 16 → w.cell? ⟨1, j, none⟩ = some (.int .i64 (nth parL j))
theorem Par.below {w w' : World} (h : Par w) {B : Nat} (hb : Below B w w') (hB : w.heap.size ≤ B) : Par w' := fun j hj => by
  have h0 := h j hj
  have := World.block_lt_of_cell? w _ h0
  exact (hb.cell (p := ⟨1, j, none⟩) (by simp at this ⊢; omega)).trans h0

set_option maxHeartbeats 400000 in
theorem following1_any (b : Nat) (p : Nat) (s : List Int) (i : Nat) (hi : i < 4) (h4 : 4 ≤ p) (h8 : p < 8) (x y : Addr) (w : World) (hx : w.cell? x = some (.pointer (some ⟨b, 0, none⟩))) (hy : w.cell? y = some (.int .i64 p))
    (hs : w.cell? ⟨b, i, none⟩ = some (.int .i64 (nth s i))) (hf : Fig (nth s i)) :
    Calls Tryd.prog 65 #[.int .i64 i, .pointer (some x), .pointer (some y)] w fun e w' => e = .returned (.bool (bitB (nth s i) (p - 4))) ∧ ∃ r, w' = w.drewN r := by
  obtain ⟨f0, f1⟩ := hf
  go_enter Tryd.func65, Tryd.ntmps65
  go_wp2
  go_quiet ((go_at_call 66; exact Calls.quiet_of_same ((single_any _ _ (by omega) (by omega) (by omega) (by omega) _).mono fun _ _ ⟨h, h'⟩ => ⟨h, h'.symm⟩)))
  go_wp2
  go_ret
  exact ⟨rfl, _, rfl⟩

/-- All 16 cells of block b are the figures of s. -/
def Chart (w : World) (b : Nat) (s : List Int) : Prop := ∀ k, k < 16 → w.cell? ⟨b, k, none⟩ = some (.int .i64 (nth s k))
def Figs (s : List Int) : Prop := ∀ k, k < 16 → Fig (nth s k)
theorem Chart.below {w w' : World} {b : Nat} {s : List Int} (h : Chart w b s) {B : Nat} (hb : Below B w w') (hB : b < B) : Chart w' b s := fun j hj =>
  (hb.cell (p := ⟨b, j, none⟩) hB).trans (h j hj)
theorem Chart.lt {w : World} {b : Nat} {s : List Int} (h : Chart w b s) : b < w.heap.size := World.block_lt_of_cell? w _ (h 0 (by omega))
/-- The place of which the place p, from 8 on, is derived: the first, the second. -/
def parA (p : Nat) : Nat := (nth parL (2 * (p - 8))).toNat
def parB (p : Nat) : Nat := (nth parL (2 * (p - 8) + 1)).toNat
/-- The figure that follows at place p. -/
def followF (s : List Int) (p : Nat) : Int :=
  if p < 8 then figTo (fun i => bitB (nth s i) (p - 4)) 4 else xorF (nth s (parA p)) (nth s (parB p))

set_option maxHeartbeats 400000 in
theorem following_low (b p : Nat) (s : List Int) (h4 : 4 ≤ p) (h8 : p < 8) (w : World) (hs : Chart w b s) (hf : Figs s) :
    Calls Tryd.prog 50 #[.pointer (some ⟨b, 0, none⟩), .int .i64 p] w fun e w' => e = .returned (.int .i64 (followF s p)) ∧ Below w.heap.size w w' := by
  have hlt := hs.lt
  have hb : Below w.heap.size w ((w.alloc (.cells #[.pointer (some ⟨b, 0, none⟩)] 108)).alloc (.cells #[.int .i64 p] 3)) := ((Below.refl _ _).alloc (Nat.le_refl _) _).alloc (by simp) _
  have hs2 := hs.below hb hlt
  have E : Hid (followF s p = figTo (fun i => bitB (nth s i) (p - 4)) 4) := Lib.hid (by unfold followF; rw [if_pos h8])
  unfold Chart at hs
  go_enter Tryd.func50, Tryd.ntmps50
  go_wp2_with fail
  refine (figure_following _ _ (fun i => bitB (nth s i) (p - 4)) _ (fun i q hi => ?_)).mono ?_
  · refine (following1_any b p s i hi h4 h8 _ _ _ (by go_cell) (by go_cell) (by have := hs2 i (by omega); go_cell) (hf i (by omega))).mono ?_
    rintro e w' ⟨rfl, r, rfl⟩
    exact ⟨rfl, q + r, by rw [World.drewN_drewN]⟩
  · rintro e w' ⟨rfl, r, rfl⟩
    go_wp2
    go_ret
    exact ⟨by rw [E.out]; rfl, below_drewN hb r⟩
set_option maxHeartbeats 400000 in
theorem following_8 (b : Nat) (s : List Int) (w : World) (hs : Chart w b s) (hf : Figs s) (hp : Par w) :
    Calls Tryd.prog 50 #[.pointer (some ⟨b, 0, none⟩), .int .i64 8] w fun e w' => e = .returned (.int .i64 (followF s 8)) ∧ Below w.heap.size w w' := by
  have hlt := hs.lt
  have hb : Below w.heap.size w ((w.alloc (.cells #[.pointer (some ⟨b, 0, none⟩)] 108)).alloc (.cells #[.int .i64 8] 3)) := ((Below.refl _ _).alloc (Nat.le_refl _) _).alloc (by simp) _
  have hp2 := hp.below hb (Nat.le_refl _)
  have H1 := Lib.hid (hp2 0 (by omega))
  have H2 := Lib.hid (hp2 1 (by omega))
  have hb3 := hb.alloc (by simp; omega) (.cells #[.int .i64 0, .int .i64 1] 41)
  have h3 := hs.below hb3 hlt 0 (by omega)
  have h5 := hs.below hb3 hlt 1 (by omega)
  obtain ⟨f1, f2⟩ := hf 0 (by omega)
  obtain ⟨f3, f4⟩ := hf 1 (by omega)
  clear hs hf hp hp2
  go_enter Tryd.func50, Tryd.ntmps50
  go_wp2_with (refine wpList_load_cells rfl 41 _ rfl ⟨1, 0, none⟩ rfl #[.int .i64 0, .int .i64 1] _ (two_cells H1.out H2.out) Tryd.underlying41 rfl (by kernel_rfl) ?_)
  go_quiet ((go_at_call 67; exact Calls.quiet_of_same ((sumF_any _ _ (by omega) (by omega) (by omega) (by omega) _).mono fun _ _ ⟨h, h'⟩ => ⟨h, h'.symm⟩)))
  go_wp2
  go_ret
  exact ⟨rfl, below_drewN hb3 _⟩
set_option maxHeartbeats 400000 in
theorem following_9 (b : Nat) (s : List Int) (w : World) (hs : Chart w b s) (hf : Figs s) (hp : Par w) :
    Calls Tryd.prog 50 #[.pointer (some ⟨b, 0, none⟩), .int .i64 9] w fun e w' => e = .returned (.int .i64 (followF s 9)) ∧ Below w.heap.size w w' := by
  have hlt := hs.lt
  have hb : Below w.heap.size w ((w.alloc (.cells #[.pointer (some ⟨b, 0, none⟩)] 108)).alloc (.cells #[.int .i64 9] 3)) := ((Below.refl _ _).alloc (Nat.le_refl _) _).alloc (by simp) _
  have hp2 := hp.below hb (Nat.le_refl _)
  have H1 := Lib.hid (hp2 2 (by omega))
  have H2 := Lib.hid (hp2 3 (by omega))
  have hb3 := hb.alloc (by simp; omega) (.cells #[.int .i64 2, .int .i64 3] 41)
  have h3 := hs.below hb3 hlt 2 (by omega)
  have h5 := hs.below hb3 hlt 3 (by omega)
  obtain ⟨f1, f2⟩ := hf 2 (by omega)
  obtain ⟨f3, f4⟩ := hf 3 (by omega)
  clear hs hf hp hp2
  go_enter Tryd.func50, Tryd.ntmps50
  go_wp2_with (refine wpList_load_cells rfl 41 _ rfl ⟨1, 2, none⟩ rfl #[.int .i64 2, .int .i64 3] _ (two_cells H1.out H2.out) Tryd.underlying41 rfl (by kernel_rfl) ?_)
  go_quiet ((go_at_call 67; exact Calls.quiet_of_same ((sumF_any _ _ (by omega) (by omega) (by omega) (by omega) _).mono fun _ _ ⟨h, h'⟩ => ⟨h, h'.symm⟩)))
  go_wp2
  go_ret
  exact ⟨rfl, below_drewN hb3 _⟩
set_option maxHeartbeats 400000 in
theorem following_10 (b : Nat) (s : List Int) (w : World) (hs : Chart w b s) (hf : Figs s) (hp : Par w) :
    Calls Tryd.prog 50 #[.pointer (some ⟨b, 0, none⟩), .int .i64 10] w fun e w' => e = .returned (.int .i64 (followF s 10)) ∧ Below w.heap.size w w' := by
  have hlt := hs.lt
  have hb : Below w.heap.size w ((w.alloc (.cells #[.pointer (some ⟨b, 0, none⟩)] 108)).alloc (.cells #[.int .i64 10] 3)) := ((Below.refl _ _).alloc (Nat.le_refl _) _).alloc (by simp) _
  have hp2 := hp.below hb (Nat.le_refl _)
  have H1 := Lib.hid (hp2 4 (by omega))
  have H2 := Lib.hid (hp2 5 (by omega))
  have hb3 := hb.alloc (by simp; omega) (.cells #[.int .i64 4, .int .i64 5] 41)
  have h3 := hs.below hb3 hlt 4 (by omega)
  have h5 := hs.below hb3 hlt 5 (by omega)
  obtain ⟨f1, f2⟩ := hf 4 (by omega)
  obtain ⟨f3, f4⟩ := hf 5 (by omega)
  clear hs hf hp hp2
  go_enter Tryd.func50, Tryd.ntmps50
  go_wp2_with (refine wpList_load_cells rfl 41 _ rfl ⟨1, 4, none⟩ rfl #[.int .i64 4, .int .i64 5] _ (two_cells H1.out H2.out) Tryd.underlying41 rfl (by kernel_rfl) ?_)
  go_quiet ((go_at_call 67; exact Calls.quiet_of_same ((sumF_any _ _ (by omega) (by omega) (by omega) (by omega) _).mono fun _ _ ⟨h, h'⟩ => ⟨h, h'.symm⟩)))
  go_wp2
  go_ret
  exact ⟨rfl, below_drewN hb3 _⟩
set_option maxHeartbeats 400000 in
theorem following_11 (b : Nat) (s : List Int) (w : World) (hs : Chart w b s) (hf : Figs s) (hp : Par w) :
    Calls Tryd.prog 50 #[.pointer (some ⟨b, 0, none⟩), .int .i64 11] w fun e w' => e = .returned (.int .i64 (followF s 11)) ∧ Below w.heap.size w w' := by
  have hlt := hs.lt
  have hb : Below w.heap.size w ((w.alloc (.cells #[.pointer (some ⟨b, 0, none⟩)] 108)).alloc (.cells #[.int .i64 11] 3)) := ((Below.refl _ _).alloc (Nat.le_refl _) _).alloc (by simp) _
  have hp2 := hp.below hb (Nat.le_refl _)
  have H1 := Lib.hid (hp2 6 (by omega))
  have H2 := Lib.hid (hp2 7 (by omega))
  have hb3 := hb.alloc (by simp; omega) (.cells #[.int .i64 6, .int .i64 7] 41)
  have h3 := hs.below hb3 hlt 6 (by omega)
  have h5 := hs.below hb3 hlt 7 (by omega)
  obtain ⟨f1, f2⟩ := hf 6 (by omega)
  obtain ⟨f3, f4⟩ := hf 7 (by omega)
  clear hs hf hp hp2
  go_enter Tryd.func50, Tryd.ntmps50
  go_wp2_with (refine wpList_load_cells rfl 41 _ rfl ⟨1, 6, none⟩ rfl #[.int .i64 6, .int .i64 7] _ (two_cells H1.out H2.out) Tryd.underlying41 rfl (by kernel_rfl) ?_)
  go_quiet ((go_at_call 67; exact Calls.quiet_of_same ((sumF_any _ _ (by omega) (by omega) (by omega) (by omega) _).mono fun _ _ ⟨h, h'⟩ => ⟨h, h'.symm⟩)))
  go_wp2
  go_ret
  exact ⟨rfl, below_drewN hb3 _⟩
set_option maxHeartbeats 400000 in
theorem following_12 (b : Nat) (s : List Int) (w : World) (hs : Chart w b s) (hf : Figs s) (hp : Par w) :
    Calls Tryd.prog 50 #[.pointer (some ⟨b, 0, none⟩), .int .i64 12] w fun e w' => e = .returned (.int .i64 (followF s 12)) ∧ Below w.heap.size w w' := by
  have hlt := hs.lt
  have hb : Below w.heap.size w ((w.alloc (.cells #[.pointer (some ⟨b, 0, none⟩)] 108)).alloc (.cells #[.int .i64 12] 3)) := ((Below.refl _ _).alloc (Nat.le_refl _) _).alloc (by simp) _
  have hp2 := hp.below hb (Nat.le_refl _)
  have H1 := Lib.hid (hp2 8 (by omega))
  have H2 := Lib.hid (hp2 9 (by omega))
  have hb3 := hb.alloc (by simp; omega) (.cells #[.int .i64 8, .int .i64 9] 41)
  have h3 := hs.below hb3 hlt 8 (by omega)
  have h5 := hs.below hb3 hlt 9 (by omega)
  obtain ⟨f1, f2⟩ := hf 8 (by omega)
  obtain ⟨f3, f4⟩ := hf 9 (by omega)
  clear hs hf hp hp2
  go_enter Tryd.func50, Tryd.ntmps50
  go_wp2_with (refine wpList_load_cells rfl 41 _ rfl ⟨1, 8, none⟩ rfl #[.int .i64 8, .int .i64 9] _ (two_cells H1.out H2.out) Tryd.underlying41 rfl (by kernel_rfl) ?_)
  go_quiet ((go_at_call 67; exact Calls.quiet_of_same ((sumF_any _ _ (by omega) (by omega) (by omega) (by omega) _).mono fun _ _ ⟨h, h'⟩ => ⟨h, h'.symm⟩)))
  go_wp2
  go_ret
  exact ⟨rfl, below_drewN hb3 _⟩
set_option maxHeartbeats 400000 in
theorem following_13 (b : Nat) (s : List Int) (w : World) (hs : Chart w b s) (hf : Figs s) (hp : Par w) :
    Calls Tryd.prog 50 #[.pointer (some ⟨b, 0, none⟩), .int .i64 13] w fun e w' => e = .returned (.int .i64 (followF s 13)) ∧ Below w.heap.size w w' := by
  have hlt := hs.lt
  have hb : Below w.heap.size w ((w.alloc (.cells #[.pointer (some ⟨b, 0, none⟩)] 108)).alloc (.cells #[.int .i64 13] 3)) := ((Below.refl _ _).alloc (Nat.le_refl _) _).alloc (by simp) _
  have hp2 := hp.below hb (Nat.le_refl _)
  have H1 := Lib.hid (hp2 10 (by omega))
  have H2 := Lib.hid (hp2 11 (by omega))
  have hb3 := hb.alloc (by simp; omega) (.cells #[.int .i64 10, .int .i64 11] 41)
  have h3 := hs.below hb3 hlt 10 (by omega)
  have h5 := hs.below hb3 hlt 11 (by omega)
  obtain ⟨f1, f2⟩ := hf 10 (by omega)
  obtain ⟨f3, f4⟩ := hf 11 (by omega)
  clear hs hf hp hp2
  go_enter Tryd.func50, Tryd.ntmps50
  go_wp2_with (refine wpList_load_cells rfl 41 _ rfl ⟨1, 10, none⟩ rfl #[.int .i64 10, .int .i64 11] _ (two_cells H1.out H2.out) Tryd.underlying41 rfl (by kernel_rfl) ?_)
  go_quiet ((go_at_call 67; exact Calls.quiet_of_same ((sumF_any _ _ (by omega) (by omega) (by omega) (by omega) _).mono fun _ _ ⟨h, h'⟩ => ⟨h, h'.symm⟩)))
  go_wp2
  go_ret
  exact ⟨rfl, below_drewN hb3 _⟩
set_option maxHeartbeats 400000 in
theorem following_14 (b : Nat) (s : List Int) (w : World) (hs : Chart w b s) (hf : Figs s) (hp : Par w) :
    Calls Tryd.prog 50 #[.pointer (some ⟨b, 0, none⟩), .int .i64 14] w fun e w' => e = .returned (.int .i64 (followF s 14)) ∧ Below w.heap.size w w' := by
  have hlt := hs.lt
  have hb : Below w.heap.size w ((w.alloc (.cells #[.pointer (some ⟨b, 0, none⟩)] 108)).alloc (.cells #[.int .i64 14] 3)) := ((Below.refl _ _).alloc (Nat.le_refl _) _).alloc (by simp) _
  have hp2 := hp.below hb (Nat.le_refl _)
  have H1 := Lib.hid (hp2 12 (by omega))
  have H2 := Lib.hid (hp2 13 (by omega))
  have hb3 := hb.alloc (by simp; omega) (.cells #[.int .i64 12, .int .i64 13] 41)
  have h3 := hs.below hb3 hlt 12 (by omega)
  have h5 := hs.below hb3 hlt 13 (by omega)
  obtain ⟨f1, f2⟩ := hf 12 (by omega)
  obtain ⟨f3, f4⟩ := hf 13 (by omega)
  clear hs hf hp hp2
  go_enter Tryd.func50, Tryd.ntmps50
  go_wp2_with (refine wpList_load_cells rfl 41 _ rfl ⟨1, 12, none⟩ rfl #[.int .i64 12, .int .i64 13] _ (two_cells H1.out H2.out) Tryd.underlying41 rfl (by kernel_rfl) ?_)
  go_quiet ((go_at_call 67; exact Calls.quiet_of_same ((sumF_any _ _ (by omega) (by omega) (by omega) (by omega) _).mono fun _ _ ⟨h, h'⟩ => ⟨h, h'.symm⟩)))
  go_wp2
  go_ret
  exact ⟨rfl, below_drewN hb3 _⟩
set_option maxHeartbeats 400000 in
theorem following_15 (b : Nat) (s : List Int) (w : World) (hs : Chart w b s) (hf : Figs s) (hp : Par w) :
    Calls Tryd.prog 50 #[.pointer (some ⟨b, 0, none⟩), .int .i64 15] w fun e w' => e = .returned (.int .i64 (followF s 15)) ∧ Below w.heap.size w w' := by
  have hlt := hs.lt
  have hb : Below w.heap.size w ((w.alloc (.cells #[.pointer (some ⟨b, 0, none⟩)] 108)).alloc (.cells #[.int .i64 15] 3)) := ((Below.refl _ _).alloc (Nat.le_refl _) _).alloc (by simp) _
  have hp2 := hp.below hb (Nat.le_refl _)
  have H1 := Lib.hid (hp2 14 (by omega))
  have H2 := Lib.hid (hp2 15 (by omega))
  have hb3 := hb.alloc (by simp; omega) (.cells #[.int .i64 14, .int .i64 0] 41)
  have h3 := hs.below hb3 hlt 14 (by omega)
  have h5 := hs.below hb3 hlt 0 (by omega)
  obtain ⟨f1, f2⟩ := hf 14 (by omega)
  obtain ⟨f3, f4⟩ := hf 0 (by omega)
  clear hs hf hp hp2
  go_enter Tryd.func50, Tryd.ntmps50
  go_wp2_with (refine wpList_load_cells rfl 41 _ rfl ⟨1, 14, none⟩ rfl #[.int .i64 14, .int .i64 0] _ (two_cells H1.out H2.out) Tryd.underlying41 rfl (by kernel_rfl) ?_)
  go_quiet ((go_at_call 67; exact Calls.quiet_of_same ((sumF_any _ _ (by omega) (by omega) (by omega) (by omega) _).mono fun _ _ ⟨h, h'⟩ => ⟨h, h'.symm⟩)))
  go_wp2
  go_ret
  exact ⟨rfl, below_drewN hb3 _⟩
end Go.Proofs.YtojlopfjhhiilaaDoor
