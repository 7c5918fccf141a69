/-
  Package shield: the way of a line.
-/
import Derived.Test.YthioojappmnnaaaDoorShG
import Derived.Test.YthioojappmnnaaaDoorShQ
import Derived.Deep.MidRow
namespace Go.Proofs.YthioojappmnnaaaDoor
open Go Go.RowKit
set_option linter.unusedVariables false

theorem guard_shield : Tryd.prog.eqGuardType Tryd.prog.depth 33 = false := by kernel_rfl
theorem neq_shield {a b : List Int} (ha : a.length = 16) (hb : b.length = 16) (w : World) : (Op.equalIn 10000 33 (.agg (arr a)) (.agg (arr b))).run Tryd.prog w = .ok (decide (a = b)) w :=
  run_equalIn_ints w 9998 33 26 16 Tryd.underlying33 Tryd.underlying26 info_fig a b ha hb
theorem Blk.range {w : World} {g : Nat} {t : TypeId} {xs : List Int} (h : Blk w g t (arr xs)) : w.rangeAt g 0 (xs.map (Value.int .i64)) := fun j v hj => by
  rw [Nat.zero_add, h.cell]
  simpa [arr] using hj
theorem range_tr {w w' : World} (hb : Below w.heap.size w w') {g o : Nat} {cs : List Value} (h : w.rangeAt g o cs) : w'.rangeAt g o cs := fun j v hj => cell_tr hb (h j v hj)
/-- The mothers of a chart. -/
def moth (s : List Int) : List Int := [nth s 0, nth s 1, nth s 2, nth s 3]
/-- Where the way goes on from a place. -/
def nx (s : List Int) (line : Int) (p : Nat) : Nat := if bitB (nth s (parA p)) line = true then parA p else parB p
def plc (s : List Int) (line : Int) : Nat → Nat
  | 0 => 14
  | k + 1 => nx s line (plc s line k)
/-- The first k + 1 places of the way. -/
def wayTo (s : List Int) (line : Int) : Nat → List Int
  | 0 => [14]
  | k + 1 => wayTo s line k ++ [(plc s line (k + 1) : Int)]
theorem wayTo_len (s : List Int) (line : Int) (k : Nat) : (wayTo s line k).length = k + 1 := by
  induction k with
  | zero => rfl
  | succ k ih => simp [wayTo, ih]
theorem nx_or (s : List Int) (line : Int) (p : Nat) : nx s line p = parA p ∨ nx s line p = parB p := by unfold nx; split <;> simp
theorem plc_one (s : List Int) (line : Int) : plc s line 1 = 12 ∨ plc s line 1 = 13 := nx_or s line 14
theorem plc_two (s : List Int) (line : Int) : plc s line 2 = 8 ∨ plc s line 2 = 9 ∨ plc s line 2 = 10 ∨ plc s line 2 = 11 := by
  show nx s line (plc s line 1) = 8 ∨ nx s line (plc s line 1) = 9 ∨ nx s line (plc s line 1) = 10 ∨ nx s line (plc s line 1) = 11
  rcases plc_one s line with h | h <;> rw [h]
  · rcases nx_or s line 12 with h | h <;> rw [h] <;> decide
  · rcases nx_or s line 13 with h | h <;> rw [h] <;> decide
theorem plc_three (s : List Int) (line : Int) : plc s line 3 < 8 := by
  show nx s line (plc s line 2) < 8
  rcases plc_two s line with h | h | h | h <;> rw [h]
  · rcases nx_or s line 8 with h | h <;> rw [h] <;> decide
  · rcases nx_or s line 9 with h | h <;> rw [h] <;> decide
  · rcases nx_or s line 10 with h | h <;> rw [h] <;> decide
  · rcases nx_or s line 11 with h | h <;> rw [h] <;> decide
theorem plc_cases (s : List Int) (line : Int) {k : Nat} (hk : k < 3) : plc s line k = 8 ∨ plc s line k = 9 ∨ plc s line k = 10 ∨ plc s line k = 11 ∨ plc s line k = 12 ∨ plc s line k = 13 ∨ plc s line k = 14 := by
  have : k = 0 ∨ k = 1 ∨ k = 2 := by omega
  rcases this with rfl | rfl | rfl
  · simp [plc]
  · have := plc_one s line; omega
  · have := plc_two s line; omega
theorem plc_ge (s : List Int) (line : Int) {k : Nat} (hk : k ≤ 3) (h8 : 8 ≤ plc s line k) : k < 3 := by
  by_cases e : k = 3
  · subst e; have := plc_three s line; omega
  · omega
theorem plc_lt (s : List Int) (line : Int) {k : Nat} (hk : k ≤ 3) (h8 : plc s line k < 8) : k = 3 := by
  by_cases e : k = 3
  · exact e
  · have := plc_cases s line (show k < 3 by omega); omega
theorem one_owns (W : World) (x : Int) {B : Nat} (hB : B ≤ W.heap.size) : (W.alloc (.cells #[.int .i64 x] 3)).ownsRow B 3 1 (.slice (some ⟨W.heap.size, 0, none⟩) 1 1) 1 ([x].map (Value.int .i64)) :=
  ⟨rfl, Or.inr ⟨W.heap.size, 1, #[.int .i64 x], rfl, hB, heap_alloc_new W _, Nat.le_refl _, by simp [maxLen], rfl, rfl⟩⟩
/-- What Way returns. -/
def wayE (s : List Int) (line : Int) : Int := if chkF s ≠ 0 then 2 else if outB 0 3 line = true then 3 else if dP (moth s) 16 ≠ s then 30 else if bitB (nth s 14) line = false then 7 else 0
def wayV (s : List Int) (line : Int) : List Int := if wayE s line = 0 then wayTo s line 3 else []

set_option maxRecDepth 100000 in
set_option maxHeartbeats 4000000 in
theorem way_arg (s : List Int) (line : Int) (hs : Hid (s.length = 16)) (w : World) (H : Hid (chkF s = 2)) :
    Calls Tryd.prog 11 #[.agg (arr s), .int .i64 line] w fun e w' => e = .returned (.tuple #[.slice none 0 0, .int .i64 2]) ∧ Below w.heap.size w w' := by
  have hB0 : Below w.heap.size w (w.alloc (.cells (arr s) 33)) := (Below.refl _ _).alloc (Nat.le_refl _) _
  have HM := Lib.hid (Blk.new w 33 (arr s))
  have hR : Reads (w.alloc (.cells (arr s) 33)) (some ⟨w.heap.size, 0, none⟩) s := HM.out.reads
  go_enter Tryd.func11, Tryd.ntmps11
  go_wp2_with fail
  refine (checkF_n (some ⟨w.heap.size, 0, none⟩) s 16 16 _ hs (by omega) hR).mono ?_
  rintro e w1 ⟨rfl, hb1⟩
  rw [H.out]
  have hM1 := Lib.hid (HM.out.below hb1 (by simp))
  have hb2 : Below w.heap.size w w1 := hB0.trans (hb1.mono (by simp))
  have hsz1 : w.heap.size < w1.heap.size := hM1.out.lt
  clear hb1 hB0 hR
  go_wp2
  go_ret2
  exact ⟨rfl, hb2⟩
set_option maxRecDepth 100000 in
set_option maxHeartbeats 4000000 in
theorem way_range (s : List Int) (line : Int) (hs : Hid (s.length = 16)) (w : World) (H : Hid (chkF s = 0)) (O : Hid (outB 0 3 line = true)) :
    Calls Tryd.prog 11 #[.agg (arr s), .int .i64 line] w fun e w' => e = .returned (.tuple #[.slice none 0 0, .int .i64 3]) ∧ Below w.heap.size w w' := by
  have hB0 : Below w.heap.size w (w.alloc (.cells (arr s) 33)) := (Below.refl _ _).alloc (Nat.le_refl _) _
  have HM := Lib.hid (Blk.new w 33 (arr s))
  have hR : Reads (w.alloc (.cells (arr s) 33)) (some ⟨w.heap.size, 0, none⟩) s := HM.out.reads
  go_enter Tryd.func11, Tryd.ntmps11
  go_wp2_with fail
  refine (checkF_n (some ⟨w.heap.size, 0, none⟩) s 16 16 _ hs (by omega) hR).mono ?_
  rintro e w1 ⟨rfl, hb1⟩
  rw [H.out]
  have hM1 := Lib.hid (HM.out.below hb1 (by simp))
  have hb2 : Below w.heap.size w w1 := hB0.trans (hb1.mono (by simp))
  have hsz1 : w.heap.size < w1.heap.size := hM1.out.lt
  clear hb1 hB0 hR
  go_wp2_with fail
  refine (outside_anyI 0 3 _).mono ?_
  rintro e w2 ⟨rfl, hw2⟩
  have hb3 : Below w1.heap.size w1 w2 := hw2 ▸ ((Below.refl _ _).alloc (Nat.le_refl _) _).alloc (by simp) _
  have hM2 := Lib.hid (hM1.out.below hb3 hsz1)
  have c1 : w2.cell? ⟨w1.heap.size, 0, none⟩ = some (.int .i64 0) := by subst hw2; go_cell
  have c2 : w2.cell? ⟨w1.heap.size + 1, 0, none⟩ = some (.int .i64 3) := by subst hw2; go_cell
  clear hw2
  go_wp2_with fail
  refine (outside1_anyI line 0 3 _ _ _ c1 c2).mono ?_
  rintro e w3 ⟨rfl, rfl⟩
  rw [O.out]
  have hb4 := hb2.trans (hb3.mono hb2.size)
  go_wp2
  go_ret2
  exact ⟨rfl, hb4⟩
set_option maxRecDepth 100000 in
set_option maxHeartbeats 4000000 in
theorem way_wrong (s : List Int) (line : Int) (hs : Hid (s.length = 16)) (w : World) (hp : Par w) (H : Hid (chkF s = 0)) (O : Hid (outB 0 3 line = false)) (D : Hid (dP (moth s) 16 ≠ s)) :
    Calls Tryd.prog 11 #[.agg (arr s), .int .i64 line] w fun e w' => e = .returned (.tuple #[.slice none 0 0, .int .i64 30]) ∧ Below w.heap.size w w' := by
  have G := guard_shield
  have N : ∀ wx : World, (Op.equalIn 10000 33 (.agg (arr (dP [nth s 0, nth s 1, nth s 2, nth s 3] 16))) (.agg (s.map (Value.int .i64)).toArray)).run Tryd.prog wx = .ok false wx := fun wx => by
    have := neq_shield (a := dP (moth s) 16) (b := s) (dTo_length _ rfl _) hs.out wx
    rwa [show decide (dP (moth s) 16 = s) = false by simpa using D.out] at this
  have hm : Hid (∀ k, k < 4 → Fig (nth [nth s 0, nth s 1, nth s 2, nth s 3] k)) := fun k hk => by
    have hz := chkF_zero H.out
    have h16 := hs.out
    have e : k = 0 ∨ k = 1 ∨ k = 2 ∨ k = 3 := by omega
    rcases e with rfl | rfl | rfl | rfl <;> exact hz _ (by omega)
  have hB0 : Below w.heap.size w (w.alloc (.cells (arr s) 33)) := (Below.refl _ _).alloc (Nat.le_refl _) _
  have HM := Lib.hid (Blk.new w 33 (arr s))
  have hR : Reads (w.alloc (.cells (arr s) 33)) (some ⟨w.heap.size, 0, none⟩) s := HM.out.reads
  go_enter Tryd.func11, Tryd.ntmps11
  go_wp2_with fail
  refine (checkF_n (some ⟨w.heap.size, 0, none⟩) s 16 16 _ hs (by omega) hR).mono ?_
  rintro e w1 ⟨rfl, hb1⟩
  rw [H.out]
  have hM1 := Lib.hid (HM.out.below hb1 (by simp))
  have hb2 : Below w.heap.size w w1 := hB0.trans (hb1.mono (by simp))
  have hsz1 : w.heap.size < w1.heap.size := hM1.out.lt
  clear hb1 hB0 hR
  go_wp2_with fail
  refine (outside_anyI 0 3 _).mono ?_
  rintro e w2 ⟨rfl, hw2⟩
  have hb3 : Below w1.heap.size w1 w2 := hw2 ▸ ((Below.refl _ _).alloc (Nat.le_refl _) _).alloc (by simp) _
  have hM2 := Lib.hid (hM1.out.below hb3 hsz1)
  have c1 : w2.cell? ⟨w1.heap.size, 0, none⟩ = some (.int .i64 0) := by subst hw2; go_cell
  have c2 : w2.cell? ⟨w1.heap.size + 1, 0, none⟩ = some (.int .i64 3) := by subst hw2; go_cell
  clear hw2
  go_wp2_with fail
  refine (outside1_anyI line 0 3 _ _ _ c1 c2).mono ?_
  rintro e w3 ⟨rfl, rfl⟩
  rw [O.out]
  have hb4 := hb2.trans (hb3.mono hb2.size)
  have hpw := hp.below hb4 (Nat.le_refl _)
  have hsz2 : w.heap.size < w2.heap.size := hM2.out.lt
  have U : Tryd.prog.underlying 33 = some (.array 16 26) := Tryd.underlying33
  have I : (Tryd.prog.info? 33).map (·.size) = some (s.map (Value.int .i64)).length := by rw [List.length_map, hs.out]; exact info_shield
  have k0 : w2.cell? ⟨w.heap.size, 0, none⟩ = some (.int .i64 (nth s 0)) := hM2.out.chart hs.out 0 (by omega)
  have k1 : w2.cell? ⟨w.heap.size, 1, none⟩ = some (.int .i64 (nth s 1)) := hM2.out.chart hs.out 1 (by omega)
  have k2 : w2.cell? ⟨w.heap.size, 2, none⟩ = some (.int .i64 (nth s 2)) := hM2.out.chart hs.out 2 (by omega)
  have k3 : w2.cell? ⟨w.heap.size, 3, none⟩ = some (.int .i64 (nth s 3)) := hM2.out.chart hs.out 3 (by omega)
  have kr : w2.rangeAt w.heap.size 0 (s.map (Value.int .i64)) := hM2.out.range
  clear c1 c2 hb3
  go_wp2
  go_region_held3 (fun w' => w'.cell? ⟨w.heap.size, 0, none⟩ = some (.int .i64 (nth s 0)) ∧ w'.cell? ⟨w.heap.size, 1, none⟩ = some (.int .i64 (nth s 1)) ∧ w'.cell? ⟨w.heap.size, 2, none⟩ = some (.int .i64 (nth s 2)) ∧ w'.cell? ⟨w.heap.size, 3, none⟩ = some (.int .i64 (nth s 3)) ∧ w'.rangeAt w.heap.size 0 (s.map (Value.int .i64)) ∧ Below w2.heap.size w2 w')
    (first | exact ⟨k0, k1, k2, k3, kr, (Below.refl _ _).drew⟩ | assumption | exact ⟨cell_tr hbk (by exact k0), cell_tr hbk (by exact k1), cell_tr hbk (by exact k2), cell_tr hbk (by exact k3), range_tr hbk (by exact kr), tr (Below.drew (Below.refl w2.heap.size w2)) hbk⟩)
    (first | (go_at_call 18; refine (derived_any (nth s 0) (nth s 1) (nth s 2) (nth s 3) hm.out _ (hpw.below (Below.drew (Below.refl w2.heap.size w2)) (Nat.le_refl _))).mono ?_; rintro e w' ⟨rfl, hbk⟩))
  rename_i hh
  obtain ⟨_, _, _, _, _, hbx⟩ := hh
  have hb5 : Below w.heap.size w w' := hb4.trans (hbx.mono hb4.size)
  have hM3 := Lib.hid (hM2.out.below hbx hsz2)
  have hsz3 : w.heap.size < w'.heap.size := hM3.out.lt
  clear U I k0 k1 k2 k3 kr hbk hbx hpw hb4 hb2 G N
  go_wp2
  go_ret2
  exact ⟨rfl, hb5⟩
set_option maxRecDepth 100000 in
set_option maxHeartbeats 4000000 in
theorem way_none (s : List Int) (line : Int) (hs : Hid (s.length = 16)) (w : World) (hp : Par w) (H : Hid (chkF s = 0)) (O : Hid (outB 0 3 line = false)) (D : Hid (dP (moth s) 16 = s)) (B : Hid (bitB (nth s 14) line = false)) :
    Calls Tryd.prog 11 #[.agg (arr s), .int .i64 line] w fun e w' => e = .returned (.tuple #[.slice none 0 0, .int .i64 7]) ∧ Below w.heap.size w w' := by
  have G := guard_shield
  have N : ∀ wx : World, (Op.equalIn 10000 33 (.agg (arr (dP [nth s 0, nth s 1, nth s 2, nth s 3] 16))) (.agg (s.map (Value.int .i64)).toArray)).run Tryd.prog wx = .ok true wx := fun wx => by
    have := neq_shield (a := dP (moth s) 16) (b := s) (dTo_length _ rfl _) hs.out wx
    rwa [show decide (dP (moth s) 16 = s) = true by simpa using D.out] at this
  have hm : Hid (∀ k, k < 4 → Fig (nth [nth s 0, nth s 1, nth s 2, nth s 3] k)) := fun k hk => by
    have hz := chkF_zero H.out
    have h16 := hs.out
    have e : k = 0 ∨ k = 1 ∨ k = 2 ∨ k = 3 := by omega
    rcases e with rfl | rfl | rfl | rfl <;> exact hz _ (by omega)
  have hB0 : Below w.heap.size w (w.alloc (.cells (arr s) 33)) := (Below.refl _ _).alloc (Nat.le_refl _) _
  have HM := Lib.hid (Blk.new w 33 (arr s))
  have hR : Reads (w.alloc (.cells (arr s) 33)) (some ⟨w.heap.size, 0, none⟩) s := HM.out.reads
  go_enter Tryd.func11, Tryd.ntmps11
  go_wp2_with fail
  refine (checkF_n (some ⟨w.heap.size, 0, none⟩) s 16 16 _ hs (by omega) hR).mono ?_
  rintro e w1 ⟨rfl, hb1⟩
  rw [H.out]
  have hM1 := Lib.hid (HM.out.below hb1 (by simp))
  have hb2 : Below w.heap.size w w1 := hB0.trans (hb1.mono (by simp))
  have hsz1 : w.heap.size < w1.heap.size := hM1.out.lt
  clear hb1 hB0 hR
  go_wp2_with fail
  refine (outside_anyI 0 3 _).mono ?_
  rintro e w2 ⟨rfl, hw2⟩
  have hb3 : Below w1.heap.size w1 w2 := hw2 ▸ ((Below.refl _ _).alloc (Nat.le_refl _) _).alloc (by simp) _
  have hM2 := Lib.hid (hM1.out.below hb3 hsz1)
  have c1 : w2.cell? ⟨w1.heap.size, 0, none⟩ = some (.int .i64 0) := by subst hw2; go_cell
  have c2 : w2.cell? ⟨w1.heap.size + 1, 0, none⟩ = some (.int .i64 3) := by subst hw2; go_cell
  clear hw2
  go_wp2_with fail
  refine (outside1_anyI line 0 3 _ _ _ c1 c2).mono ?_
  rintro e w3 ⟨rfl, rfl⟩
  rw [O.out]
  have hb4 := hb2.trans (hb3.mono hb2.size)
  have hpw := hp.below hb4 (Nat.le_refl _)
  have hsz2 : w.heap.size < w2.heap.size := hM2.out.lt
  have U : Tryd.prog.underlying 33 = some (.array 16 26) := Tryd.underlying33
  have I : (Tryd.prog.info? 33).map (·.size) = some (s.map (Value.int .i64)).length := by rw [List.length_map, hs.out]; exact info_shield
  have k0 : w2.cell? ⟨w.heap.size, 0, none⟩ = some (.int .i64 (nth s 0)) := hM2.out.chart hs.out 0 (by omega)
  have k1 : w2.cell? ⟨w.heap.size, 1, none⟩ = some (.int .i64 (nth s 1)) := hM2.out.chart hs.out 1 (by omega)
  have k2 : w2.cell? ⟨w.heap.size, 2, none⟩ = some (.int .i64 (nth s 2)) := hM2.out.chart hs.out 2 (by omega)
  have k3 : w2.cell? ⟨w.heap.size, 3, none⟩ = some (.int .i64 (nth s 3)) := hM2.out.chart hs.out 3 (by omega)
  have kr : w2.rangeAt w.heap.size 0 (s.map (Value.int .i64)) := hM2.out.range
  clear c1 c2 hb3
  go_wp2
  go_region_held3 (fun w' => w'.cell? ⟨w.heap.size, 0, none⟩ = some (.int .i64 (nth s 0)) ∧ w'.cell? ⟨w.heap.size, 1, none⟩ = some (.int .i64 (nth s 1)) ∧ w'.cell? ⟨w.heap.size, 2, none⟩ = some (.int .i64 (nth s 2)) ∧ w'.cell? ⟨w.heap.size, 3, none⟩ = some (.int .i64 (nth s 3)) ∧ w'.rangeAt w.heap.size 0 (s.map (Value.int .i64)) ∧ Below w2.heap.size w2 w')
    (first | exact ⟨k0, k1, k2, k3, kr, (Below.refl _ _).drew⟩ | assumption | exact ⟨cell_tr hbk (by exact k0), cell_tr hbk (by exact k1), cell_tr hbk (by exact k2), cell_tr hbk (by exact k3), range_tr hbk (by exact kr), tr (Below.drew (Below.refl w2.heap.size w2)) hbk⟩)
    (first | (go_at_call 18; refine (derived_any (nth s 0) (nth s 1) (nth s 2) (nth s 3) hm.out _ (hpw.below (Below.drew (Below.refl w2.heap.size w2)) (Nat.le_refl _))).mono ?_; rintro e w' ⟨rfl, hbk⟩))
  rename_i hh
  obtain ⟨_, _, _, _, _, hbx⟩ := hh
  have hb5 : Below w.heap.size w w' := hb4.trans (hbx.mono hb4.size)
  have hM3 := Lib.hid (hM2.out.below hbx hsz2)
  have hsz3 : w.heap.size < w'.heap.size := hM3.out.lt
  clear U I k0 k1 k2 k3 kr hbk hbx hpw hb4 hb2 G N
  have hz := chkF_zero H.out
  have h16 := hs.out
  obtain ⟨l0, l1⟩ : 0 ≤ line ∧ line ≤ 3 := by have := O.out; simp [outB] at this; omega
  obtain ⟨f0, f1⟩ := hz 14 (by omega)
  have hc14 : w'.cell? ⟨w.heap.size, 14, none⟩ = some (.int .i64 (nth s 14)) := hM3.out.chart hs.out 14 (by omega)
  have Hz := Lib.hid hz
  clear hz h16
  go_wp2_with fail
  refine (single_any _ line f0 f1 l0 l1 _).mono ?_
  rintro e w4 ⟨rfl, rfl⟩
  rw [B.out]
  go_wp2
  go_ret2
  exact ⟨rfl, hb5⟩
set_option maxRecDepth 100000 in
set_option maxHeartbeats 16000000 in
theorem way_some (s : List Int) (line : Int) (hs : Hid (s.length = 16)) (w : World) (hp : Par w) (H : Hid (chkF s = 0)) (O : Hid (outB 0 3 line = false)) (D : Hid (dP (moth s) 16 = s)) (B : Hid (bitB (nth s 14) line = true)) :
    Calls Tryd.prog 11 #[.agg (arr s), .int .i64 line] w fun e w' => (∃ q c, e = .returned (.tuple #[.slice q 4 c, .int .i64 0]) ∧ Reads w' q (wayTo s line 3)) ∧ Below w.heap.size w w' := by
  obtain ⟨i0, hi, hz0, hz1, hz2⟩ := info_parts info_int
  have G := guard_shield
  have N : ∀ wx : World, (Op.equalIn 10000 33 (.agg (arr (dP [nth s 0, nth s 1, nth s 2, nth s 3] 16))) (.agg (s.map (Value.int .i64)).toArray)).run Tryd.prog wx = .ok true wx := fun wx => by
    have := neq_shield (a := dP (moth s) 16) (b := s) (dTo_length _ rfl _) hs.out wx
    rwa [show decide (dP (moth s) 16 = s) = true by simpa using D.out] at this
  have hm : Hid (∀ k, k < 4 → Fig (nth [nth s 0, nth s 1, nth s 2, nth s 3] k)) := fun k hk => by
    have hz := chkF_zero H.out
    have h16 := hs.out
    have e : k = 0 ∨ k = 1 ∨ k = 2 ∨ k = 3 := by omega
    rcases e with rfl | rfl | rfl | rfl <;> exact hz _ (by omega)
  have hB0 : Below w.heap.size w (w.alloc (.cells (arr s) 33)) := (Below.refl _ _).alloc (Nat.le_refl _) _
  have HM := Lib.hid (Blk.new w 33 (arr s))
  have hR : Reads (w.alloc (.cells (arr s) 33)) (some ⟨w.heap.size, 0, none⟩) s := HM.out.reads
  go_enter Tryd.func11, Tryd.ntmps11
  go_wp2_with fail
  refine (checkF_n (some ⟨w.heap.size, 0, none⟩) s 16 16 _ hs (by omega) hR).mono ?_
  rintro e w1 ⟨rfl, hb1⟩
  rw [H.out]
  have hM1 := Lib.hid (HM.out.below hb1 (by simp))
  have hb2 : Below w.heap.size w w1 := hB0.trans (hb1.mono (by simp))
  have hsz1 : w.heap.size < w1.heap.size := hM1.out.lt
  clear hb1 hB0 hR
  go_wp2_with fail
  refine (outside_anyI 0 3 _).mono ?_
  rintro e w2 ⟨rfl, hw2⟩
  have hb3 : Below w1.heap.size w1 w2 := hw2 ▸ ((Below.refl _ _).alloc (Nat.le_refl _) _).alloc (by simp) _
  have hM2 := Lib.hid (hM1.out.below hb3 hsz1)
  have c1 : w2.cell? ⟨w1.heap.size, 0, none⟩ = some (.int .i64 0) := by subst hw2; go_cell
  have c2 : w2.cell? ⟨w1.heap.size + 1, 0, none⟩ = some (.int .i64 3) := by subst hw2; go_cell
  clear hw2
  go_wp2_with fail
  refine (outside1_anyI line 0 3 _ _ _ c1 c2).mono ?_
  rintro e w3 ⟨rfl, rfl⟩
  rw [O.out]
  have hb4 := hb2.trans (hb3.mono hb2.size)
  have hpw := hp.below hb4 (Nat.le_refl _)
  have hsz2 : w.heap.size < w2.heap.size := hM2.out.lt
  have U : Tryd.prog.underlying 33 = some (.array 16 26) := Tryd.underlying33
  have I : (Tryd.prog.info? 33).map (·.size) = some (s.map (Value.int .i64)).length := by rw [List.length_map, hs.out]; exact info_shield
  have k0 : w2.cell? ⟨w.heap.size, 0, none⟩ = some (.int .i64 (nth s 0)) := hM2.out.chart hs.out 0 (by omega)
  have k1 : w2.cell? ⟨w.heap.size, 1, none⟩ = some (.int .i64 (nth s 1)) := hM2.out.chart hs.out 1 (by omega)
  have k2 : w2.cell? ⟨w.heap.size, 2, none⟩ = some (.int .i64 (nth s 2)) := hM2.out.chart hs.out 2 (by omega)
  have k3 : w2.cell? ⟨w.heap.size, 3, none⟩ = some (.int .i64 (nth s 3)) := hM2.out.chart hs.out 3 (by omega)
  have kr : w2.rangeAt w.heap.size 0 (s.map (Value.int .i64)) := hM2.out.range
  clear c1 c2 hb3
  go_wp2
  go_region_held3 (fun w' => w'.cell? ⟨w.heap.size, 0, none⟩ = some (.int .i64 (nth s 0)) ∧ w'.cell? ⟨w.heap.size, 1, none⟩ = some (.int .i64 (nth s 1)) ∧ w'.cell? ⟨w.heap.size, 2, none⟩ = some (.int .i64 (nth s 2)) ∧ w'.cell? ⟨w.heap.size, 3, none⟩ = some (.int .i64 (nth s 3)) ∧ w'.rangeAt w.heap.size 0 (s.map (Value.int .i64)) ∧ Below w2.heap.size w2 w')
    (first | exact ⟨k0, k1, k2, k3, kr, (Below.refl _ _).drew⟩ | assumption | exact ⟨cell_tr hbk (by exact k0), cell_tr hbk (by exact k1), cell_tr hbk (by exact k2), cell_tr hbk (by exact k3), range_tr hbk (by exact kr), tr (Below.drew (Below.refl w2.heap.size w2)) hbk⟩)
    (first | (go_at_call 18; refine (derived_any (nth s 0) (nth s 1) (nth s 2) (nth s 3) hm.out _ (hpw.below (Below.drew (Below.refl w2.heap.size w2)) (Nat.le_refl _))).mono ?_; rintro e w' ⟨rfl, hbk⟩))
  rename_i hh
  obtain ⟨_, _, _, _, _, hbx⟩ := hh
  have hb5 : Below w.heap.size w w' := hb4.trans (hbx.mono hb4.size)
  have hM3 := Lib.hid (hM2.out.below hbx hsz2)
  have hsz3 : w.heap.size < w'.heap.size := hM3.out.lt
  clear U I k0 k1 k2 k3 kr hbk hbx hpw hb4 hb2 G N
  have hz := chkF_zero H.out
  have h16 := hs.out
  obtain ⟨l0, l1⟩ : 0 ≤ line ∧ line ≤ 3 := by have := O.out; simp [outB] at this; omega
  obtain ⟨f0, f1⟩ := hz 14 (by omega)
  have hc14 : w'.cell? ⟨w.heap.size, 14, none⟩ = some (.int .i64 (nth s 14)) := hM3.out.chart hs.out 14 (by omega)
  have Hz := Lib.hid hz
  clear hz h16
  go_wp2_with fail
  refine (single_any _ line f0 f1 l0 l1 _).mono ?_
  rintro e w4 ⟨rfl, rfl⟩
  rw [B.out]
  clear hc14 f0 f1
  go_wp2
  go_loopw [7, 8] (fun v i wr => ∃ k : Nat, k ≤ 3 ∧ i = .int .i64 (plc s line k) ∧ wr.ownsRow (w.heap.size + 1) 3 1 v (k + 1) ((wayTo s line k).map (Value.int .i64)) ∧ Below (w.heap.size + 1) w' wr) (fun _ i _ => (intOf i).toNat)
  case atStart => exact ⟨0, by omega, rfl, one_owns _ _ (by omega), (Below.refl _ _).alloc (by omega) _⟩
  case round =>
    obtain ⟨k, hk, rfl, hown, hB⟩ := hrel
    by_cases h8 : 8 ≤ plc s line k
    · have hk3 := plc_ge s line hk h8
      have HX := Lib.hid (hM3.out.below hB (by omega))
      have hpw : Par wr := hp.below (hb5.trans (hB.mono (by omega))) (Nat.le_refl _)
      have hszr : w.heap.size < wr.heap.size := HX.out.lt
      have HN : Hid (plc s line (k + 1) = nx s line (plc s line k)) := rfl
      have hcs := plc_cases s line hk3
      generalize plc s line k = p at hcs HN h8
      rcases hcs with rfl | rfl | rfl | rfl | rfl | rfl | rfl
      · have H1 := Lib.hid (hpw 0 (by omega))
        have H2 := Lib.hid (hpw 1 (by omega))
        have hca : wr.cell? ⟨w.heap.size, 0, none⟩ = some (.int .i64 (nth s 0)) := HX.out.chart hs.out 0 (by omega)
        obtain ⟨g0, g1⟩ := Hz.out 0 (by have := hs.out; omega)
        have h2 : Below (w.heap.size + 1) w' (wr.alloc (.cells #[.int .i64 0, .int .i64 1] 66)) := hB.alloc (by omega) _
        clear hpw HX hB
        cases hbt : bitB (nth s 0) line
        · have HB := Lib.hid hbt
          have HW := Lib.hid (show wayTo s line (k + 1) = wayTo s line k ++ [1] by rw [wayTo, HN.out, show nx s line 8 = 1 by unfold nx; rw [show parA 8 = 0 from rfl, show parB 8 = 1 from rfl, hbt]; rfl]; rfl)
          have HN2 := Lib.hid (show plc s line (k + 1) = 1 by rw [HN.out]; unfold nx; rw [show parA 8 = 0 from rfl, show parB 8 = 1 from rfl, hbt]; rfl)
          clear hbt HN
          go_wp2_with (first
            | (refine wpList_load_cells rfl 66 _ rfl ⟨0, 0, none⟩ rfl #[.int .i64 0, .int .i64 1] _ (two_cells H1.out H2.out) Tryd.underlying66 rfl (by kernel_rfl) ?_)
            | (go_at_call 23; refine (single_any _ line g0 g1 l0 l1 _).mono ?_; rintro e w4 ⟨rfl, rfl⟩; rw [HB.out])
            | (at_builtin; refine wpList_append_own _ rfl _ _ 39 rfl (w.heap.size + 1) 3 i0 (.int .i64 0) 1 8 Tryd.underlying39 hi hz0 hz1 hz2 rfl (by decide) _ (k + 1) _ rfl ((hown.alloc _).alloc _) ⟨wr.heap.size + 1, 0, none⟩ 1 1 [.int .i64 1] rfl rfl (news_at _ _ (by simp)) (one_int _) (by unfold maxLen; omega) (by omega) (by simp; omega) ?_))
          intro v2 w6 hown3 hg _
          have hB3 : Below (w.heap.size + 1) w' w6 := (h2.alloc (by simp; omega) _).grown hg (by simp; omega) (owns_base hown)
          clear hg h2 hown
          go_wp2
          go_roundw
          case rel => exact ⟨k + 1, by omega, by rw [HN2.out]; rfl, by rw [HW.out]; simpa using hown3, hB3⟩
          case measure => simp [intOf]
        · have HB := Lib.hid hbt
          have HW := Lib.hid (show wayTo s line (k + 1) = wayTo s line k ++ [0] by rw [wayTo, HN.out, show nx s line 8 = 0 by unfold nx; rw [show parA 8 = 0 from rfl, show parB 8 = 1 from rfl, hbt]; rfl]; rfl)
          have HN2 := Lib.hid (show plc s line (k + 1) = 0 by rw [HN.out]; unfold nx; rw [show parA 8 = 0 from rfl, show parB 8 = 1 from rfl, hbt]; rfl)
          clear hbt HN
          go_wp2_with (first
            | (refine wpList_load_cells rfl 66 _ rfl ⟨0, 0, none⟩ rfl #[.int .i64 0, .int .i64 1] _ (two_cells H1.out H2.out) Tryd.underlying66 rfl (by kernel_rfl) ?_)
            | (go_at_call 23; refine (single_any _ line g0 g1 l0 l1 _).mono ?_; rintro e w4 ⟨rfl, rfl⟩; rw [HB.out])
            | (at_builtin; refine wpList_append_own _ rfl _ _ 39 rfl (w.heap.size + 1) 3 i0 (.int .i64 0) 1 8 Tryd.underlying39 hi hz0 hz1 hz2 rfl (by decide) _ (k + 1) _ rfl ((hown.alloc _).alloc _) ⟨wr.heap.size + 1, 0, none⟩ 1 1 [.int .i64 0] rfl rfl (news_at _ _ (by simp)) (one_int _) (by unfold maxLen; omega) (by omega) (by simp; omega) ?_))
          intro v2 w6 hown3 hg _
          have hB3 : Below (w.heap.size + 1) w' w6 := (h2.alloc (by simp; omega) _).grown hg (by simp; omega) (owns_base hown)
          clear hg h2 hown
          go_wp2
          go_roundw
          case rel => exact ⟨k + 1, by omega, by rw [HN2.out]; rfl, by rw [HW.out]; simpa using hown3, hB3⟩
          case measure => simp [intOf]
      · have H1 := Lib.hid (hpw 2 (by omega))
        have H2 := Lib.hid (hpw 3 (by omega))
        have hca : wr.cell? ⟨w.heap.size, 2, none⟩ = some (.int .i64 (nth s 2)) := HX.out.chart hs.out 2 (by omega)
        obtain ⟨g0, g1⟩ := Hz.out 2 (by have := hs.out; omega)
        have h2 : Below (w.heap.size + 1) w' (wr.alloc (.cells #[.int .i64 2, .int .i64 3] 66)) := hB.alloc (by omega) _
        clear hpw HX hB
        cases hbt : bitB (nth s 2) line
        · have HB := Lib.hid hbt
          have HW := Lib.hid (show wayTo s line (k + 1) = wayTo s line k ++ [3] by rw [wayTo, HN.out, show nx s line 9 = 3 by unfold nx; rw [show parA 9 = 2 from rfl, show parB 9 = 3 from rfl, hbt]; rfl]; rfl)
          have HN2 := Lib.hid (show plc s line (k + 1) = 3 by rw [HN.out]; unfold nx; rw [show parA 9 = 2 from rfl, show parB 9 = 3 from rfl, hbt]; rfl)
          clear hbt HN
          go_wp2_with (first
            | (refine wpList_load_cells rfl 66 _ rfl ⟨0, 2, none⟩ rfl #[.int .i64 2, .int .i64 3] _ (two_cells H1.out H2.out) Tryd.underlying66 rfl (by kernel_rfl) ?_)
            | (go_at_call 23; refine (single_any _ line g0 g1 l0 l1 _).mono ?_; rintro e w4 ⟨rfl, rfl⟩; rw [HB.out])
            | (at_builtin; refine wpList_append_own _ rfl _ _ 39 rfl (w.heap.size + 1) 3 i0 (.int .i64 0) 1 8 Tryd.underlying39 hi hz0 hz1 hz2 rfl (by decide) _ (k + 1) _ rfl ((hown.alloc _).alloc _) ⟨wr.heap.size + 1, 0, none⟩ 1 1 [.int .i64 3] rfl rfl (news_at _ _ (by simp)) (one_int _) (by unfold maxLen; omega) (by omega) (by simp; omega) ?_))
          intro v2 w6 hown3 hg _
          have hB3 : Below (w.heap.size + 1) w' w6 := (h2.alloc (by simp; omega) _).grown hg (by simp; omega) (owns_base hown)
          clear hg h2 hown
          go_wp2
          go_roundw
          case rel => exact ⟨k + 1, by omega, by rw [HN2.out]; rfl, by rw [HW.out]; simpa using hown3, hB3⟩
          case measure => simp [intOf]
        · have HB := Lib.hid hbt
          have HW := Lib.hid (show wayTo s line (k + 1) = wayTo s line k ++ [2] by rw [wayTo, HN.out, show nx s line 9 = 2 by unfold nx; rw [show parA 9 = 2 from rfl, show parB 9 = 3 from rfl, hbt]; rfl]; rfl)
          have HN2 := Lib.hid (show plc s line (k + 1) = 2 by rw [HN.out]; unfold nx; rw [show parA 9 = 2 from rfl, show parB 9 = 3 from rfl, hbt]; rfl)
          clear hbt HN
          go_wp2_with (first
            | (refine wpList_load_cells rfl 66 _ rfl ⟨0, 2, none⟩ rfl #[.int .i64 2, .int .i64 3] _ (two_cells H1.out H2.out) Tryd.underlying66 rfl (by kernel_rfl) ?_)
            | (go_at_call 23; refine (single_any _ line g0 g1 l0 l1 _).mono ?_; rintro e w4 ⟨rfl, rfl⟩; rw [HB.out])
            | (at_builtin; refine wpList_append_own _ rfl _ _ 39 rfl (w.heap.size + 1) 3 i0 (.int .i64 0) 1 8 Tryd.underlying39 hi hz0 hz1 hz2 rfl (by decide) _ (k + 1) _ rfl ((hown.alloc _).alloc _) ⟨wr.heap.size + 1, 0, none⟩ 1 1 [.int .i64 2] rfl rfl (news_at _ _ (by simp)) (one_int _) (by unfold maxLen; omega) (by omega) (by simp; omega) ?_))
          intro v2 w6 hown3 hg _
          have hB3 : Below (w.heap.size + 1) w' w6 := (h2.alloc (by simp; omega) _).grown hg (by simp; omega) (owns_base hown)
          clear hg h2 hown
          go_wp2
          go_roundw
          case rel => exact ⟨k + 1, by omega, by rw [HN2.out]; rfl, by rw [HW.out]; simpa using hown3, hB3⟩
          case measure => simp [intOf]
      · have H1 := Lib.hid (hpw 4 (by omega))
        have H2 := Lib.hid (hpw 5 (by omega))
        have hca : wr.cell? ⟨w.heap.size, 4, none⟩ = some (.int .i64 (nth s 4)) := HX.out.chart hs.out 4 (by omega)
        obtain ⟨g0, g1⟩ := Hz.out 4 (by have := hs.out; omega)
        have h2 : Below (w.heap.size + 1) w' (wr.alloc (.cells #[.int .i64 4, .int .i64 5] 66)) := hB.alloc (by omega) _
        clear hpw HX hB
        cases hbt : bitB (nth s 4) line
        · have HB := Lib.hid hbt
          have HW := Lib.hid (show wayTo s line (k + 1) = wayTo s line k ++ [5] by rw [wayTo, HN.out, show nx s line 10 = 5 by unfold nx; rw [show parA 10 = 4 from rfl, show parB 10 = 5 from rfl, hbt]; rfl]; rfl)
          have HN2 := Lib.hid (show plc s line (k + 1) = 5 by rw [HN.out]; unfold nx; rw [show parA 10 = 4 from rfl, show parB 10 = 5 from rfl, hbt]; rfl)
          clear hbt HN
          go_wp2_with (first
            | (refine wpList_load_cells rfl 66 _ rfl ⟨0, 4, none⟩ rfl #[.int .i64 4, .int .i64 5] _ (two_cells H1.out H2.out) Tryd.underlying66 rfl (by kernel_rfl) ?_)
            | (go_at_call 23; refine (single_any _ line g0 g1 l0 l1 _).mono ?_; rintro e w4 ⟨rfl, rfl⟩; rw [HB.out])
            | (at_builtin; refine wpList_append_own _ rfl _ _ 39 rfl (w.heap.size + 1) 3 i0 (.int .i64 0) 1 8 Tryd.underlying39 hi hz0 hz1 hz2 rfl (by decide) _ (k + 1) _ rfl ((hown.alloc _).alloc _) ⟨wr.heap.size + 1, 0, none⟩ 1 1 [.int .i64 5] rfl rfl (news_at _ _ (by simp)) (one_int _) (by unfold maxLen; omega) (by omega) (by simp; omega) ?_))
          intro v2 w6 hown3 hg _
          have hB3 : Below (w.heap.size + 1) w' w6 := (h2.alloc (by simp; omega) _).grown hg (by simp; omega) (owns_base hown)
          clear hg h2 hown
          go_wp2
          go_roundw
          case rel => exact ⟨k + 1, by omega, by rw [HN2.out]; rfl, by rw [HW.out]; simpa using hown3, hB3⟩
          case measure => simp [intOf]
        · have HB := Lib.hid hbt
          have HW := Lib.hid (show wayTo s line (k + 1) = wayTo s line k ++ [4] by rw [wayTo, HN.out, show nx s line 10 = 4 by unfold nx; rw [show parA 10 = 4 from rfl, show parB 10 = 5 from rfl, hbt]; rfl]; rfl)
          have HN2 := Lib.hid (show plc s line (k + 1) = 4 by rw [HN.out]; unfold nx; rw [show parA 10 = 4 from rfl, show parB 10 = 5 from rfl, hbt]; rfl)
          clear hbt HN
          go_wp2_with (first
            | (refine wpList_load_cells rfl 66 _ rfl ⟨0, 4, none⟩ rfl #[.int .i64 4, .int .i64 5] _ (two_cells H1.out H2.out) Tryd.underlying66 rfl (by kernel_rfl) ?_)
            | (go_at_call 23; refine (single_any _ line g0 g1 l0 l1 _).mono ?_; rintro e w4 ⟨rfl, rfl⟩; rw [HB.out])
            | (at_builtin; refine wpList_append_own _ rfl _ _ 39 rfl (w.heap.size + 1) 3 i0 (.int .i64 0) 1 8 Tryd.underlying39 hi hz0 hz1 hz2 rfl (by decide) _ (k + 1) _ rfl ((hown.alloc _).alloc _) ⟨wr.heap.size + 1, 0, none⟩ 1 1 [.int .i64 4] rfl rfl (news_at _ _ (by simp)) (one_int _) (by unfold maxLen; omega) (by omega) (by simp; omega) ?_))
          intro v2 w6 hown3 hg _
          have hB3 : Below (w.heap.size + 1) w' w6 := (h2.alloc (by simp; omega) _).grown hg (by simp; omega) (owns_base hown)
          clear hg h2 hown
          go_wp2
          go_roundw
          case rel => exact ⟨k + 1, by omega, by rw [HN2.out]; rfl, by rw [HW.out]; simpa using hown3, hB3⟩
          case measure => simp [intOf]
      · have H1 := Lib.hid (hpw 6 (by omega))
        have H2 := Lib.hid (hpw 7 (by omega))
        have hca : wr.cell? ⟨w.heap.size, 6, none⟩ = some (.int .i64 (nth s 6)) := HX.out.chart hs.out 6 (by omega)
        obtain ⟨g0, g1⟩ := Hz.out 6 (by have := hs.out; omega)
        have h2 : Below (w.heap.size + 1) w' (wr.alloc (.cells #[.int .i64 6, .int .i64 7] 66)) := hB.alloc (by omega) _
        clear hpw HX hB
        cases hbt : bitB (nth s 6) line
        · have HB := Lib.hid hbt
          have HW := Lib.hid (show wayTo s line (k + 1) = wayTo s line k ++ [7] by rw [wayTo, HN.out, show nx s line 11 = 7 by unfold nx; rw [show parA 11 = 6 from rfl, show parB 11 = 7 from rfl, hbt]; rfl]; rfl)
          have HN2 := Lib.hid (show plc s line (k + 1) = 7 by rw [HN.out]; unfold nx; rw [show parA 11 = 6 from rfl, show parB 11 = 7 from rfl, hbt]; rfl)
          clear hbt HN
          go_wp2_with (first
            | (refine wpList_load_cells rfl 66 _ rfl ⟨0, 6, none⟩ rfl #[.int .i64 6, .int .i64 7] _ (two_cells H1.out H2.out) Tryd.underlying66 rfl (by kernel_rfl) ?_)
            | (go_at_call 23; refine (single_any _ line g0 g1 l0 l1 _).mono ?_; rintro e w4 ⟨rfl, rfl⟩; rw [HB.out])
            | (at_builtin; refine wpList_append_own _ rfl _ _ 39 rfl (w.heap.size + 1) 3 i0 (.int .i64 0) 1 8 Tryd.underlying39 hi hz0 hz1 hz2 rfl (by decide) _ (k + 1) _ rfl ((hown.alloc _).alloc _) ⟨wr.heap.size + 1, 0, none⟩ 1 1 [.int .i64 7] rfl rfl (news_at _ _ (by simp)) (one_int _) (by unfold maxLen; omega) (by omega) (by simp; omega) ?_))
          intro v2 w6 hown3 hg _
          have hB3 : Below (w.heap.size + 1) w' w6 := (h2.alloc (by simp; omega) _).grown hg (by simp; omega) (owns_base hown)
          clear hg h2 hown
          go_wp2
          go_roundw
          case rel => exact ⟨k + 1, by omega, by rw [HN2.out]; rfl, by rw [HW.out]; simpa using hown3, hB3⟩
          case measure => simp [intOf]
        · have HB := Lib.hid hbt
          have HW := Lib.hid (show wayTo s line (k + 1) = wayTo s line k ++ [6] by rw [wayTo, HN.out, show nx s line 11 = 6 by unfold nx; rw [show parA 11 = 6 from rfl, show parB 11 = 7 from rfl, hbt]; rfl]; rfl)
          have HN2 := Lib.hid (show plc s line (k + 1) = 6 by rw [HN.out]; unfold nx; rw [show parA 11 = 6 from rfl, show parB 11 = 7 from rfl, hbt]; rfl)
          clear hbt HN
          go_wp2_with (first
            | (refine wpList_load_cells rfl 66 _ rfl ⟨0, 6, none⟩ rfl #[.int .i64 6, .int .i64 7] _ (two_cells H1.out H2.out) Tryd.underlying66 rfl (by kernel_rfl) ?_)
            | (go_at_call 23; refine (single_any _ line g0 g1 l0 l1 _).mono ?_; rintro e w4 ⟨rfl, rfl⟩; rw [HB.out])
            | (at_builtin; refine wpList_append_own _ rfl _ _ 39 rfl (w.heap.size + 1) 3 i0 (.int .i64 0) 1 8 Tryd.underlying39 hi hz0 hz1 hz2 rfl (by decide) _ (k + 1) _ rfl ((hown.alloc _).alloc _) ⟨wr.heap.size + 1, 0, none⟩ 1 1 [.int .i64 6] rfl rfl (news_at _ _ (by simp)) (one_int _) (by unfold maxLen; omega) (by omega) (by simp; omega) ?_))
          intro v2 w6 hown3 hg _
          have hB3 : Below (w.heap.size + 1) w' w6 := (h2.alloc (by simp; omega) _).grown hg (by simp; omega) (owns_base hown)
          clear hg h2 hown
          go_wp2
          go_roundw
          case rel => exact ⟨k + 1, by omega, by rw [HN2.out]; rfl, by rw [HW.out]; simpa using hown3, hB3⟩
          case measure => simp [intOf]
      · have H1 := Lib.hid (hpw 8 (by omega))
        have H2 := Lib.hid (hpw 9 (by omega))
        have hca : wr.cell? ⟨w.heap.size, 8, none⟩ = some (.int .i64 (nth s 8)) := HX.out.chart hs.out 8 (by omega)
        obtain ⟨g0, g1⟩ := Hz.out 8 (by have := hs.out; omega)
        have h2 : Below (w.heap.size + 1) w' (wr.alloc (.cells #[.int .i64 8, .int .i64 9] 66)) := hB.alloc (by omega) _
        clear hpw HX hB
        cases hbt : bitB (nth s 8) line
        · have HB := Lib.hid hbt
          have HW := Lib.hid (show wayTo s line (k + 1) = wayTo s line k ++ [9] by rw [wayTo, HN.out, show nx s line 12 = 9 by unfold nx; rw [show parA 12 = 8 from rfl, show parB 12 = 9 from rfl, hbt]; rfl]; rfl)
          have HN2 := Lib.hid (show plc s line (k + 1) = 9 by rw [HN.out]; unfold nx; rw [show parA 12 = 8 from rfl, show parB 12 = 9 from rfl, hbt]; rfl)
          clear hbt HN
          go_wp2_with (first
            | (refine wpList_load_cells rfl 66 _ rfl ⟨0, 8, none⟩ rfl #[.int .i64 8, .int .i64 9] _ (two_cells H1.out H2.out) Tryd.underlying66 rfl (by kernel_rfl) ?_)
            | (go_at_call 23; refine (single_any _ line g0 g1 l0 l1 _).mono ?_; rintro e w4 ⟨rfl, rfl⟩; rw [HB.out])
            | (at_builtin; refine wpList_append_own _ rfl _ _ 39 rfl (w.heap.size + 1) 3 i0 (.int .i64 0) 1 8 Tryd.underlying39 hi hz0 hz1 hz2 rfl (by decide) _ (k + 1) _ rfl ((hown.alloc _).alloc _) ⟨wr.heap.size + 1, 0, none⟩ 1 1 [.int .i64 9] rfl rfl (news_at _ _ (by simp)) (one_int _) (by unfold maxLen; omega) (by omega) (by simp; omega) ?_))
          intro v2 w6 hown3 hg _
          have hB3 : Below (w.heap.size + 1) w' w6 := (h2.alloc (by simp; omega) _).grown hg (by simp; omega) (owns_base hown)
          clear hg h2 hown
          go_wp2
          go_roundw
          case rel => exact ⟨k + 1, by omega, by rw [HN2.out]; rfl, by rw [HW.out]; simpa using hown3, hB3⟩
          case measure => simp [intOf]
        · have HB := Lib.hid hbt
          have HW := Lib.hid (show wayTo s line (k + 1) = wayTo s line k ++ [8] by rw [wayTo, HN.out, show nx s line 12 = 8 by unfold nx; rw [show parA 12 = 8 from rfl, show parB 12 = 9 from rfl, hbt]; rfl]; rfl)
          have HN2 := Lib.hid (show plc s line (k + 1) = 8 by rw [HN.out]; unfold nx; rw [show parA 12 = 8 from rfl, show parB 12 = 9 from rfl, hbt]; rfl)
          clear hbt HN
          go_wp2_with (first
            | (refine wpList_load_cells rfl 66 _ rfl ⟨0, 8, none⟩ rfl #[.int .i64 8, .int .i64 9] _ (two_cells H1.out H2.out) Tryd.underlying66 rfl (by kernel_rfl) ?_)
            | (go_at_call 23; refine (single_any _ line g0 g1 l0 l1 _).mono ?_; rintro e w4 ⟨rfl, rfl⟩; rw [HB.out])
            | (at_builtin; refine wpList_append_own _ rfl _ _ 39 rfl (w.heap.size + 1) 3 i0 (.int .i64 0) 1 8 Tryd.underlying39 hi hz0 hz1 hz2 rfl (by decide) _ (k + 1) _ rfl ((hown.alloc _).alloc _) ⟨wr.heap.size + 1, 0, none⟩ 1 1 [.int .i64 8] rfl rfl (news_at _ _ (by simp)) (one_int _) (by unfold maxLen; omega) (by omega) (by simp; omega) ?_))
          intro v2 w6 hown3 hg _
          have hB3 : Below (w.heap.size + 1) w' w6 := (h2.alloc (by simp; omega) _).grown hg (by simp; omega) (owns_base hown)
          clear hg h2 hown
          go_wp2
          go_roundw
          case rel => exact ⟨k + 1, by omega, by rw [HN2.out]; rfl, by rw [HW.out]; simpa using hown3, hB3⟩
          case measure => simp [intOf]
      · have H1 := Lib.hid (hpw 10 (by omega))
        have H2 := Lib.hid (hpw 11 (by omega))
        have hca : wr.cell? ⟨w.heap.size, 10, none⟩ = some (.int .i64 (nth s 10)) := HX.out.chart hs.out 10 (by omega)
        obtain ⟨g0, g1⟩ := Hz.out 10 (by have := hs.out; omega)
        have h2 : Below (w.heap.size + 1) w' (wr.alloc (.cells #[.int .i64 10, .int .i64 11] 66)) := hB.alloc (by omega) _
        clear hpw HX hB
        cases hbt : bitB (nth s 10) line
        · have HB := Lib.hid hbt
          have HW := Lib.hid (show wayTo s line (k + 1) = wayTo s line k ++ [11] by rw [wayTo, HN.out, show nx s line 13 = 11 by unfold nx; rw [show parA 13 = 10 from rfl, show parB 13 = 11 from rfl, hbt]; rfl]; rfl)
          have HN2 := Lib.hid (show plc s line (k + 1) = 11 by rw [HN.out]; unfold nx; rw [show parA 13 = 10 from rfl, show parB 13 = 11 from rfl, hbt]; rfl)
          clear hbt HN
          go_wp2_with (first
            | (refine wpList_load_cells rfl 66 _ rfl ⟨0, 10, none⟩ rfl #[.int .i64 10, .int .i64 11] _ (two_cells H1.out H2.out) Tryd.underlying66 rfl (by kernel_rfl) ?_)
            | (go_at_call 23; refine (single_any _ line g0 g1 l0 l1 _).mono ?_; rintro e w4 ⟨rfl, rfl⟩; rw [HB.out])
            | (at_builtin; refine wpList_append_own _ rfl _ _ 39 rfl (w.heap.size + 1) 3 i0 (.int .i64 0) 1 8 Tryd.underlying39 hi hz0 hz1 hz2 rfl (by decide) _ (k + 1) _ rfl ((hown.alloc _).alloc _) ⟨wr.heap.size + 1, 0, none⟩ 1 1 [.int .i64 11] rfl rfl (news_at _ _ (by simp)) (one_int _) (by unfold maxLen; omega) (by omega) (by simp; omega) ?_))
          intro v2 w6 hown3 hg _
          have hB3 : Below (w.heap.size + 1) w' w6 := (h2.alloc (by simp; omega) _).grown hg (by simp; omega) (owns_base hown)
          clear hg h2 hown
          go_wp2
          go_roundw
          case rel => exact ⟨k + 1, by omega, by rw [HN2.out]; rfl, by rw [HW.out]; simpa using hown3, hB3⟩
          case measure => simp [intOf]
        · have HB := Lib.hid hbt
          have HW := Lib.hid (show wayTo s line (k + 1) = wayTo s line k ++ [10] by rw [wayTo, HN.out, show nx s line 13 = 10 by unfold nx; rw [show parA 13 = 10 from rfl, show parB 13 = 11 from rfl, hbt]; rfl]; rfl)
          have HN2 := Lib.hid (show plc s line (k + 1) = 10 by rw [HN.out]; unfold nx; rw [show parA 13 = 10 from rfl, show parB 13 = 11 from rfl, hbt]; rfl)
          clear hbt HN
          go_wp2_with (first
            | (refine wpList_load_cells rfl 66 _ rfl ⟨0, 10, none⟩ rfl #[.int .i64 10, .int .i64 11] _ (two_cells H1.out H2.out) Tryd.underlying66 rfl (by kernel_rfl) ?_)
            | (go_at_call 23; refine (single_any _ line g0 g1 l0 l1 _).mono ?_; rintro e w4 ⟨rfl, rfl⟩; rw [HB.out])
            | (at_builtin; refine wpList_append_own _ rfl _ _ 39 rfl (w.heap.size + 1) 3 i0 (.int .i64 0) 1 8 Tryd.underlying39 hi hz0 hz1 hz2 rfl (by decide) _ (k + 1) _ rfl ((hown.alloc _).alloc _) ⟨wr.heap.size + 1, 0, none⟩ 1 1 [.int .i64 10] rfl rfl (news_at _ _ (by simp)) (one_int _) (by unfold maxLen; omega) (by omega) (by simp; omega) ?_))
          intro v2 w6 hown3 hg _
          have hB3 : Below (w.heap.size + 1) w' w6 := (h2.alloc (by simp; omega) _).grown hg (by simp; omega) (owns_base hown)
          clear hg h2 hown
          go_wp2
          go_roundw
          case rel => exact ⟨k + 1, by omega, by rw [HN2.out]; rfl, by rw [HW.out]; simpa using hown3, hB3⟩
          case measure => simp [intOf]
      · have H1 := Lib.hid (hpw 12 (by omega))
        have H2 := Lib.hid (hpw 13 (by omega))
        have hca : wr.cell? ⟨w.heap.size, 12, none⟩ = some (.int .i64 (nth s 12)) := HX.out.chart hs.out 12 (by omega)
        obtain ⟨g0, g1⟩ := Hz.out 12 (by have := hs.out; omega)
        have h2 : Below (w.heap.size + 1) w' (wr.alloc (.cells #[.int .i64 12, .int .i64 13] 66)) := hB.alloc (by omega) _
        clear hpw HX hB
        cases hbt : bitB (nth s 12) line
        · have HB := Lib.hid hbt
          have HW := Lib.hid (show wayTo s line (k + 1) = wayTo s line k ++ [13] by rw [wayTo, HN.out, show nx s line 14 = 13 by unfold nx; rw [show parA 14 = 12 from rfl, show parB 14 = 13 from rfl, hbt]; rfl]; rfl)
          have HN2 := Lib.hid (show plc s line (k + 1) = 13 by rw [HN.out]; unfold nx; rw [show parA 14 = 12 from rfl, show parB 14 = 13 from rfl, hbt]; rfl)
          clear hbt HN
          go_wp2_with (first
            | (refine wpList_load_cells rfl 66 _ rfl ⟨0, 12, none⟩ rfl #[.int .i64 12, .int .i64 13] _ (two_cells H1.out H2.out) Tryd.underlying66 rfl (by kernel_rfl) ?_)
            | (go_at_call 23; refine (single_any _ line g0 g1 l0 l1 _).mono ?_; rintro e w4 ⟨rfl, rfl⟩; rw [HB.out])
            | (at_builtin; refine wpList_append_own _ rfl _ _ 39 rfl (w.heap.size + 1) 3 i0 (.int .i64 0) 1 8 Tryd.underlying39 hi hz0 hz1 hz2 rfl (by decide) _ (k + 1) _ rfl ((hown.alloc _).alloc _) ⟨wr.heap.size + 1, 0, none⟩ 1 1 [.int .i64 13] rfl rfl (news_at _ _ (by simp)) (one_int _) (by unfold maxLen; omega) (by omega) (by simp; omega) ?_))
          intro v2 w6 hown3 hg _
          have hB3 : Below (w.heap.size + 1) w' w6 := (h2.alloc (by simp; omega) _).grown hg (by simp; omega) (owns_base hown)
          clear hg h2 hown
          go_wp2
          go_roundw
          case rel => exact ⟨k + 1, by omega, by rw [HN2.out]; rfl, by rw [HW.out]; simpa using hown3, hB3⟩
          case measure => simp [intOf]
        · have HB := Lib.hid hbt
          have HW := Lib.hid (show wayTo s line (k + 1) = wayTo s line k ++ [12] by rw [wayTo, HN.out, show nx s line 14 = 12 by unfold nx; rw [show parA 14 = 12 from rfl, show parB 14 = 13 from rfl, hbt]; rfl]; rfl)
          have HN2 := Lib.hid (show plc s line (k + 1) = 12 by rw [HN.out]; unfold nx; rw [show parA 14 = 12 from rfl, show parB 14 = 13 from rfl, hbt]; rfl)
          clear hbt HN
          go_wp2_with (first
            | (refine wpList_load_cells rfl 66 _ rfl ⟨0, 12, none⟩ rfl #[.int .i64 12, .int .i64 13] _ (two_cells H1.out H2.out) Tryd.underlying66 rfl (by kernel_rfl) ?_)
            | (go_at_call 23; refine (single_any _ line g0 g1 l0 l1 _).mono ?_; rintro e w4 ⟨rfl, rfl⟩; rw [HB.out])
            | (at_builtin; refine wpList_append_own _ rfl _ _ 39 rfl (w.heap.size + 1) 3 i0 (.int .i64 0) 1 8 Tryd.underlying39 hi hz0 hz1 hz2 rfl (by decide) _ (k + 1) _ rfl ((hown.alloc _).alloc _) ⟨wr.heap.size + 1, 0, none⟩ 1 1 [.int .i64 12] rfl rfl (news_at _ _ (by simp)) (one_int _) (by unfold maxLen; omega) (by omega) (by simp; omega) ?_))
          intro v2 w6 hown3 hg _
          have hB3 : Below (w.heap.size + 1) w' w6 := (h2.alloc (by simp; omega) _).grown hg (by simp; omega) (owns_base hown)
          clear hg h2 hown
          go_wp2
          go_roundw
          case rel => exact ⟨k + 1, by omega, by rw [HN2.out]; rfl, by rw [HW.out]; simpa using hown3, hB3⟩
          case measure => simp [intOf]
    · have hk3 := plc_lt s line hk (by omega)
      subst hk3
      go_wp2
      obtain ⟨q, c, rfl, hrd⟩ := Got.of_owns hown
      go_ret2
      exact ⟨⟨q, c, by rw [wayTo_len]; rfl, hrd⟩, hb5.trans (hB.mono (by omega))⟩

theorem way_any (s : List Int) (line : Int) (hs : s.length = 16) (w : World) (hp : Par w) :
    Calls Tryd.prog 11 #[.agg (arr s), .int .i64 line] w fun e w' => (∃ q c, e = .returned (.tuple #[.slice q (wayV s line).length c, .int .i64 (wayE s line)]) ∧ Reads w' q (wayV s line)) ∧ Below w.heap.size w w' := by
  rcases chkF_or s with h | h
  · by_cases ho : outB 0 3 line = true
    · have e1 : wayE s line = 3 := by simp [wayE, h, ho]
      have e2 : wayV s line = [] := by simp [wayV, e1]
      rw [e1, e2]
      refine (way_range s line hs w h ho).mono ?_
      rintro e w' ⟨rfl, hb⟩
      exact ⟨⟨_, _, rfl, Reads.nil _ _⟩, hb⟩
    · have ho' : outB 0 3 line = false := by simpa using ho
      by_cases hd : dP (moth s) 16 = s
      · by_cases hb : bitB (nth s 14) line = true
        · have e1 : wayE s line = 0 := by simp [wayE, h, ho', hd, hb]
          have e2 : wayV s line = wayTo s line 3 := by simp [wayV, e1]
          rw [e1, e2, wayTo_len]
          exact way_some s line hs w hp h ho' hd hb
        · have hb' : bitB (nth s 14) line = false := by simpa using hb
          have e1 : wayE s line = 7 := by simp [wayE, h, ho', hd, hb']
          have e2 : wayV s line = [] := by simp [wayV, e1]
          rw [e1, e2]
          refine (way_none s line hs w hp h ho' hd hb').mono ?_
          rintro e w' ⟨rfl, hb⟩
          exact ⟨⟨_, _, rfl, Reads.nil _ _⟩, hb⟩
      · have e1 : wayE s line = 30 := by simp [wayE, h, ho', hd]
        have e2 : wayV s line = [] := by simp [wayV, e1]
        rw [e1, e2]
        refine (way_wrong s line hs w hp h ho' hd).mono ?_
        rintro e w' ⟨rfl, hb⟩
        exact ⟨⟨_, _, rfl, Reads.nil _ _⟩, hb⟩
  · have e1 : wayE s line = 2 := by simp [wayE, h]
    have e2 : wayV s line = [] := by simp [wayV, e1]
    rw [e1, e2]
    refine (way_arg s line hs w h).mono ?_
    rintro e w' ⟨rfl, hb⟩
    exact ⟨⟨_, _, rfl, Reads.nil _ _⟩, hb⟩
end Go.Proofs.YthioojappmnnaaaDoor
