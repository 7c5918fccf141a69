/-
  The circle of houses: Stands.
-/
import Derived.Test.YtdnccdobnhbpeaaDoorHoJe
import Derived.Test.YtdnccdobnhbpeaaDoorHoJf
namespace Go.Proofs.YtdnccdobnhbpeaaDoor
open Go Go.RowKit Go.Maps Go.ChangeShapes
set_option linter.unusedVariables false

def actS (s0 s1 s2 s3 s4 s5 s6 s7 s8 s9 s10 s11 s12 s13 s14 s15 s16 s17 u18 u19 u20 u21 u22 u23 : Value) (b : Nat) (v18 v19 v20 v21 v22 v23 : Value) : Act := { tmps := #[s0, s1, s2, s3, if b.testBit 6 = true then v23 else s4, if b.testBit 7 = true then .int .i64 0 else s5, s6, s7, s8, s9, s10, s11, s12, s13, s14, s15, s16, s17, if b.testBit 0 = true then v18 else u18, if b.testBit 1 = true then v19 else u19, if b.testBit 2 = true then v20 else u20, if b.testBit 3 = true then v21 else u21, if b.testBit 4 = true then v22 else u22, if b.testBit 5 = true then v23 else u23], defers := [] }
section
variable (s0 s1 s2 s3 s4 s5 s6 s7 s8 s9 s10 s11 s12 s13 s14 s15 s16 s17 u18 u19 u20 u21 u22 u23 : Value) (b : Nat) (v18 v19 v20 v21 v22 v23 : Value)
theorem actS_0 : (actS s0 s1 s2 s3 s4 s5 s6 s7 s8 s9 s10 s11 s12 s13 s14 s15 s16 s17 u18 u19 u20 u21 u22 u23 b v18 v19 v20 v21 v22 v23).put (some 18) v18 = actS s0 s1 s2 s3 s4 s5 s6 s7 s8 s9 s10 s11 s12 s13 s14 s15 s16 s17 u18 u19 u20 u21 u22 u23 (b ||| 2 ^ 0) v18 v19 v20 v21 v22 v23 := by
  unfold actS
  simp only [tbJ]
  simp [Act.put]
theorem actS_1 : (actS s0 s1 s2 s3 s4 s5 s6 s7 s8 s9 s10 s11 s12 s13 s14 s15 s16 s17 u18 u19 u20 u21 u22 u23 b v18 v19 v20 v21 v22 v23).put (some 19) v19 = actS s0 s1 s2 s3 s4 s5 s6 s7 s8 s9 s10 s11 s12 s13 s14 s15 s16 s17 u18 u19 u20 u21 u22 u23 (b ||| 2 ^ 1) v18 v19 v20 v21 v22 v23 := by
  unfold actS
  simp only [tbJ]
  simp [Act.put]
theorem actS_2 : (actS s0 s1 s2 s3 s4 s5 s6 s7 s8 s9 s10 s11 s12 s13 s14 s15 s16 s17 u18 u19 u20 u21 u22 u23 b v18 v19 v20 v21 v22 v23).put (some 20) v20 = actS s0 s1 s2 s3 s4 s5 s6 s7 s8 s9 s10 s11 s12 s13 s14 s15 s16 s17 u18 u19 u20 u21 u22 u23 (b ||| 2 ^ 2) v18 v19 v20 v21 v22 v23 := by
  unfold actS
  simp only [tbJ]
  simp [Act.put]
theorem actS_3 : (actS s0 s1 s2 s3 s4 s5 s6 s7 s8 s9 s10 s11 s12 s13 s14 s15 s16 s17 u18 u19 u20 u21 u22 u23 b v18 v19 v20 v21 v22 v23).put (some 21) v21 = actS s0 s1 s2 s3 s4 s5 s6 s7 s8 s9 s10 s11 s12 s13 s14 s15 s16 s17 u18 u19 u20 u21 u22 u23 (b ||| 2 ^ 3) v18 v19 v20 v21 v22 v23 := by
  unfold actS
  simp only [tbJ]
  simp [Act.put]
theorem actS_4 : (actS s0 s1 s2 s3 s4 s5 s6 s7 s8 s9 s10 s11 s12 s13 s14 s15 s16 s17 u18 u19 u20 u21 u22 u23 b v18 v19 v20 v21 v22 v23).put (some 22) v22 = actS s0 s1 s2 s3 s4 s5 s6 s7 s8 s9 s10 s11 s12 s13 s14 s15 s16 s17 u18 u19 u20 u21 u22 u23 (b ||| 2 ^ 4) v18 v19 v20 v21 v22 v23 := by
  unfold actS
  simp only [tbJ]
  simp [Act.put]
theorem actS_5 : (actS s0 s1 s2 s3 s4 s5 s6 s7 s8 s9 s10 s11 s12 s13 s14 s15 s16 s17 u18 u19 u20 u21 u22 u23 b v18 v19 v20 v21 v22 v23).put (some 23) v23 = actS s0 s1 s2 s3 s4 s5 s6 s7 s8 s9 s10 s11 s12 s13 s14 s15 s16 s17 u18 u19 u20 u21 u22 u23 (b ||| 2 ^ 5) v18 v19 v20 v21 v22 v23 := by
  unfold actS
  simp only [tbJ]
  simp [Act.put]
theorem actS_6 : (actS s0 s1 s2 s3 s4 s5 s6 s7 s8 s9 s10 s11 s12 s13 s14 s15 s16 s17 u18 u19 u20 u21 u22 u23 b v18 v19 v20 v21 v22 v23).put (some 4) v23 = actS s0 s1 s2 s3 s4 s5 s6 s7 s8 s9 s10 s11 s12 s13 s14 s15 s16 s17 u18 u19 u20 u21 u22 u23 (b ||| 2 ^ 6) v18 v19 v20 v21 v22 v23 := by
  unfold actS
  simp only [tbJ]
  simp [Act.put]
theorem actS_7 : (actS s0 s1 s2 s3 s4 s5 s6 s7 s8 s9 s10 s11 s12 s13 s14 s15 s16 s17 u18 u19 u20 u21 u22 u23 b v18 v19 v20 v21 v22 v23).put (some 5) (.int .i64 0) = actS s0 s1 s2 s3 s4 s5 s6 s7 s8 s9 s10 s11 s12 s13 s14 s15 s16 s17 u18 u19 u20 u21 u22 u23 (b ||| 2 ^ 7) v18 v19 v20 v21 v22 v23 := by
  unfold actS
  simp only [tbJ]
  simp [Act.put]
theorem actS_any (h5 : b.testBit 5 = false) (h6 : b.testBit 6 = false) (y : Value) : actS s0 s1 s2 s3 s4 s5 s6 s7 s8 s9 s10 s11 s12 s13 s14 s15 s16 s17 u18 u19 u20 u21 u22 u23 b v18 v19 v20 v21 v22 v23 = actS s0 s1 s2 s3 s4 s5 s6 s7 s8 s9 s10 s11 s12 s13 s14 s15 s16 s17 u18 u19 u20 u21 u22 u23 b v18 v19 v20 v21 v22 y := by
  unfold actS
  simp [h5, h6]
end
def depsS (i : Nat) : List Nat := [[], [0], [], [], [2, 3], [1, 4], [5], [6]].getD i []
def KS (W5 : World) (base S5 : Nat) (cs : Array Value) (D : DataW Unit) (f : Int) (b : Nat) (v : Value) (V1 : World) : Prop :=
  Blk V1 S5 84 cs ∧ Below W5.heap.size W5 V1 ∧ (b.testBit 6 = true → b.testBit 5 = true) ∧ (b.testBit 5 = true → b.testBit 4 = true ∧ ∃ zs, V1.ownsInts base 3 .i64 v zs ∧ D.atKey (.int .i64 f) .nil = rowDatum .i64 v zs)
theorem keepKS {W5 : World} {base S5 : Nat} {cs : Array Value} {D : DataW Unit} {f : Int} {b : Nat} {v : Value} {V1 : World} (h : KS W5 base S5 cs D f b v V1) {i : Nat} (hi : i ≠ 4 ∧ i ≠ 5 ∧ i ≠ 6) : KS W5 base S5 cs D f (b ||| 2 ^ i) v V1 := by
  have e : ∀ x, x ≠ i → (b ||| 2 ^ i).testBit x = b.testBit x := fun x hx => by rw [tbJ]; simp [Ne.symm hx]
  obtain ⟨h4, h5, h6⟩ := hi
  refine ⟨h.1, h.2.1, ?_, ?_⟩
  · rw [e 6 h6.symm, e 5 h5.symm]; exact h.2.2.1
  · rw [e 5 h5.symm, e 4 h4.symm]; exact h.2.2.2
set_option maxRecDepth 100000 in
set_option maxHeartbeats 8000000 in
theorem stands_ok (s0 s1 s2 s3 s4 s5 s6 s7 s8 s9 s10 s11 : Int) (k : Nat) (hk : k < 12) (HC : Hid (chkF [s0, s1, s2, s3, s4, s5, s6, s7, s8, s9, s10, s11] = 0)) (HN : Hid (chkH [(k : Int) + 1] = 0)) (w : World) :
    Calls Tryd.prog 8 #[.agg #[.int .i64 s0, .int .i64 s1, .int .i64 s2, .int .i64 s3, .int .i64 s4, .int .i64 s5, .int .i64 s6, .int .i64 s7, .int .i64 s8, .int .i64 s9, .int .i64 s10, .int .i64 s11], .int .i64 ((k : Int) + 1)] w fun e w' => ∃ (base : Nat) (v : Value) (zs : List Int), e = .returned (.tuple #[v, .int .i64 0]) ∧ zs = standL [s0, s1, s2, s3, s4, s5, s6, s7, s8, s9, s10, s11] (nth [s0, s1, s2, s3, s4, s5, s6, s7, s8, s9, s10, s11] k) 12 ∧ w'.ownsInts base 3 .i64 v zs ∧ Below w.heap.size w w' := by
  have hX : Blk (w.alloc (.cells #[.int .i64 s0, .int .i64 s1, .int .i64 s2, .int .i64 s3, .int .i64 s4, .int .i64 s5, .int .i64 s6, .int .i64 s7, .int .i64 s8, .int .i64 s9, .int .i64 s10, .int .i64 s11] 24)) w.heap.size 24 #[.int .i64 s0, .int .i64 s1, .int .i64 s2, .int .i64 s3, .int .i64 s4, .int .i64 s5, .int .i64 s6, .int .i64 s7, .int .i64 s8, .int .i64 s9, .int .i64 s10, .int .i64 s11] := blk_newN _ _ rfl
  have c0 : (w.alloc (.cells #[.int .i64 s0, .int .i64 s1, .int .i64 s2, .int .i64 s3, .int .i64 s4, .int .i64 s5, .int .i64 s6, .int .i64 s7, .int .i64 s8, .int .i64 s9, .int .i64 s10, .int .i64 s11] 24)).cell? ⟨w.heap.size, 0, none⟩ = some (.int .i64 s0) := hX.cell 0
  have c1 : (w.alloc (.cells #[.int .i64 s0, .int .i64 s1, .int .i64 s2, .int .i64 s3, .int .i64 s4, .int .i64 s5, .int .i64 s6, .int .i64 s7, .int .i64 s8, .int .i64 s9, .int .i64 s10, .int .i64 s11] 24)).cell? ⟨w.heap.size, 1, none⟩ = some (.int .i64 s1) := hX.cell 1
  have c2 : (w.alloc (.cells #[.int .i64 s0, .int .i64 s1, .int .i64 s2, .int .i64 s3, .int .i64 s4, .int .i64 s5, .int .i64 s6, .int .i64 s7, .int .i64 s8, .int .i64 s9, .int .i64 s10, .int .i64 s11] 24)).cell? ⟨w.heap.size, 2, none⟩ = some (.int .i64 s2) := hX.cell 2
  have c3 : (w.alloc (.cells #[.int .i64 s0, .int .i64 s1, .int .i64 s2, .int .i64 s3, .int .i64 s4, .int .i64 s5, .int .i64 s6, .int .i64 s7, .int .i64 s8, .int .i64 s9, .int .i64 s10, .int .i64 s11] 24)).cell? ⟨w.heap.size, 3, none⟩ = some (.int .i64 s3) := hX.cell 3
  have c4 : (w.alloc (.cells #[.int .i64 s0, .int .i64 s1, .int .i64 s2, .int .i64 s3, .int .i64 s4, .int .i64 s5, .int .i64 s6, .int .i64 s7, .int .i64 s8, .int .i64 s9, .int .i64 s10, .int .i64 s11] 24)).cell? ⟨w.heap.size, 4, none⟩ = some (.int .i64 s4) := hX.cell 4
  have c5 : (w.alloc (.cells #[.int .i64 s0, .int .i64 s1, .int .i64 s2, .int .i64 s3, .int .i64 s4, .int .i64 s5, .int .i64 s6, .int .i64 s7, .int .i64 s8, .int .i64 s9, .int .i64 s10, .int .i64 s11] 24)).cell? ⟨w.heap.size, 5, none⟩ = some (.int .i64 s5) := hX.cell 5
  have c6 : (w.alloc (.cells #[.int .i64 s0, .int .i64 s1, .int .i64 s2, .int .i64 s3, .int .i64 s4, .int .i64 s5, .int .i64 s6, .int .i64 s7, .int .i64 s8, .int .i64 s9, .int .i64 s10, .int .i64 s11] 24)).cell? ⟨w.heap.size, 6, none⟩ = some (.int .i64 s6) := hX.cell 6
  have c7 : (w.alloc (.cells #[.int .i64 s0, .int .i64 s1, .int .i64 s2, .int .i64 s3, .int .i64 s4, .int .i64 s5, .int .i64 s6, .int .i64 s7, .int .i64 s8, .int .i64 s9, .int .i64 s10, .int .i64 s11] 24)).cell? ⟨w.heap.size, 7, none⟩ = some (.int .i64 s7) := hX.cell 7
  have c8 : (w.alloc (.cells #[.int .i64 s0, .int .i64 s1, .int .i64 s2, .int .i64 s3, .int .i64 s4, .int .i64 s5, .int .i64 s6, .int .i64 s7, .int .i64 s8, .int .i64 s9, .int .i64 s10, .int .i64 s11] 24)).cell? ⟨w.heap.size, 8, none⟩ = some (.int .i64 s8) := hX.cell 8
  have c9 : (w.alloc (.cells #[.int .i64 s0, .int .i64 s1, .int .i64 s2, .int .i64 s3, .int .i64 s4, .int .i64 s5, .int .i64 s6, .int .i64 s7, .int .i64 s8, .int .i64 s9, .int .i64 s10, .int .i64 s11] 24)).cell? ⟨w.heap.size, 9, none⟩ = some (.int .i64 s9) := hX.cell 9
  have c10 : (w.alloc (.cells #[.int .i64 s0, .int .i64 s1, .int .i64 s2, .int .i64 s3, .int .i64 s4, .int .i64 s5, .int .i64 s6, .int .i64 s7, .int .i64 s8, .int .i64 s9, .int .i64 s10, .int .i64 s11] 24)).cell? ⟨w.heap.size, 10, none⟩ = some (.int .i64 s10) := hX.cell 10
  have c11 : (w.alloc (.cells #[.int .i64 s0, .int .i64 s1, .int .i64 s2, .int .i64 s3, .int .i64 s4, .int .i64 s5, .int .i64 s6, .int .i64 s7, .int .i64 s8, .int .i64 s9, .int .i64 s10, .int .i64 s11] 24)).cell? ⟨w.heap.size, 11, none⟩ = some (.int .i64 s11) := hX.cell 11
  go_enter Tryd.func8, Tryd.ntmps8
  go_wp2_with fail
  clear c0 c1 c2 c3 c4 c5 c6 c7 c8 c9 c10 c11
  refine (enter_ok s0 s1 s2 s3 s4 s5 s6 s7 s8 s9 s10 s11 ((k : Int) + 1) HC HN _ _ _ (Blk.reads (xs := [(k : Int) + 1]) (blk_newN 3 _ (by simp)))).mono ?_
  rintro e w4 ⟨base, mb, D, rfl, hmb, hog, hat, hb4⟩
  have hB4 : Below w.heap.size w w4 := ((((Below.refl _ _).alloc (Nat.le_refl _) _).alloc (by simp) _).trans (hb4.mono (by simp; omega)))
  clear hb4 hX
  have HI13 := Lib.hid (show (Tryd.prog.info? 84).map (·.size) = some (#[.int .i64 s0, .int .i64 s1, .int .i64 s2, .int .i64 s3, .int .i64 s4, .int .i64 s5, .int .i64 s6, .int .i64 s7, .int .i64 s8, .int .i64 s9, .int .i64 s10, .int .i64 s11, .map (some mb)] : Array Value).size from info_circle)
  have HZ := Lib.hid (show Blk (w4.alloc (.cells #[.int .i64 0, .int .i64 0, .int .i64 0, .int .i64 0, .int .i64 0, .int .i64 0, .int .i64 0, .int .i64 0, .int .i64 0, .int .i64 0, .int .i64 0, .int .i64 0, .map none] 84)) w4.heap.size 84 #[.int .i64 0, .int .i64 0, .int .i64 0, .int .i64 0, .int .i64 0, .int .i64 0, .int .i64 0, .int .i64 0, .int .i64 0, .int .i64 0, .int .i64 0, .int .i64 0, .map none] from blk_newN _ _ rfl)
  go_wp2_with (first
    | (refine wpList_store_row rfl 84 (.tmp 6) (.tmp 13) rfl w4.heap.size #[.int .i64 s0, .int .i64 s1, .int .i64 s2, .int .i64 s3, .int .i64 s4, .int .i64 s5, .int .i64 s6, .int .i64 s7, .int .i64 s8, .int .i64 s9, .int .i64 s10, .int .i64 s11, .map (some mb)] rfl rfl 84 _ HZ.out HI13.out rfl (by simp [Value.oneCell']) ?_) | fail)
  generalize hW5 : World.setRow _ _ _ = W5
  have hS5 : w4.heap.size < W5.heap.size := by rw [← hW5]; simp [World.setRow]
  have hst : Blk W5 w4.heap.size 84 #[.int .i64 s0, .int .i64 s1, .int .i64 s2, .int .i64 s3, .int .i64 s4, .int .i64 s5, .int .i64 s6, .int .i64 s7, .int .i64 s8, .int .i64 s9, .int .i64 s10, .int .i64 s11, .map (some mb)] := by rw [← hW5]; exact HZ.out.row _
  have hg5 : w4.grownBy W5 none := by
    rw [← hW5]
    exact ⟨rfl, rfl, rfl, by simp [World.setRow], fun j hj _ => (setRow_other _ w4.heap.size j _ (by omega)).trans (Below.heap_alloc _ _ j hj)⟩
  have HOG := Lib.hid (groups_kept hog hg5 (fun r e => by cases e))
  have hB5 : Below w.heap.size w W5 := hB4.grown hg5 hB4.size (fun j e => by cases e)
  have HFF := Lib.hid (chkF_zero HC.out k hk)
  clear hog hB4 hg5 hW5 HZ
  obtain ⟨S5, hS⟩ : ∃ S5, w4.heap.size = S5 := ⟨_, rfl⟩
  rw [hS] at hst ⊢
  clear hS hS5
  obtain ⟨f, hf⟩ : ∃ f, nth [s0, s1, s2, s3, s4, s5, s6, s7, s8, s9, s10, s11] k = f := ⟨_, rfl⟩
  have HFE := Lib.hid hf
  rw [hf] at HFF
  clear hf
  have HKEY := Lib.hid (show keyOf Tryd.prog 22 (.int .i64 f) = some (.int .i64 f) from keyOf_int_mk Tryd.underlying22 (by have := HFF.out; unfold Fig at this; simp [Lit.wf, IntKind.min, IntKind.max, IntKind.signed, IntKind.bits]; omega))
  refine wp_region_inv follows_mixed depsS ?ok (fun b a V1 => ∃ v, Hid (KS W5 base S5 #[.int .i64 s0, .int .i64 s1, .int .i64 s2, .int .i64 s3, .int .i64 s4, .int .i64 s5, .int .i64 s6, .int .i64 s7, .int .i64 s8, .int .i64 s9, .int .i64 s10, .int .i64 s11, .map (some mb)] D f b v V1) ∧ a = actS (.agg #[.int .i64 s0, .int .i64 s1, .int .i64 s2, .int .i64 s3, .int .i64 s4, .int .i64 s5, .int .i64 s6, .int .i64 s7, .int .i64 s8, .int .i64 s9, .int .i64 s10, .int .i64 s11]) (.int .i64 ((k : Int) + 1)) (.pointer (some ⟨w.heap.size, 0, none⟩)) undef (.slice none 0 0) (.int .i64 0) (.pointer (some ⟨S5, 0, none⟩)) (.int .i64 0) (.tuple #[.agg #[.int .i64 s0, .int .i64 s1, .int .i64 s2, .int .i64 s3, .int .i64 s4, .int .i64 s5, .int .i64 s6, .int .i64 s7, .int .i64 s8, .int .i64 s9, .int .i64 s10, .int .i64 s11, .map (some mb)], .int .i64 0]) (.agg #[.int .i64 s0, .int .i64 s1, .int .i64 s2, .int .i64 s3, .int .i64 s4, .int .i64 s5, .int .i64 s6, .int .i64 s7, .int .i64 s8, .int .i64 s9, .int .i64 s10, .int .i64 s11]) (.int .i64 ((k : Int) + 1)) (.slice (some ⟨w.heap.size + 1, 0, none⟩) 1 1) (.tuple #[.agg #[.int .i64 s0, .int .i64 s1, .int .i64 s2, .int .i64 s3, .int .i64 s4, .int .i64 s5, .int .i64 s6, .int .i64 s7, .int .i64 s8, .int .i64 s9, .int .i64 s10, .int .i64 s11, .map (some mb)], .int .i64 0]) (.agg #[.int .i64 s0, .int .i64 s1, .int .i64 s2, .int .i64 s3, .int .i64 s4, .int .i64 s5, .int .i64 s6, .int .i64 s7, .int .i64 s8, .int .i64 s9, .int .i64 s10, .int .i64 s11, .map (some mb)]) (.int .i64 0) (.int .i64 0) (.bool false) undef undef undef undef undef undef undef b (.pointer (some ⟨S5, 12, none⟩)) (.map (some mb)) (.agg #[.int .i64 s0, .int .i64 s1, .int .i64 s2, .int .i64 s3, .int .i64 s4, .int .i64 s5, .int .i64 s6, .int .i64 s7, .int .i64 s8, .int .i64 s9, .int .i64 s10, .int .i64 s11, .map (some mb)]) (.int .i64 ((k : Int) + 1)) (.int .i64 f) v) ?start ?step ?fin
  case ok => exact ⟨by decide +kernel, by decide +kernel⟩
  case start => exact ⟨undef, Lib.hid ⟨hst, (Below.refl _ _).drew, fun e => by simp at e, fun e => by simp at e⟩, by simp [actS]⟩
  case fin =>
    rintro a V1 ⟨v, HRJ, ha⟩
    obtain ⟨_, zs, hoi, hat2⟩ := HRJ.out.2.2.2 (by decide)
    have HOI := Lib.hid hoi
    have HZS := Lib.hid (look_stand hoi ((hat f).symm.trans hat2))
    have hB6 := tr hB5 HRJ.out.2.1
    clear hoi hat2
    have ea : a = ({ tmps := #[(.agg #[.int .i64 s0, .int .i64 s1, .int .i64 s2, .int .i64 s3, .int .i64 s4, .int .i64 s5, .int .i64 s6, .int .i64 s7, .int .i64 s8, .int .i64 s9, .int .i64 s10, .int .i64 s11]), (.int .i64 ((k : Int) + 1)), (.pointer (some ⟨w.heap.size, 0, none⟩)), undef, v, (.int .i64 0), (.pointer (some ⟨S5, 0, none⟩)), (.int .i64 0), (.tuple #[.agg #[.int .i64 s0, .int .i64 s1, .int .i64 s2, .int .i64 s3, .int .i64 s4, .int .i64 s5, .int .i64 s6, .int .i64 s7, .int .i64 s8, .int .i64 s9, .int .i64 s10, .int .i64 s11, .map (some mb)], .int .i64 0]), (.agg #[.int .i64 s0, .int .i64 s1, .int .i64 s2, .int .i64 s3, .int .i64 s4, .int .i64 s5, .int .i64 s6, .int .i64 s7, .int .i64 s8, .int .i64 s9, .int .i64 s10, .int .i64 s11]), (.int .i64 ((k : Int) + 1)), (.slice (some ⟨w.heap.size + 1, 0, none⟩) 1 1), (.tuple #[.agg #[.int .i64 s0, .int .i64 s1, .int .i64 s2, .int .i64 s3, .int .i64 s4, .int .i64 s5, .int .i64 s6, .int .i64 s7, .int .i64 s8, .int .i64 s9, .int .i64 s10, .int .i64 s11, .map (some mb)], .int .i64 0]), (.agg #[.int .i64 s0, .int .i64 s1, .int .i64 s2, .int .i64 s3, .int .i64 s4, .int .i64 s5, .int .i64 s6, .int .i64 s7, .int .i64 s8, .int .i64 s9, .int .i64 s10, .int .i64 s11, .map (some mb)]), (.int .i64 0), (.int .i64 0), (.bool false), undef, (.pointer (some ⟨S5, 12, none⟩)), (.map (some mb)), (.agg #[.int .i64 s0, .int .i64 s1, .int .i64 s2, .int .i64 s3, .int .i64 s4, .int .i64 s5, .int .i64 s6, .int .i64 s7, .int .i64 s8, .int .i64 s9, .int .i64 s10, .int .i64 s11, .map (some mb)]), (.int .i64 ((k : Int) + 1)), (.int .i64 f), v], defers := [] } : Act) := ha.trans rfl
    clear ha HRJ
    subst ea
    go_wp2
    go_ret2
    exact ⟨base, v, zs, rfl, by rw [HFE.out]; exact HZS.out, HOI.out, hB6⟩
  case step =>
    rintro b a V1 ⟨v, HRJ, rfl⟩ i hi hb hd
    have hi8 : i < 8 := hi
    clear hi
    have e : i = 0 ∨ i = 1 ∨ i = 2 ∨ i = 3 ∨ i = 4 ∨ i = 5 ∨ i = 6 ∨ i = 7 := by omega
    rcases e with rfl | rfl | rfl | rfl | rfl | rfl | rfl | rfl
    · have HR := HRJ.out
      have ev6 : (actS (.agg #[.int .i64 s0, .int .i64 s1, .int .i64 s2, .int .i64 s3, .int .i64 s4, .int .i64 s5, .int .i64 s6, .int .i64 s7, .int .i64 s8, .int .i64 s9, .int .i64 s10, .int .i64 s11]) (.int .i64 ((k : Int) + 1)) (.pointer (some ⟨w.heap.size, 0, none⟩)) undef (.slice none 0 0) (.int .i64 0) (.pointer (some ⟨S5, 0, none⟩)) (.int .i64 0) (.tuple #[.agg #[.int .i64 s0, .int .i64 s1, .int .i64 s2, .int .i64 s3, .int .i64 s4, .int .i64 s5, .int .i64 s6, .int .i64 s7, .int .i64 s8, .int .i64 s9, .int .i64 s10, .int .i64 s11, .map (some mb)], .int .i64 0]) (.agg #[.int .i64 s0, .int .i64 s1, .int .i64 s2, .int .i64 s3, .int .i64 s4, .int .i64 s5, .int .i64 s6, .int .i64 s7, .int .i64 s8, .int .i64 s9, .int .i64 s10, .int .i64 s11]) (.int .i64 ((k : Int) + 1)) (.slice (some ⟨w.heap.size + 1, 0, none⟩) 1 1) (.tuple #[.agg #[.int .i64 s0, .int .i64 s1, .int .i64 s2, .int .i64 s3, .int .i64 s4, .int .i64 s5, .int .i64 s6, .int .i64 s7, .int .i64 s8, .int .i64 s9, .int .i64 s10, .int .i64 s11, .map (some mb)], .int .i64 0]) (.agg #[.int .i64 s0, .int .i64 s1, .int .i64 s2, .int .i64 s3, .int .i64 s4, .int .i64 s5, .int .i64 s6, .int .i64 s7, .int .i64 s8, .int .i64 s9, .int .i64 s10, .int .i64 s11, .map (some mb)]) (.int .i64 0) (.int .i64 0) (.bool false) undef undef undef undef undef undef undef b (.pointer (some ⟨S5, 12, none⟩)) (.map (some mb)) (.agg #[.int .i64 s0, .int .i64 s1, .int .i64 s2, .int .i64 s3, .int .i64 s4, .int .i64 s5, .int .i64 s6, .int .i64 s7, .int .i64 s8, .int .i64 s9, .int .i64 s10, .int .i64 s11, .map (some mb)]) (.int .i64 ((k : Int) + 1)) (.int .i64 f) v).tmps[6]?.getD undef = (.pointer (some ⟨S5, 0, none⟩)) := rfl
      refine wpOp_step rfl (fun K hK => ?_)
      refine Eq.mpr (if_pos (by rfl)) ?_
      generalize hact : actS (.agg #[.int .i64 s0, .int .i64 s1, .int .i64 s2, .int .i64 s3, .int .i64 s4, .int .i64 s5, .int .i64 s6, .int .i64 s7, .int .i64 s8, .int .i64 s9, .int .i64 s10, .int .i64 s11]) (.int .i64 ((k : Int) + 1)) (.pointer (some ⟨w.heap.size, 0, none⟩)) undef (.slice none 0 0) (.int .i64 0) (.pointer (some ⟨S5, 0, none⟩)) (.int .i64 0) (.tuple #[.agg #[.int .i64 s0, .int .i64 s1, .int .i64 s2, .int .i64 s3, .int .i64 s4, .int .i64 s5, .int .i64 s6, .int .i64 s7, .int .i64 s8, .int .i64 s9, .int .i64 s10, .int .i64 s11, .map (some mb)], .int .i64 0]) (.agg #[.int .i64 s0, .int .i64 s1, .int .i64 s2, .int .i64 s3, .int .i64 s4, .int .i64 s5, .int .i64 s6, .int .i64 s7, .int .i64 s8, .int .i64 s9, .int .i64 s10, .int .i64 s11]) (.int .i64 ((k : Int) + 1)) (.slice (some ⟨w.heap.size + 1, 0, none⟩) 1 1) (.tuple #[.agg #[.int .i64 s0, .int .i64 s1, .int .i64 s2, .int .i64 s3, .int .i64 s4, .int .i64 s5, .int .i64 s6, .int .i64 s7, .int .i64 s8, .int .i64 s9, .int .i64 s10, .int .i64 s11, .map (some mb)], .int .i64 0]) (.agg #[.int .i64 s0, .int .i64 s1, .int .i64 s2, .int .i64 s3, .int .i64 s4, .int .i64 s5, .int .i64 s6, .int .i64 s7, .int .i64 s8, .int .i64 s9, .int .i64 s10, .int .i64 s11, .map (some mb)]) (.int .i64 0) (.int .i64 0) (.bool false) undef undef undef undef undef undef undef b (.pointer (some ⟨S5, 12, none⟩)) (.map (some mb)) (.agg #[.int .i64 s0, .int .i64 s1, .int .i64 s2, .int .i64 s3, .int .i64 s4, .int .i64 s5, .int .i64 s6, .int .i64 s7, .int .i64 s8, .int .i64 s9, .int .i64 s10, .int .i64 s11, .map (some mb)]) (.int .i64 ((k : Int) + 1)) (.int .i64 f) v = act at ev6 ⊢
      clear HR
      go_simp
      refine hK _ _ ?_
      rw [← hact]
      exact ⟨v, Lib.hid (keepKS HRJ.out (by omega)), actS_0 ..⟩
    · have HR := HRJ.out
      have ev18 : (actS (.agg #[.int .i64 s0, .int .i64 s1, .int .i64 s2, .int .i64 s3, .int .i64 s4, .int .i64 s5, .int .i64 s6, .int .i64 s7, .int .i64 s8, .int .i64 s9, .int .i64 s10, .int .i64 s11]) (.int .i64 ((k : Int) + 1)) (.pointer (some ⟨w.heap.size, 0, none⟩)) undef (.slice none 0 0) (.int .i64 0) (.pointer (some ⟨S5, 0, none⟩)) (.int .i64 0) (.tuple #[.agg #[.int .i64 s0, .int .i64 s1, .int .i64 s2, .int .i64 s3, .int .i64 s4, .int .i64 s5, .int .i64 s6, .int .i64 s7, .int .i64 s8, .int .i64 s9, .int .i64 s10, .int .i64 s11, .map (some mb)], .int .i64 0]) (.agg #[.int .i64 s0, .int .i64 s1, .int .i64 s2, .int .i64 s3, .int .i64 s4, .int .i64 s5, .int .i64 s6, .int .i64 s7, .int .i64 s8, .int .i64 s9, .int .i64 s10, .int .i64 s11]) (.int .i64 ((k : Int) + 1)) (.slice (some ⟨w.heap.size + 1, 0, none⟩) 1 1) (.tuple #[.agg #[.int .i64 s0, .int .i64 s1, .int .i64 s2, .int .i64 s3, .int .i64 s4, .int .i64 s5, .int .i64 s6, .int .i64 s7, .int .i64 s8, .int .i64 s9, .int .i64 s10, .int .i64 s11, .map (some mb)], .int .i64 0]) (.agg #[.int .i64 s0, .int .i64 s1, .int .i64 s2, .int .i64 s3, .int .i64 s4, .int .i64 s5, .int .i64 s6, .int .i64 s7, .int .i64 s8, .int .i64 s9, .int .i64 s10, .int .i64 s11, .map (some mb)]) (.int .i64 0) (.int .i64 0) (.bool false) undef undef undef undef undef undef undef b (.pointer (some ⟨S5, 12, none⟩)) (.map (some mb)) (.agg #[.int .i64 s0, .int .i64 s1, .int .i64 s2, .int .i64 s3, .int .i64 s4, .int .i64 s5, .int .i64 s6, .int .i64 s7, .int .i64 s8, .int .i64 s9, .int .i64 s10, .int .i64 s11, .map (some mb)]) (.int .i64 ((k : Int) + 1)) (.int .i64 f) v).tmps[18]?.getD undef = (.pointer (some ⟨S5, 12, none⟩)) := by
        show (if b.testBit 0 = true then _ else _) = _
        rw [if_pos (hd 0 (by simp [depsS]))]
      have hc : V1.cell? ⟨S5, 12, none⟩ = some (.map (some mb)) := HR.1.cell 12
      refine wpOp_step rfl (fun K hK => ?_)
      refine Eq.mpr (if_pos (by rfl)) ?_
      generalize hact : actS (.agg #[.int .i64 s0, .int .i64 s1, .int .i64 s2, .int .i64 s3, .int .i64 s4, .int .i64 s5, .int .i64 s6, .int .i64 s7, .int .i64 s8, .int .i64 s9, .int .i64 s10, .int .i64 s11]) (.int .i64 ((k : Int) + 1)) (.pointer (some ⟨w.heap.size, 0, none⟩)) undef (.slice none 0 0) (.int .i64 0) (.pointer (some ⟨S5, 0, none⟩)) (.int .i64 0) (.tuple #[.agg #[.int .i64 s0, .int .i64 s1, .int .i64 s2, .int .i64 s3, .int .i64 s4, .int .i64 s5, .int .i64 s6, .int .i64 s7, .int .i64 s8, .int .i64 s9, .int .i64 s10, .int .i64 s11, .map (some mb)], .int .i64 0]) (.agg #[.int .i64 s0, .int .i64 s1, .int .i64 s2, .int .i64 s3, .int .i64 s4, .int .i64 s5, .int .i64 s6, .int .i64 s7, .int .i64 s8, .int .i64 s9, .int .i64 s10, .int .i64 s11]) (.int .i64 ((k : Int) + 1)) (.slice (some ⟨w.heap.size + 1, 0, none⟩) 1 1) (.tuple #[.agg #[.int .i64 s0, .int .i64 s1, .int .i64 s2, .int .i64 s3, .int .i64 s4, .int .i64 s5, .int .i64 s6, .int .i64 s7, .int .i64 s8, .int .i64 s9, .int .i64 s10, .int .i64 s11, .map (some mb)], .int .i64 0]) (.agg #[.int .i64 s0, .int .i64 s1, .int .i64 s2, .int .i64 s3, .int .i64 s4, .int .i64 s5, .int .i64 s6, .int .i64 s7, .int .i64 s8, .int .i64 s9, .int .i64 s10, .int .i64 s11, .map (some mb)]) (.int .i64 0) (.int .i64 0) (.bool false) undef undef undef undef undef undef undef b (.pointer (some ⟨S5, 12, none⟩)) (.map (some mb)) (.agg #[.int .i64 s0, .int .i64 s1, .int .i64 s2, .int .i64 s3, .int .i64 s4, .int .i64 s5, .int .i64 s6, .int .i64 s7, .int .i64 s8, .int .i64 s9, .int .i64 s10, .int .i64 s11, .map (some mb)]) (.int .i64 ((k : Int) + 1)) (.int .i64 f) v = act at ev18 ⊢
      clear HR
      go_simp
      refine hK _ _ ?_
      rw [← hact]
      exact ⟨v, Lib.hid (keepKS HRJ.out (by omega)), actS_1 ..⟩
    · have HR := HRJ.out
      have ev6 : (actS (.agg #[.int .i64 s0, .int .i64 s1, .int .i64 s2, .int .i64 s3, .int .i64 s4, .int .i64 s5, .int .i64 s6, .int .i64 s7, .int .i64 s8, .int .i64 s9, .int .i64 s10, .int .i64 s11]) (.int .i64 ((k : Int) + 1)) (.pointer (some ⟨w.heap.size, 0, none⟩)) undef (.slice none 0 0) (.int .i64 0) (.pointer (some ⟨S5, 0, none⟩)) (.int .i64 0) (.tuple #[.agg #[.int .i64 s0, .int .i64 s1, .int .i64 s2, .int .i64 s3, .int .i64 s4, .int .i64 s5, .int .i64 s6, .int .i64 s7, .int .i64 s8, .int .i64 s9, .int .i64 s10, .int .i64 s11, .map (some mb)], .int .i64 0]) (.agg #[.int .i64 s0, .int .i64 s1, .int .i64 s2, .int .i64 s3, .int .i64 s4, .int .i64 s5, .int .i64 s6, .int .i64 s7, .int .i64 s8, .int .i64 s9, .int .i64 s10, .int .i64 s11]) (.int .i64 ((k : Int) + 1)) (.slice (some ⟨w.heap.size + 1, 0, none⟩) 1 1) (.tuple #[.agg #[.int .i64 s0, .int .i64 s1, .int .i64 s2, .int .i64 s3, .int .i64 s4, .int .i64 s5, .int .i64 s6, .int .i64 s7, .int .i64 s8, .int .i64 s9, .int .i64 s10, .int .i64 s11, .map (some mb)], .int .i64 0]) (.agg #[.int .i64 s0, .int .i64 s1, .int .i64 s2, .int .i64 s3, .int .i64 s4, .int .i64 s5, .int .i64 s6, .int .i64 s7, .int .i64 s8, .int .i64 s9, .int .i64 s10, .int .i64 s11, .map (some mb)]) (.int .i64 0) (.int .i64 0) (.bool false) undef undef undef undef undef undef undef b (.pointer (some ⟨S5, 12, none⟩)) (.map (some mb)) (.agg #[.int .i64 s0, .int .i64 s1, .int .i64 s2, .int .i64 s3, .int .i64 s4, .int .i64 s5, .int .i64 s6, .int .i64 s7, .int .i64 s8, .int .i64 s9, .int .i64 s10, .int .i64 s11, .map (some mb)]) (.int .i64 ((k : Int) + 1)) (.int .i64 f) v).tmps[6]?.getD undef = (.pointer (some ⟨S5, 0, none⟩)) := rfl
      refine wpOp_step rfl (fun K hK => ?_)
      refine Eq.mpr (if_pos (by rfl)) ?_
      refine wp_load_row 84 (.tmp 6) rfl S5 rfl 84 #[.int .i64 s0, .int .i64 s1, .int .i64 s2, .int .i64 s3, .int .i64 s4, .int .i64 s5, .int .i64 s6, .int .i64 s7, .int .i64 s8, .int .i64 s9, .int .i64 s10, .int .i64 s11, .map (some mb)] (0, 0) _ HR.1 Tryd.underlying84 rfl HI13.out (hK _ _ ?_)
      exact ⟨v, Lib.hid (keepKS HR (by omega)), actS_2 ..⟩
    · have HR := HRJ.out
      have ev1 : (actS (.agg #[.int .i64 s0, .int .i64 s1, .int .i64 s2, .int .i64 s3, .int .i64 s4, .int .i64 s5, .int .i64 s6, .int .i64 s7, .int .i64 s8, .int .i64 s9, .int .i64 s10, .int .i64 s11]) (.int .i64 ((k : Int) + 1)) (.pointer (some ⟨w.heap.size, 0, none⟩)) undef (.slice none 0 0) (.int .i64 0) (.pointer (some ⟨S5, 0, none⟩)) (.int .i64 0) (.tuple #[.agg #[.int .i64 s0, .int .i64 s1, .int .i64 s2, .int .i64 s3, .int .i64 s4, .int .i64 s5, .int .i64 s6, .int .i64 s7, .int .i64 s8, .int .i64 s9, .int .i64 s10, .int .i64 s11, .map (some mb)], .int .i64 0]) (.agg #[.int .i64 s0, .int .i64 s1, .int .i64 s2, .int .i64 s3, .int .i64 s4, .int .i64 s5, .int .i64 s6, .int .i64 s7, .int .i64 s8, .int .i64 s9, .int .i64 s10, .int .i64 s11]) (.int .i64 ((k : Int) + 1)) (.slice (some ⟨w.heap.size + 1, 0, none⟩) 1 1) (.tuple #[.agg #[.int .i64 s0, .int .i64 s1, .int .i64 s2, .int .i64 s3, .int .i64 s4, .int .i64 s5, .int .i64 s6, .int .i64 s7, .int .i64 s8, .int .i64 s9, .int .i64 s10, .int .i64 s11, .map (some mb)], .int .i64 0]) (.agg #[.int .i64 s0, .int .i64 s1, .int .i64 s2, .int .i64 s3, .int .i64 s4, .int .i64 s5, .int .i64 s6, .int .i64 s7, .int .i64 s8, .int .i64 s9, .int .i64 s10, .int .i64 s11, .map (some mb)]) (.int .i64 0) (.int .i64 0) (.bool false) undef undef undef undef undef undef undef b (.pointer (some ⟨S5, 12, none⟩)) (.map (some mb)) (.agg #[.int .i64 s0, .int .i64 s1, .int .i64 s2, .int .i64 s3, .int .i64 s4, .int .i64 s5, .int .i64 s6, .int .i64 s7, .int .i64 s8, .int .i64 s9, .int .i64 s10, .int .i64 s11, .map (some mb)]) (.int .i64 ((k : Int) + 1)) (.int .i64 f) v).tmps[1]?.getD undef = (.int .i64 ((k : Int) + 1)) := rfl
      refine wpOp_step rfl (fun K hK => ?_)
      refine Eq.mpr (if_pos (by rfl)) ?_
      generalize hact : actS (.agg #[.int .i64 s0, .int .i64 s1, .int .i64 s2, .int .i64 s3, .int .i64 s4, .int .i64 s5, .int .i64 s6, .int .i64 s7, .int .i64 s8, .int .i64 s9, .int .i64 s10, .int .i64 s11]) (.int .i64 ((k : Int) + 1)) (.pointer (some ⟨w.heap.size, 0, none⟩)) undef (.slice none 0 0) (.int .i64 0) (.pointer (some ⟨S5, 0, none⟩)) (.int .i64 0) (.tuple #[.agg #[.int .i64 s0, .int .i64 s1, .int .i64 s2, .int .i64 s3, .int .i64 s4, .int .i64 s5, .int .i64 s6, .int .i64 s7, .int .i64 s8, .int .i64 s9, .int .i64 s10, .int .i64 s11, .map (some mb)], .int .i64 0]) (.agg #[.int .i64 s0, .int .i64 s1, .int .i64 s2, .int .i64 s3, .int .i64 s4, .int .i64 s5, .int .i64 s6, .int .i64 s7, .int .i64 s8, .int .i64 s9, .int .i64 s10, .int .i64 s11]) (.int .i64 ((k : Int) + 1)) (.slice (some ⟨w.heap.size + 1, 0, none⟩) 1 1) (.tuple #[.agg #[.int .i64 s0, .int .i64 s1, .int .i64 s2, .int .i64 s3, .int .i64 s4, .int .i64 s5, .int .i64 s6, .int .i64 s7, .int .i64 s8, .int .i64 s9, .int .i64 s10, .int .i64 s11, .map (some mb)], .int .i64 0]) (.agg #[.int .i64 s0, .int .i64 s1, .int .i64 s2, .int .i64 s3, .int .i64 s4, .int .i64 s5, .int .i64 s6, .int .i64 s7, .int .i64 s8, .int .i64 s9, .int .i64 s10, .int .i64 s11, .map (some mb)]) (.int .i64 0) (.int .i64 0) (.bool false) undef undef undef undef undef undef undef b (.pointer (some ⟨S5, 12, none⟩)) (.map (some mb)) (.agg #[.int .i64 s0, .int .i64 s1, .int .i64 s2, .int .i64 s3, .int .i64 s4, .int .i64 s5, .int .i64 s6, .int .i64 s7, .int .i64 s8, .int .i64 s9, .int .i64 s10, .int .i64 s11, .map (some mb)]) (.int .i64 ((k : Int) + 1)) (.int .i64 f) v = act at ev1 ⊢
      clear HR
      go_simp
      refine hK _ _ ?_
      rw [← hact]
      exact ⟨v, Lib.hid (keepKS HRJ.out (by omega)), actS_3 ..⟩
    · have HR := HRJ.out
      have ev20 : (actS (.agg #[.int .i64 s0, .int .i64 s1, .int .i64 s2, .int .i64 s3, .int .i64 s4, .int .i64 s5, .int .i64 s6, .int .i64 s7, .int .i64 s8, .int .i64 s9, .int .i64 s10, .int .i64 s11]) (.int .i64 ((k : Int) + 1)) (.pointer (some ⟨w.heap.size, 0, none⟩)) undef (.slice none 0 0) (.int .i64 0) (.pointer (some ⟨S5, 0, none⟩)) (.int .i64 0) (.tuple #[.agg #[.int .i64 s0, .int .i64 s1, .int .i64 s2, .int .i64 s3, .int .i64 s4, .int .i64 s5, .int .i64 s6, .int .i64 s7, .int .i64 s8, .int .i64 s9, .int .i64 s10, .int .i64 s11, .map (some mb)], .int .i64 0]) (.agg #[.int .i64 s0, .int .i64 s1, .int .i64 s2, .int .i64 s3, .int .i64 s4, .int .i64 s5, .int .i64 s6, .int .i64 s7, .int .i64 s8, .int .i64 s9, .int .i64 s10, .int .i64 s11]) (.int .i64 ((k : Int) + 1)) (.slice (some ⟨w.heap.size + 1, 0, none⟩) 1 1) (.tuple #[.agg #[.int .i64 s0, .int .i64 s1, .int .i64 s2, .int .i64 s3, .int .i64 s4, .int .i64 s5, .int .i64 s6, .int .i64 s7, .int .i64 s8, .int .i64 s9, .int .i64 s10, .int .i64 s11, .map (some mb)], .int .i64 0]) (.agg #[.int .i64 s0, .int .i64 s1, .int .i64 s2, .int .i64 s3, .int .i64 s4, .int .i64 s5, .int .i64 s6, .int .i64 s7, .int .i64 s8, .int .i64 s9, .int .i64 s10, .int .i64 s11, .map (some mb)]) (.int .i64 0) (.int .i64 0) (.bool false) undef undef undef undef undef undef undef b (.pointer (some ⟨S5, 12, none⟩)) (.map (some mb)) (.agg #[.int .i64 s0, .int .i64 s1, .int .i64 s2, .int .i64 s3, .int .i64 s4, .int .i64 s5, .int .i64 s6, .int .i64 s7, .int .i64 s8, .int .i64 s9, .int .i64 s10, .int .i64 s11, .map (some mb)]) (.int .i64 ((k : Int) + 1)) (.int .i64 f) v).tmps[20]?.getD undef = (.agg #[.int .i64 s0, .int .i64 s1, .int .i64 s2, .int .i64 s3, .int .i64 s4, .int .i64 s5, .int .i64 s6, .int .i64 s7, .int .i64 s8, .int .i64 s9, .int .i64 s10, .int .i64 s11, .map (some mb)]) := by
        show (if b.testBit 2 = true then _ else _) = _
        rw [if_pos (hd 2 (by simp [depsS]))]
      have ev21 : (actS (.agg #[.int .i64 s0, .int .i64 s1, .int .i64 s2, .int .i64 s3, .int .i64 s4, .int .i64 s5, .int .i64 s6, .int .i64 s7, .int .i64 s8, .int .i64 s9, .int .i64 s10, .int .i64 s11]) (.int .i64 ((k : Int) + 1)) (.pointer (some ⟨w.heap.size, 0, none⟩)) undef (.slice none 0 0) (.int .i64 0) (.pointer (some ⟨S5, 0, none⟩)) (.int .i64 0) (.tuple #[.agg #[.int .i64 s0, .int .i64 s1, .int .i64 s2, .int .i64 s3, .int .i64 s4, .int .i64 s5, .int .i64 s6, .int .i64 s7, .int .i64 s8, .int .i64 s9, .int .i64 s10, .int .i64 s11, .map (some mb)], .int .i64 0]) (.agg #[.int .i64 s0, .int .i64 s1, .int .i64 s2, .int .i64 s3, .int .i64 s4, .int .i64 s5, .int .i64 s6, .int .i64 s7, .int .i64 s8, .int .i64 s9, .int .i64 s10, .int .i64 s11]) (.int .i64 ((k : Int) + 1)) (.slice (some ⟨w.heap.size + 1, 0, none⟩) 1 1) (.tuple #[.agg #[.int .i64 s0, .int .i64 s1, .int .i64 s2, .int .i64 s3, .int .i64 s4, .int .i64 s5, .int .i64 s6, .int .i64 s7, .int .i64 s8, .int .i64 s9, .int .i64 s10, .int .i64 s11, .map (some mb)], .int .i64 0]) (.agg #[.int .i64 s0, .int .i64 s1, .int .i64 s2, .int .i64 s3, .int .i64 s4, .int .i64 s5, .int .i64 s6, .int .i64 s7, .int .i64 s8, .int .i64 s9, .int .i64 s10, .int .i64 s11, .map (some mb)]) (.int .i64 0) (.int .i64 0) (.bool false) undef undef undef undef undef undef undef b (.pointer (some ⟨S5, 12, none⟩)) (.map (some mb)) (.agg #[.int .i64 s0, .int .i64 s1, .int .i64 s2, .int .i64 s3, .int .i64 s4, .int .i64 s5, .int .i64 s6, .int .i64 s7, .int .i64 s8, .int .i64 s9, .int .i64 s10, .int .i64 s11, .map (some mb)]) (.int .i64 ((k : Int) + 1)) (.int .i64 f) v).tmps[21]?.getD undef = (.int .i64 ((k : Int) + 1)) := by
        show (if b.testBit 3 = true then _ else _) = _
        rw [if_pos (hd 3 (by simp [depsS]))]
      have h5 : b.testBit 5 = false := by
        cases h : b.testBit 5
        · rfl
        · rw [(HR.2.2.2 h).1] at hb; cases hb
      refine wpOp_step rfl (fun K hK => ?_)
      refine Eq.mpr (if_pos (by rfl)) ?_
      generalize hact : actS (.agg #[.int .i64 s0, .int .i64 s1, .int .i64 s2, .int .i64 s3, .int .i64 s4, .int .i64 s5, .int .i64 s6, .int .i64 s7, .int .i64 s8, .int .i64 s9, .int .i64 s10, .int .i64 s11]) (.int .i64 ((k : Int) + 1)) (.pointer (some ⟨w.heap.size, 0, none⟩)) undef (.slice none 0 0) (.int .i64 0) (.pointer (some ⟨S5, 0, none⟩)) (.int .i64 0) (.tuple #[.agg #[.int .i64 s0, .int .i64 s1, .int .i64 s2, .int .i64 s3, .int .i64 s4, .int .i64 s5, .int .i64 s6, .int .i64 s7, .int .i64 s8, .int .i64 s9, .int .i64 s10, .int .i64 s11, .map (some mb)], .int .i64 0]) (.agg #[.int .i64 s0, .int .i64 s1, .int .i64 s2, .int .i64 s3, .int .i64 s4, .int .i64 s5, .int .i64 s6, .int .i64 s7, .int .i64 s8, .int .i64 s9, .int .i64 s10, .int .i64 s11]) (.int .i64 ((k : Int) + 1)) (.slice (some ⟨w.heap.size + 1, 0, none⟩) 1 1) (.tuple #[.agg #[.int .i64 s0, .int .i64 s1, .int .i64 s2, .int .i64 s3, .int .i64 s4, .int .i64 s5, .int .i64 s6, .int .i64 s7, .int .i64 s8, .int .i64 s9, .int .i64 s10, .int .i64 s11, .map (some mb)], .int .i64 0]) (.agg #[.int .i64 s0, .int .i64 s1, .int .i64 s2, .int .i64 s3, .int .i64 s4, .int .i64 s5, .int .i64 s6, .int .i64 s7, .int .i64 s8, .int .i64 s9, .int .i64 s10, .int .i64 s11, .map (some mb)]) (.int .i64 0) (.int .i64 0) (.bool false) undef undef undef undef undef undef undef b (.pointer (some ⟨S5, 12, none⟩)) (.map (some mb)) (.agg #[.int .i64 s0, .int .i64 s1, .int .i64 s2, .int .i64 s3, .int .i64 s4, .int .i64 s5, .int .i64 s6, .int .i64 s7, .int .i64 s8, .int .i64 s9, .int .i64 s10, .int .i64 s11, .map (some mb)]) (.int .i64 ((k : Int) + 1)) (.int .i64 f) v = act at ev20 ev21 ⊢
      clear HR
      go_simp
      go_wp2_with fail
      refine (figure_any s0 s1 s2 s3 s4 s5 s6 s7 s8 s9 s10 s11 (some mb) k hk _).mono ?_
      rintro e V2 ⟨rfl, hb2⟩
      rw [HFE.out]
      refine hK _ _ ?_
      rw [← hact]
      refine ⟨v, Lib.hid ⟨HRJ.out.1.below hb2 HRJ.out.1.lt, tr HRJ.out.2.1 hb2, fun h => ?_, fun h => ?_⟩, actS_4 ..⟩
      · rw [tbJ] at h
        simp at h
        have := HRJ.out.2.2.1 h
        rw [h5] at this
        cases this
      · rw [tbJ] at h
        simp [h5] at h
    · have HR := HRJ.out
      have h4 := hd 4 (by simp [depsS])
      have h1 := hd 1 (by simp [depsS])
      refine wpOp_step rfl (fun K hK => ?_)
      refine Eq.mpr (if_pos (by rfl)) ?_
      have hog1 := groups_kept (row := none) HOG.out ⟨HR.2.1.os, HR.2.1.tape, HR.2.1.output, HR.2.1.size, fun j hj _ => HR.2.1.block j hj⟩ (fun r e => by cases e)
      have h6 : b.testBit 6 = false := by
        cases h : b.testBit 6
        · rfl
        · rw [HR.2.2.1 h] at hb; cases hb
      refine oper_lookup_groups (.tmp 19) (.tmp 22) 82 rfl 22 25 3 .i64 keyedF Tryd.underlying82 (zeroSI _) base mb 12 D (by show (if b.testBit 1 = true then _ else _) = _; rw [if_pos h1]) hog1 (by unfold maxLen; omega) (.int .i64 f) (.int .i64 f) (by show (if b.testBit 4 = true then _ else _) = _; rw [if_pos h4]) HKEY.out ?_
      intro v2 zs hat2 hoi hzl _
      refine hK _ _ ?_
      rw [actS_any (h5 := hb) (h6 := h6) (y := v2)]
      exact ⟨v2, Lib.hid ⟨HR.1, HR.2.1, fun h => (by rw [tbJ] at h ⊢; simp), fun _ => ⟨by rw [tbJ]; simp [h4], zs, hoi, hat2⟩⟩, actS_5 ..⟩
    · have HR := HRJ.out
      have h5 := hd 5 (by simp [depsS])
      have ev23 : (actS (.agg #[.int .i64 s0, .int .i64 s1, .int .i64 s2, .int .i64 s3, .int .i64 s4, .int .i64 s5, .int .i64 s6, .int .i64 s7, .int .i64 s8, .int .i64 s9, .int .i64 s10, .int .i64 s11]) (.int .i64 ((k : Int) + 1)) (.pointer (some ⟨w.heap.size, 0, none⟩)) undef (.slice none 0 0) (.int .i64 0) (.pointer (some ⟨S5, 0, none⟩)) (.int .i64 0) (.tuple #[.agg #[.int .i64 s0, .int .i64 s1, .int .i64 s2, .int .i64 s3, .int .i64 s4, .int .i64 s5, .int .i64 s6, .int .i64 s7, .int .i64 s8, .int .i64 s9, .int .i64 s10, .int .i64 s11, .map (some mb)], .int .i64 0]) (.agg #[.int .i64 s0, .int .i64 s1, .int .i64 s2, .int .i64 s3, .int .i64 s4, .int .i64 s5, .int .i64 s6, .int .i64 s7, .int .i64 s8, .int .i64 s9, .int .i64 s10, .int .i64 s11]) (.int .i64 ((k : Int) + 1)) (.slice (some ⟨w.heap.size + 1, 0, none⟩) 1 1) (.tuple #[.agg #[.int .i64 s0, .int .i64 s1, .int .i64 s2, .int .i64 s3, .int .i64 s4, .int .i64 s5, .int .i64 s6, .int .i64 s7, .int .i64 s8, .int .i64 s9, .int .i64 s10, .int .i64 s11, .map (some mb)], .int .i64 0]) (.agg #[.int .i64 s0, .int .i64 s1, .int .i64 s2, .int .i64 s3, .int .i64 s4, .int .i64 s5, .int .i64 s6, .int .i64 s7, .int .i64 s8, .int .i64 s9, .int .i64 s10, .int .i64 s11, .map (some mb)]) (.int .i64 0) (.int .i64 0) (.bool false) undef undef undef undef undef undef undef b (.pointer (some ⟨S5, 12, none⟩)) (.map (some mb)) (.agg #[.int .i64 s0, .int .i64 s1, .int .i64 s2, .int .i64 s3, .int .i64 s4, .int .i64 s5, .int .i64 s6, .int .i64 s7, .int .i64 s8, .int .i64 s9, .int .i64 s10, .int .i64 s11, .map (some mb)]) (.int .i64 ((k : Int) + 1)) (.int .i64 f) v).tmps[23]?.getD undef = v := by
        show (if b.testBit 5 = true then _ else _) = _
        rw [if_pos h5]
      refine wpOp_step rfl (fun K hK => ?_)
      refine Eq.mpr (if_pos (by rfl)) ?_
      generalize hact : actS (.agg #[.int .i64 s0, .int .i64 s1, .int .i64 s2, .int .i64 s3, .int .i64 s4, .int .i64 s5, .int .i64 s6, .int .i64 s7, .int .i64 s8, .int .i64 s9, .int .i64 s10, .int .i64 s11]) (.int .i64 ((k : Int) + 1)) (.pointer (some ⟨w.heap.size, 0, none⟩)) undef (.slice none 0 0) (.int .i64 0) (.pointer (some ⟨S5, 0, none⟩)) (.int .i64 0) (.tuple #[.agg #[.int .i64 s0, .int .i64 s1, .int .i64 s2, .int .i64 s3, .int .i64 s4, .int .i64 s5, .int .i64 s6, .int .i64 s7, .int .i64 s8, .int .i64 s9, .int .i64 s10, .int .i64 s11, .map (some mb)], .int .i64 0]) (.agg #[.int .i64 s0, .int .i64 s1, .int .i64 s2, .int .i64 s3, .int .i64 s4, .int .i64 s5, .int .i64 s6, .int .i64 s7, .int .i64 s8, .int .i64 s9, .int .i64 s10, .int .i64 s11]) (.int .i64 ((k : Int) + 1)) (.slice (some ⟨w.heap.size + 1, 0, none⟩) 1 1) (.tuple #[.agg #[.int .i64 s0, .int .i64 s1, .int .i64 s2, .int .i64 s3, .int .i64 s4, .int .i64 s5, .int .i64 s6, .int .i64 s7, .int .i64 s8, .int .i64 s9, .int .i64 s10, .int .i64 s11, .map (some mb)], .int .i64 0]) (.agg #[.int .i64 s0, .int .i64 s1, .int .i64 s2, .int .i64 s3, .int .i64 s4, .int .i64 s5, .int .i64 s6, .int .i64 s7, .int .i64 s8, .int .i64 s9, .int .i64 s10, .int .i64 s11, .map (some mb)]) (.int .i64 0) (.int .i64 0) (.bool false) undef undef undef undef undef undef undef b (.pointer (some ⟨S5, 12, none⟩)) (.map (some mb)) (.agg #[.int .i64 s0, .int .i64 s1, .int .i64 s2, .int .i64 s3, .int .i64 s4, .int .i64 s5, .int .i64 s6, .int .i64 s7, .int .i64 s8, .int .i64 s9, .int .i64 s10, .int .i64 s11, .map (some mb)]) (.int .i64 ((k : Int) + 1)) (.int .i64 f) v = act at ev23 ⊢
      clear HR
      go_simp
      refine hK _ _ ?_
      rw [← hact]
      exact ⟨v, Lib.hid ⟨HRJ.out.1, HRJ.out.2.1, fun _ => (by rw [tbJ]; simp [h5]), fun h => (by rw [tbJ] at h ⊢; simp at h ⊢; exact HRJ.out.2.2.2 h)⟩, actS_6 ..⟩
    · have HR := HRJ.out
      refine wpOp_step rfl (fun K hK => ?_)
      refine Eq.mpr (if_pos (by rfl)) ?_
      generalize hact : actS (.agg #[.int .i64 s0, .int .i64 s1, .int .i64 s2, .int .i64 s3, .int .i64 s4, .int .i64 s5, .int .i64 s6, .int .i64 s7, .int .i64 s8, .int .i64 s9, .int .i64 s10, .int .i64 s11]) (.int .i64 ((k : Int) + 1)) (.pointer (some ⟨w.heap.size, 0, none⟩)) undef (.slice none 0 0) (.int .i64 0) (.pointer (some ⟨S5, 0, none⟩)) (.int .i64 0) (.tuple #[.agg #[.int .i64 s0, .int .i64 s1, .int .i64 s2, .int .i64 s3, .int .i64 s4, .int .i64 s5, .int .i64 s6, .int .i64 s7, .int .i64 s8, .int .i64 s9, .int .i64 s10, .int .i64 s11, .map (some mb)], .int .i64 0]) (.agg #[.int .i64 s0, .int .i64 s1, .int .i64 s2, .int .i64 s3, .int .i64 s4, .int .i64 s5, .int .i64 s6, .int .i64 s7, .int .i64 s8, .int .i64 s9, .int .i64 s10, .int .i64 s11]) (.int .i64 ((k : Int) + 1)) (.slice (some ⟨w.heap.size + 1, 0, none⟩) 1 1) (.tuple #[.agg #[.int .i64 s0, .int .i64 s1, .int .i64 s2, .int .i64 s3, .int .i64 s4, .int .i64 s5, .int .i64 s6, .int .i64 s7, .int .i64 s8, .int .i64 s9, .int .i64 s10, .int .i64 s11, .map (some mb)], .int .i64 0]) (.agg #[.int .i64 s0, .int .i64 s1, .int .i64 s2, .int .i64 s3, .int .i64 s4, .int .i64 s5, .int .i64 s6, .int .i64 s7, .int .i64 s8, .int .i64 s9, .int .i64 s10, .int .i64 s11, .map (some mb)]) (.int .i64 0) (.int .i64 0) (.bool false) undef undef undef undef undef undef undef b (.pointer (some ⟨S5, 12, none⟩)) (.map (some mb)) (.agg #[.int .i64 s0, .int .i64 s1, .int .i64 s2, .int .i64 s3, .int .i64 s4, .int .i64 s5, .int .i64 s6, .int .i64 s7, .int .i64 s8, .int .i64 s9, .int .i64 s10, .int .i64 s11, .map (some mb)]) (.int .i64 ((k : Int) + 1)) (.int .i64 f) v = act
      clear HR
      go_simp
      refine hK _ _ ?_
      rw [← hact]
      exact ⟨v, Lib.hid (keepKS HRJ.out (by omega)), actS_7 ..⟩
end Go.Proofs.YtdnccdobnhbpeaaDoor
