/-
  Aspects of valid houses; the exported functions at a list; a house moved on.
-/
import Derived.Test.YtdnccdobnhbpeaaDoorHeA
import Derived.Test.YtdnccdobnhbpeaaDoorHcO
namespace Go.Proofs.YtdnccdobnhbpeaaDoor
open Go Go.RowKit Go.Shelf
set_option linter.unusedVariables false
set_option linter.unusedSimpArgs false

set_option maxRecDepth 100000 in
set_option maxHeartbeats 8000000 in
theorem aspectsS_any (s0 s1 s2 s3 s4 s5 s6 s7 s8 s9 s10 s11 : Int) (HC : Hid (chkF [s0, s1, s2, s3, s4, s5, s6, s7, s8, s9, s10, s11] = 0)) (a b : Int) (ha : Hou a) (hb : Hou b) (HAB : Hid ((a == b) = false)) (w : World) (hw6 : 6 ≤ w.heap.size) :
    Calls Tryd.prog 18 #[.agg #[.int .i64 s0, .int .i64 s1, .int .i64 s2, .int .i64 s3, .int .i64 s4, .int .i64 s5, .int .i64 s6, .int .i64 s7, .int .i64 s8, .int .i64 s9, .int .i64 s10, .int .i64 s11], .int .i64 a, .int .i64 b] w fun e w' => (∃ v, e = .returned (.tuple #[v, .int .i64 0]) ∧ w'.ownsRow w.heap.size 72 3 v (asL b (standL [s0, s1, s2, s3, s4, s5, s6, s7, s8, s9, s10, s11] (fg [s0, s1, s2, s3, s4, s5, s6, s7, s8, s9, s10, s11] a) 12)).length (rowT (asL b (standL [s0, s1, s2, s3, s4, s5, s6, s7, s8, s9, s10, s11] (fg [s0, s1, s2, s3, s4, s5, s6, s7, s8, s9, s10, s11] a) 12)))) ∧ Below w.heap.size w w' := by
  have HN := Lib.hid (show chkH [a, b] = 0 by
    rcases chkH_two (a := a) (b := b) with ⟨h, _⟩ | ⟨_, h⟩
    · exact h
    · exact absurd ⟨ha, hb⟩ h)
  have hX := Blk.new w 24 #[.int .i64 s0, .int .i64 s1, .int .i64 s2, .int .i64 s3, .int .i64 s4, .int .i64 s5, .int .i64 s6, .int .i64 s7, .int .i64 s8, .int .i64 s9, .int .i64 s10, .int .i64 s11]
  have hB0 := below1 w (.cells #[.int .i64 s0, .int .i64 s1, .int .i64 s2, .int .i64 s3, .int .i64 s4, .int .i64 s5, .int .i64 s6, .int .i64 s7, .int .i64 s8, .int .i64 s9, .int .i64 s10, .int .i64 s11] 24)
  have HX := Lib.hid hX
  clear hX
  have HIh := Lib.hid (show (Tryd.prog.info? 24).map (·.size) = some (#[.int .i64 s0, .int .i64 s1, .int .i64 s2, .int .i64 s3, .int .i64 s4, .int .i64 s5, .int .i64 s6, .int .i64 s7, .int .i64 s8, .int .i64 s9, .int .i64 s10, .int .i64 s11] : Array Value).size from info_houses)
  go_enter Tryd.func18, Tryd.ntmps18
  go_wp2_with (refine wpList_load_row rfl 24 (.tmp 3) rfl w.heap.size rfl 24 #[.int .i64 s0, .int .i64 s1, .int .i64 s2, .int .i64 s3, .int .i64 s4, .int .i64 s5, .int .i64 s6, .int .i64 s7, .int .i64 s8, .int .i64 s9, .int .i64 s10, .int .i64 s11] (0, 0) _ HX.out Tryd.underlying24 rfl HIh.out ?_)
  have hR2 : Reads ((w.alloc (.cells #[.int .i64 s0, .int .i64 s1, .int .i64 s2, .int .i64 s3, .int .i64 s4, .int .i64 s5, .int .i64 s6, .int .i64 s7, .int .i64 s8, .int .i64 s9, .int .i64 s10, .int .i64 s11] 24)).alloc (.cells #[.int .i64 a, .int .i64 b] 3)) (some ⟨w.heap.size + 1, 0, none⟩) [a, b] := by
    have e1 : (w.alloc (.cells #[.int .i64 s0, .int .i64 s1, .int .i64 s2, .int .i64 s3, .int .i64 s4, .int .i64 s5, .int .i64 s6, .int .i64 s7, .int .i64 s8, .int .i64 s9, .int .i64 s10, .int .i64 s11] 24)).heap.size = w.heap.size + 1 := by simp
    rw [← e1]; exact reads_new _ 3 [a, b]
  refine (enter_ok2 s0 s1 s2 s3 s4 s5 s6 s7 s8 s9 s10 s11 a b HC HN HAB (w.heap.size + 1) 2 _ hR2).mono ?_
  rintro e w4 ⟨base, mb, D, rfl, hmb, hog, hat, hb4⟩
  have hB4 : Below w.heap.size w w4 := (hB0.alloc hB0.size _).trans (hb4.mono (hB0.alloc hB0.size _).size)
  clear hmb
  clear hb4 hB0 HX hR2
  have HI13 := Lib.hid (show (Tryd.prog.info? 84).map (·.size) = some (#[.int .i64 s0, .int .i64 s1, .int .i64 s2, .int .i64 s3, .int .i64 s4, .int .i64 s5, .int .i64 s6, .int .i64 s7, .int .i64 s8, .int .i64 s9, .int .i64 s10, .int .i64 s11, .map (some mb)] : Array Value).size from info_circle)
  have HZ := Lib.hid (show Blk (w4.alloc (.cells #[.int .i64 0, .int .i64 0, .int .i64 0, .int .i64 0, .int .i64 0, .int .i64 0, .int .i64 0, .int .i64 0, .int .i64 0, .int .i64 0, .int .i64 0, .int .i64 0, .map none] 84)) w4.heap.size 84 #[.int .i64 0, .int .i64 0, .int .i64 0, .int .i64 0, .int .i64 0, .int .i64 0, .int .i64 0, .int .i64 0, .int .i64 0, .int .i64 0, .int .i64 0, .int .i64 0, .map none] from blk_newN _ _ rfl)
  have HST := Lib.hid (HZ.out.row #[.int .i64 s0, .int .i64 s1, .int .i64 s2, .int .i64 s3, .int .i64 s4, .int .i64 s5, .int .i64 s6, .int .i64 s7, .int .i64 s8, .int .i64 s9, .int .i64 s10, .int .i64 s11, .map (some mb)])
  go_wp2_with (first
    | (refine wpList_store_row rfl 84 (.tmp 8) (.tmp 16) rfl w4.heap.size #[.int .i64 s0, .int .i64 s1, .int .i64 s2, .int .i64 s3, .int .i64 s4, .int .i64 s5, .int .i64 s6, .int .i64 s7, .int .i64 s8, .int .i64 s9, .int .i64 s10, .int .i64 s11, .map (some mb)] rfl rfl 84 _ HZ.out HI13.out rfl (by simp [Value.oneCell']) ?_)
    | (refine wpList_load_row rfl 84 (.tmp 8) rfl w4.heap.size rfl 84 #[.int .i64 s0, .int .i64 s1, .int .i64 s2, .int .i64 s3, .int .i64 s4, .int .i64 s5, .int .i64 s6, .int .i64 s7, .int .i64 s8, .int .i64 s9, .int .i64 s10, .int .i64 s11, .map (some mb)] (0, 0) _ HST.out Tryd.underlying84 rfl HI13.out ?_) | fail)
  generalize hW5 : World.setRow _ _ _ = W5
  have hg5 : w4.grownBy W5 none := by
    rw [← hW5]
    exact ⟨rfl, rfl, rfl, by simp [World.setRow], fun j hj _ => (setRow_other _ w4.heap.size j _ (Nat.ne_of_lt hj)).trans (Below.heap_alloc _ _ j hj)⟩
  have HOG := Lib.hid (groups_kept hog hg5 (fun r e => by cases e))
  have hB5 : Below w.heap.size w W5 := hB4.grown hg5 hB4.size (fun j e => by cases e)
  have HFF := Lib.hid (show Fig (fg [s0, s1, s2, s3, s4, s5, s6, s7, s8, s9, s10, s11] a) from chkF_zero HC.out (a - 1).toNat (hou_lt ha))
  have hCi := circ_of s0 s1 s2 s3 s4 s5 s6 s7 s8 s9 s10 s11 mb
  clear hog hB4 hg5 hW5 HZ
  refine (callsIn_wide.1 (aspects_in _ [s0, s1, s2, s3, s4, s5, s6, s7, s8, s9, s10, s11] mb hCi a b ha hb base D W5 HOG (Lib.hid hat) HFF.out (Nat.le_trans hw6 hB5.size))).mono ?_
  rintro e w6 ⟨v, rfl, hown, hb6⟩
  go_wp2
  go_ret2
  exact ⟨⟨v, rfl, ownsRow_base hown hB5.size⟩, hB5.trans (hb6.mono hB5.size)⟩

theorem list12 {s : List Int} (h : s.length = 12) : ∃ s0 s1 s2 s3 s4 s5 s6 s7 s8 s9 s10 s11, s = [s0, s1, s2, s3, s4, s5, s6, s7, s8, s9, s10, s11] := by
  rcases s with _ | ⟨s0, _ | ⟨s1, _ | ⟨s2, _ | ⟨s3, _ | ⟨s4, _ | ⟨s5, _ | ⟨s6, _ | ⟨s7, _ | ⟨s8, _ | ⟨s9, _ | ⟨s10, _ | ⟨s11, _ | ⟨s12, r⟩⟩⟩⟩⟩⟩⟩⟩⟩⟩⟩⟩⟩ <;> simp at h
  exact ⟨s0, s1, s2, s3, s4, s5, s6, s7, s8, s9, s10, s11, rfl⟩
section
variable {s : List Int} (hl : s.length = 12) (HC : Hid (chkF s = 0)) (a b : Int) (ha : Hou a) (hb : Hou b) (HAB : Hid ((a == b) = false)) (w : World) (hw6 : 6 ≤ w.heap.size)
include hl HC ha hb HAB hw6
theorem ties_list : Calls Tryd.prog 17 #[.agg (arr s), .int .i64 a, .int .i64 b] w fun e w' => (∃ v ts, e = .returned (.tuple #[v, .int .i64 0]) ∧ ts.Perm (rawL s a b) ∧ w'.ownsRow w.heap.size 66 3 v ts.length (rowT ts)) ∧ Below w.heap.size w w' := by
  obtain ⟨s0, s1, s2, s3, s4, s5, s6, s7, s8, s9, s10, s11, rfl⟩ := list12 hl
  exact tiesS_any s0 s1 s2 s3 s4 s5 s6 s7 s8 s9 s10 s11 HC a b ha hb HAB w hw6
theorem aspects_list : Calls Tryd.prog 18 #[.agg (arr s), .int .i64 a, .int .i64 b] w fun e w' => (∃ v, e = .returned (.tuple #[v, .int .i64 0]) ∧ w'.ownsRow w.heap.size 72 3 v (asL b (standL s (fg s a) 12)).length (rowT (asL b (standL s (fg s a) 12)))) ∧ Below w.heap.size w w' := by
  obtain ⟨s0, s1, s2, s3, s4, s5, s6, s7, s8, s9, s10, s11, rfl⟩ := list12 hl
  exact aspectsS_any s0 s1 s2 s3 s4 s5 s6 s7 s8 s9 s10 s11 HC a b ha hb HAB w hw6
theorem judge_list : Calls Tryd.prog 19 #[.agg (arr s), .int .i64 a, .int .i64 b] w fun e w' => e = .returned (.tuple #[.int .i64 (jdg s a b), .int .i64 0]) ∧ Below w.heap.size w w' := by
  obtain ⟨s0, s1, s2, s3, s4, s5, s6, s7, s8, s9, s10, s11, rfl⟩ := list12 hl
  exact judgeS_any s0 s1 s2 s3 s4 s5 s6 s7 s8 s9 s10 s11 HC a b ha hb HAB w hw6
end
theorem on_any (B n : Nat) (x : Int) (hn : n < 12) (hx : Hou x) (w : World) (hc : w.cell? ⟨B, 0, none⟩ = some (.int .i64 (n : Int))) :
    Calls Tryd.prog 29 #[.int .i64 x, .pointer (some ⟨B, 0, none⟩)] w fun e w' => e = .returned (.int .i64 (onV n x)) ∧ w = w' := by
  obtain ⟨h1, h2⟩ := hx
  have e1 : IntKind.i64.wrap (x - 1) = x - 1 := IntWalk.i64_in _ (by omega)
  have e2 : IntKind.i64.wrap (x - 1 + (n : Int)) = x - 1 + (n : Int) := IntWalk.i64_in _ (by omega)
  obtain ⟨R, hR⟩ : ∃ R, (x - 1 + (n : Int)) % 12 = R := ⟨_, rfl⟩
  have hR0 : 0 ≤ R ∧ R < 12 := by omega
  have e3 : (x - 1 + (n : Int)).tmod 12 = R := by rw [Int.tmod_eq_emod_of_nonneg (by omega)]; exact hR
  have e4 : IntKind.i64.wrap ((x - 1 + (n : Int)).tmod 12) = R := by rw [e3]; exact IntWalk.i64_in _ (by omega)
  have e5 : IntKind.i64.wrap (R + 1) = R + 1 := IntWalk.i64_in _ (by omega)
  have HO := Lib.hid (show onV n x = R + 1 by unfold onV; rw [hR])
  clear hR
  go_enter Tryd.func29, Tryd.ntmps29
  go_wp2
  go_ret
  exact ⟨by rw [HO.out]; rfl, rfl⟩
end Go.Proofs.YtdnccdobnhbpeaaDoor
