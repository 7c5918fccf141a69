/-
  The document's examples: what known of the statements does.
-/
import Derived.Test.YtnpnnfbmnlgioaaR
import Derived.Test.YtnpnnfbmnlgioaaY
namespace Go.Proofs.Ytnpnnfbmnlgioaa
open Go.RowKit

theorem reads_new (w : World) (xs : List Int) (t : TypeId) : Reads (w.alloc (.cells (xs.map (Value.int .i64)).toArray t)) (some ⟨w.heap.size, 0, none⟩) xs := fun k hk => by
  refine ⟨w.heap.size, 0, rfl, ?_⟩
  rw [Nat.zero_add, World.cell?_alloc_at _ _ _ _ rfl, nth_eq hk]
  simp [hk]

/-- The first half of the examples. -/
theorem ex_either : badC 1 2 = false ∧ badC 1 6 = false := by decide +kernel

set_option maxRecDepth 100000 in
set_option maxHeartbeats 8000000 in
theorem known_any (w : World) :
    Calls Try.prog 15 #[] w fun e w' => e = .returned (.bool true) ∧ Below w.heap.size w w' := by
  go_enter Try.func15, Try.ntmps15
  go_wp2_with fail
  have r1 : Reads ((w.alloc (.cells #[.int .i64 2, .int .i64 1, .int .i64 1] 3)).alloc (.cells #[.int .i64 1, .int .i64 2] 3)) (some ⟨w.heap.size, 0, none⟩) [2, 1, 1] := (reads_new w [2, 1, 1] 3).below (below1 _ _) (Nat.le_refl _)
  have r2 : Reads ((w.alloc (.cells #[.int .i64 2, .int .i64 1, .int .i64 1] 3)).alloc (.cells #[.int .i64 1, .int .i64 2] 3)) (some ⟨w.heap.size + 1, 0, none⟩) [1, 2] := by
    have := reads_new (w.alloc (.cells #[.int .i64 2, .int .i64 1, .int .i64 1] 3)) [1, 2] 3
    rwa [World.size_alloc] at this
  have hT := of_any (some ⟨w.heap.size, 0, none⟩) [2, 1, 1] 3 (some ⟨w.heap.size + 1, 0, none⟩) [1, 2] 2 _ (by simp) (by simp) r1 r2
  rw [ex_of] at hT
  refine hT.mono ?_
  rintro e w1 ⟨rfl, hb1⟩
  have hB1 : Below w.heap.size w w1 := ((below1 _ _).alloc (by simp) _).trans (hb1.mono (by simp; omega))
  clear hT r1 r2 hb1
  go_wp2_with fail
  have r1 : Reads ((w1.alloc (.cells #[.int .i64 1, .int .i64 2] 23)).alloc (.cells #[.int .i64 1, .int .i64 1] 3)) (some ⟨w1.heap.size + 1, 0, none⟩) [1, 1] := by
    have := reads_new (w1.alloc (.cells #[.int .i64 1, .int .i64 2] 23)) [1, 1] 3
    rwa [World.size_alloc] at this
  have hT := repeat_any (some ⟨w1.heap.size + 1, 0, none⟩) [1, 1] 2 3 _ (by simp) r1
  rw [ex_rep] at hT
  refine hT.mono ?_
  rintro e w2 ⟨p3, c3, rfl, hr3, hb2⟩
  dsimp only at hr3 ⊢
  have k0 : w2.cell? ⟨w1.heap.size, 0, none⟩ = some (.int .i64 1) := cell_tr hb2 (by go_simp)
  have k1 : w2.cell? ⟨w1.heap.size, 1, none⟩ = some (.int .i64 2) := cell_tr hb2 (by go_simp)
  have hB2 : Below w.heap.size w w2 := tr hB1 (((below1 _ _).alloc (by simp) _).trans (hb2.mono (by simp; omega)))
  clear hT r1 hb2 hB1
  go_wp2_with fail
  have s0 : Reads ((((w2.alloc (.cells #[.int .i64 1, .int .i64 1] 3)).alloc (.cells #[.int .i64 1, .int .i64 0] 3)).alloc (.cells #[.int .i64 1, .int .i64 2] 3)).alloc (.cells #[.slice (some ⟨w2.heap.size + 1, 0, none⟩) 2 2, .slice (some ⟨w2.heap.size + 1 + 1, 0, none⟩) 2 2] 34)) (some ⟨w2.heap.size, 0, none⟩) [1, 1] :=
    (reads_new w2 [1, 1] 3).below (((below1 _ _).alloc (by simp) _).alloc (by simp <;> omega) _) (Nat.le_refl _)
  have s1 : Reads ((((w2.alloc (.cells #[.int .i64 1, .int .i64 1] 3)).alloc (.cells #[.int .i64 1, .int .i64 0] 3)).alloc (.cells #[.int .i64 1, .int .i64 2] 3)).alloc (.cells #[.slice (some ⟨w2.heap.size + 1, 0, none⟩) 2 2, .slice (some ⟨w2.heap.size + 1 + 1, 0, none⟩) 2 2] 34)) (some ⟨w2.heap.size + 1, 0, none⟩) [1, 0] := by
    have := (reads_new (w2.alloc (.cells #[.int .i64 1, .int .i64 1] 3)) [1, 0] 3).below ((below1 _ (.cells #[.int .i64 1, .int .i64 2] 3)).alloc (by simp) (.cells #[.slice (some ⟨w2.heap.size + 1, 0, none⟩) 2 2, .slice (some ⟨w2.heap.size + 1 + 1, 0, none⟩) 2 2] 34)) (Nat.le_refl _)
    rwa [World.size_alloc] at this
  have s2 : Reads ((((w2.alloc (.cells #[.int .i64 1, .int .i64 1] 3)).alloc (.cells #[.int .i64 1, .int .i64 0] 3)).alloc (.cells #[.int .i64 1, .int .i64 2] 3)).alloc (.cells #[.slice (some ⟨w2.heap.size + 1, 0, none⟩) 2 2, .slice (some ⟨w2.heap.size + 1 + 1, 0, none⟩) 2 2] 34)) (some ⟨w2.heap.size + 1 + 1, 0, none⟩) [1, 2] := by
    have := (reads_new ((w2.alloc (.cells #[.int .i64 1, .int .i64 1] 3)).alloc (.cells #[.int .i64 1, .int .i64 0] 3)) [1, 2] 3).below (below1 _ (.cells #[.slice (some ⟨w2.heap.size + 1, 0, none⟩) 2 2, .slice (some ⟨w2.heap.size + 1 + 1, 0, none⟩) 2 2] 34)) (Nat.le_refl _)
    rwa [World.size_alloc, World.size_alloc] at this
  have sL : ReadsL ((((w2.alloc (.cells #[.int .i64 1, .int .i64 1] 3)).alloc (.cells #[.int .i64 1, .int .i64 0] 3)).alloc (.cells #[.int .i64 1, .int .i64 2] 3)).alloc (.cells #[.slice (some ⟨w2.heap.size + 1, 0, none⟩) 2 2, .slice (some ⟨w2.heap.size + 1 + 1, 0, none⟩) 2 2] 34)) (some ⟨w2.heap.size + 1 + 1 + 1, 0, none⟩) [[1, 0], [1, 2]] := fun k hk => by
    rcases k with _ | _ | k
    · exact ⟨_, 0, rfl, _, 2, by show _ = some (Value.slice _ 2 2); go_simp, s1⟩
    · exact ⟨_, 0, rfl, _, 2, by show _ = some (Value.slice _ 2 2); go_simp, s2⟩
    · simp at hk; omega
  have hT := mix_ok (some ⟨w2.heap.size, 0, none⟩) [1, 1] 2 (w2.heap.size + 1 + 1 + 1) 0 [[1, 0], [1, 2]] 2 _ 2 (by omega) rfl s0 sL (by decide +kernel) (by decide +kernel) (fun j hj => by
      rcases j with _ | _ | j
      · rfl
      · rfl
      · simp at hj; omega) (low [1, 1]) rfl (lcmTo (low [1, 1]) [[1, 0], [1, 2]] (low [1, 1]).length) rfl (by decide +kernel) (by decide +kernel) (by decide) (fun j hj => by
      rcases j with _ | _ | j
      · decide +kernel
      · decide +kernel
      · simp at hj; omega)
  rw [ex_mix] at hT
  refine hT.mono ?_
  rintro e w3 ⟨g5, rfl, hr5, hb3⟩
  have hN : Below w2.heap.size w2 w3 := ((((below1 _ _).alloc (by simp) _).alloc (by simp; omega) _).alloc (by simp; omega) _).trans (hb3.mono (by simp; omega))
  have hB3 := tr hB2 hN
  have k0 := cell_tr hN k0
  have k1 := cell_tr hN k1
  have hr3 := hr3.below hN (Nat.le_refl _)
  clear hT s0 s1 s2 sL hb3 hN hB2
  go_wp2_with fail
  have r1 : Reads ((w3.alloc (.cells #[.int .i64 1, .int .i64 1] 3)).alloc (.cells #[.int .i64 3, .int .i64 1] 3)) (some ⟨w3.heap.size, 0, none⟩) [1, 1] := (reads_new w3 [1, 1] 3).below (below1 _ _) (Nat.le_refl _)
  have r2 : Reads ((w3.alloc (.cells #[.int .i64 1, .int .i64 1] 3)).alloc (.cells #[.int .i64 3, .int .i64 1] 3)) (some ⟨w3.heap.size + 1, 0, none⟩) [3, 1] := by
    have := reads_new (w3.alloc (.cells #[.int .i64 1, .int .i64 1] 3)) [3, 1] 3
    rwa [World.size_alloc] at this
  have hT := apart_any (some ⟨w3.heap.size, 0, none⟩) [1, 1] 2 (some ⟨w3.heap.size + 1, 0, none⟩) [3, 1] 2 _ (by simp) (by simp) r1 r2
  rw [ex_apart] at hT
  refine hT.mono ?_
  rintro e w4 ⟨rfl, hb4⟩
  have hN : Below w3.heap.size w3 w4 := ((below1 _ _).alloc (by simp) _).trans (hb4.mono (by simp; omega))
  have hB4 := tr hB3 hN
  have k0 := cell_tr hN k0
  have k1 := cell_tr hN k1
  have hr3 := hr3.below hN (Nat.le_refl _)
  have hr5 := hr5.below hN (Nat.le_refl _)
  have hlt4 : w1.heap.size < w4.heap.size := World.block_lt_of_cell? _ _ k0
  clear hT r1 r2 hb4 hN hB3
  go_wp2_with fail
  have q1 : Reads ((w4.alloc (.cells #[.int .i64 1, .int .i64 4] 23)).alloc (.cells #[.int .i64 1, .int .i64 3, .int .i64 3, .int .i64 1] 3)) (some ⟨w4.heap.size + 1, 0, none⟩) [1, 3, 3, 1] := by
    have := reads_new (w4.alloc (.cells #[.int .i64 1, .int .i64 4] 23)) [1, 3, 3, 1] 3
    rwa [World.size_alloc] at this
  have hT := equal_any p3 [1, 3, 3, 1] c3 (some ⟨w4.heap.size + 1, 0, none⟩) [1, 3, 3, 1] 4 _ (by simp) (by simp) (hr3.below ((below1 _ _).alloc (by simp) _) (Nat.le_refl _)) q1
  rw [show eqL [1, 3, 3, 1] [1, 3, 3, 1] = true from by decide] at hT
  refine hT.mono ?_
  rintro e w5 ⟨rfl, hb5⟩
  have c0 : w5.cell? ⟨w4.heap.size, 0, none⟩ = some (.int .i64 1) := cell_tr hb5 (by go_simp)
  have c1 : w5.cell? ⟨w4.heap.size, 1, none⟩ = some (.int .i64 4) := cell_tr hb5 (by go_simp)
  have hN : Below w4.heap.size w4 w5 := ((below1 _ _).alloc (by simp) _).trans (hb5.mono (by simp; omega))
  have hB5 := tr hB4 hN
  have hr5 := hr5.below hN (Nat.le_refl _)
  clear hT q1 hb5 hN hB4 hr3 k0 k1 hlt4
  go_wp2_with fail
  have q1 := reads_new w5 [2, 1] 3
  have hT := equal_any (some ⟨g5, 0, none⟩) [2, 1] 2 (some ⟨w5.heap.size, 0, none⟩) [2, 1] 2 _ (by simp) (by simp) (hr5.below (below1 _ _) (Nat.le_refl _)) q1
  rw [show eqL [2, 1] [2, 1] = true from by decide] at hT
  refine hT.mono ?_
  rintro e w6 ⟨rfl, hb6⟩
  have hN : Below w5.heap.size w5 w6 := (below1 _ _).trans (hb6.mono (by simp))
  have c0 := cell_tr hN c0
  have c1 := cell_tr hN c1
  have hB6 := tr hB5 hN
  clear hT q1 hb6 hN hB5 hr5
  go_wp2_with fail
  have q1 := reads_new w6 [5, 2] 3
  have hT := fair_any 6 4 (some ⟨w6.heap.size, 0, none⟩) [5, 2] 2 _ (by simp) q1
  rw [ex_fair] at hT
  refine hT.mono ?_
  rintro e w7 ⟨rfl, hb7⟩
  have hB7 := tr hB6 ((below1 _ _).trans (hb7.mono (by simp)))
  clear hT q1 hb7 hB6 c0 c1
  go_wp2_with fail
  have q1 := reads_new w7 [2, 0, 3] 3
  have hT := pick_any (some ⟨w7.heap.size, 0, none⟩) [2, 0, 3] 3 2 _ (by simp) q1
  rw [ex_pick] at hT
  refine hT.mono ?_
  rintro e w8 ⟨rfl, hb8⟩
  have hB8 := tr hB7 ((below1 _ _).trans (hb8.mono (by simp)))
  clear hT q1 hb8 hB7
  go_wp2_with fail
  have hT := either_small 1 2 1 6 w8 ex_either.1 ex_either.2 2 1 3 4 (by decide +kernel) (by decide) (by decide) (by decide) (show (2 : Int) * 3 ≤ 9000000000000000000 by omega) (by omega) 2 (by decide +kernel) (by decide) (by decide)
  refine hT.mono ?_
  rintro e w9 ⟨rfl, hb9⟩
  have hB9 := tr hB8 hb9
  clear hT hb9 hB8
  rw [show (4 : Int) / 2 = 2 from rfl, show (1 : Int) * (6 / 2) = 3 from rfl]
  go_wp2
  go_ret
  exact ⟨rfl, hB9.alloc hB9.size _⟩
end Go.Proofs.Ytnpnnfbmnlgioaa
