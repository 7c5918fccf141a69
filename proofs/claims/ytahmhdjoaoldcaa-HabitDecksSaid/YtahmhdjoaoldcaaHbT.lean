/-
  HabitDecks: a deck's model is valid; check.
-/
import Derived.Test.YtahmhdjoaoldcaaHbS
import Derived.Test.YtahmhdjoaoldcaaRgm
import Derived.Test.YtahmhdjoaoldcaaHbL
namespace Go.Proofs.Ytahmhdjoaoldcaa
open Go Go.RowKit
set_option linter.unusedVariables false
set_option linter.unusedSimpArgs false

set_option maxRecDepth 100000 in
set_option maxHeartbeats 4000000 in
theorem valid_any (pr : Nat) (A : Int) (p : Option Addr) (row : List Int) (n c : Nat) (hx : Hid (row.length = n)) (hn1 : 1 ≤ n) (hn : n ≤ 32) (hO : Hid (anyB (outB 0 1000) row = false)) (hK0 : Hid (chk1 row = 0)) (hA1 : 1 ≤ A) (hA2 : A ≤ lsum row) (w : World)
    (hpr : pr < w.heap.size) (hp : w.cell? ⟨pr, 0, none⟩ = some (.slice p n c)) (hR : Reads w p row) :
    Calls Try.prog 45 #[.agg #[.int .i64 3, .slice (some ⟨pr, 0, none⟩) 1 1, .int .i64 A]] w fun e w' => e = .returned (.bool true) ∧ Below w.heap.size w w' := by
  have hTot := fun V (h : Reads V p row) => totalH_any p row n c hx (by omega) hK0.out V h
  obtain ⟨S, hS⟩ : ∃ S, lsum row = S := ⟨_, rfl⟩
  rw [hS] at hA2
  rw [hS] at hTot
  have hqa : decide ((1 : Int) ≤ A) = true := by simpa using hA1
  have hql : decide (A ≤ S) = true := by simpa using hA2
  clear hS
  have hb0 : Below w.heap.size w (w.alloc (.cells #[.int .i64 3, .slice (some ⟨pr, 0, none⟩) 1 1, .int .i64 A] 46)) := below1 _ _
  have hm : ModB (w.alloc (.cells #[.int .i64 3, .slice (some ⟨pr, 0, none⟩) 1 1, .int .i64 A] 46)) w.heap.size pr A := ⟨by go_simp, by go_simp, by go_simp⟩
  have hbW : w.heap.size < (w.alloc (.cells #[.int .i64 3, .slice (some ⟨pr, 0, none⟩) 1 1, .int .i64 A] 46)).heap.size := by simp
  have hprW : pr < (w.alloc (.cells #[.int .i64 3, .slice (some ⟨pr, 0, none⟩) 1 1, .int .i64 A] 46)).heap.size := by simp; omega
  have hpW := (hb0.cell (p := ⟨pr, 0, none⟩) hpr).trans hp
  have hRW := hR.below hb0 (Nat.le_refl _)
  go_enter Try.func45, Try.ntmps45
  go_wp2_with fail
  refine wp_region_vals follows_mixed [some 46, some 47, some 48, some 49, some 50, some 51, some 52, some 53, some 54, some 55, some 56, some 57, some 58, some 59, some 60, some 61, some 62, some 63, some 64, some 65, some 66, some 67, some 68, some 2] (by kernel_rfl) [(.pointer (some ⟨w.heap.size, 1, none⟩)), (.slice (some ⟨pr, 0, none⟩) 1 1), (.int .i64 1), (.bool true), (.bool true), (.agg #[.int .i64 3, .slice (some ⟨pr, 0, none⟩) 1 1, .int .i64 A]), (.bool true), (.bool true), (.bool true), (.pointer (some ⟨w.heap.size, 2, none⟩)), (.int .i64 A), (.bool true), (.bool true), (.bool true), (.pointer (some ⟨w.heap.size, 2, none⟩)), (.int .i64 A), (.pointer (some ⟨w.heap.size, 1, none⟩)), (.slice (some ⟨pr, 0, none⟩) 1 1), (.pointer (some ⟨pr, 0, none⟩)), (.slice p n c), (.int .i64 S), (.bool true), (.bool true), (.bool true)] rfl ?step ?fin
  case step =>
    intro i hi a V F
    have hi : i < 24 := hi
    have e : i = 0 ∨ i = 1 ∨ i = 2 ∨ i = 3 ∨ i = 4 ∨ i = 5 ∨ i = 6 ∨ i = 7 ∨ i = 8 ∨ i = 9 ∨ i = 10 ∨ i = 11 ∨ i = 12 ∨ i = 13 ∨ i = 14 ∨ i = 15 ∨ i = 16 ∨ i = 17 ∨ i = 18 ∨ i = 19 ∨ i = 20 ∨ i = 21 ∨ i = 22 ∨ i = 23 := by omega
    clear hi
    rcases e with rfl | rfl | rfl | rfl | rfl | rfl | rfl | rfl | rfl | rfl | rfl | rfl | rfl | rfl | rfl | rfl | rfl | rfl | rfl | rfl | rfl | rfl | rfl | rfl
    · have e1 : a.tmps[1]?.getD undef = (.pointer (some ⟨w.heap.size, 0, none⟩)) := (F.kept 1 (by kernel_rfl)).trans rfl
      refine wpOp_step rfl (fun K hK => ?_)
      refine Eq.mpr (if_pos (by rfl)) ?_
      go_simp
      exact hK _ _ ⟨rfl, Below.refl _ _⟩
    · have e46 : a.tmps[46]?.getD undef = (.pointer (some ⟨w.heap.size, 1, none⟩)) := F.dep 0 46 (by kernel_rfl) rfl
      refine wpOp_step rfl (fun K hK => ?_)
      refine Eq.mpr (if_pos (by rfl)) ?_
      obtain ⟨m0, m1, m2⟩ := hm.below F.below hbW
      have hpc := (F.below.cell (p := ⟨pr, 0, none⟩) hprW).trans hpW
      go_simp
      exact hK _ _ ⟨rfl, Below.refl _ _⟩
    · have e47 : a.tmps[47]?.getD undef = (.slice (some ⟨pr, 0, none⟩) 1 1) := F.dep 1 47 (by kernel_rfl) rfl
      refine wpOp_step rfl (fun K hK => ?_)
      refine Eq.mpr (if_pos (by rfl)) ?_
      go_simp
      exact hK _ _ ⟨rfl, Below.refl _ _⟩
    · have e48 : a.tmps[48]?.getD undef = (.int .i64 1) := F.dep 2 48 (by kernel_rfl) rfl
      refine wpOp_step rfl (fun K hK => ?_)
      refine Eq.mpr (if_pos (by rfl)) ?_
      go_simp
      exact hK _ _ ⟨rfl, Below.refl _ _⟩
    · have e49 : a.tmps[49]?.getD undef = (.bool true) := F.dep 3 49 (by kernel_rfl) rfl
      refine wpOp_step rfl (fun K hK => ?_)
      refine Eq.mpr (if_pos (by rfl)) ?_
      go_simp
      exact hK _ _ ⟨rfl, Below.refl _ _⟩
    · have e1 : a.tmps[1]?.getD undef = (.pointer (some ⟨w.heap.size, 0, none⟩)) := (F.kept 1 (by kernel_rfl)).trans rfl
      have e50 : a.tmps[50]?.getD undef = (.bool true) := F.dep 4 50 (by kernel_rfl) rfl
      refine wpOp_step rfl (fun K hK => ?_)
      refine Eq.mpr (if_pos (wanted_of rfl rfl e50)) ?_
      obtain ⟨m0, m1, m2⟩ := hm.below F.below hbW
      have hpc := (F.below.cell (p := ⟨pr, 0, none⟩) hprW).trans hpW
      go_simp
      exact hK _ _ ⟨rfl, Below.refl _ _⟩
    · have e51 : a.tmps[51]?.getD undef = (.agg #[.int .i64 3, .slice (some ⟨pr, 0, none⟩) 1 1, .int .i64 A]) := F.dep 5 51 (by kernel_rfl) rfl
      have e50 : a.tmps[50]?.getD undef = (.bool true) := F.dep 4 50 (by kernel_rfl) rfl
      refine wpOp_step rfl (fun K hK => ?_)
      refine Eq.mpr (if_pos (wanted_of rfl rfl e50)) ?_
      go_simp
      go_wp2_with fail
      refine (validRows_any pr A p row n c hx hn1 hn hO hK0 V (Nat.lt_of_lt_of_le hprW F.below.size) ((F.below.cell (p := ⟨pr, 0, none⟩) hprW).trans hpW) (hRW.below F.below (Nat.le_refl _))).mono ?_
      rintro e V2 ⟨rfl, hb2⟩
      exact hK _ _ ⟨rfl, hb2⟩
    · have e50 : a.tmps[50]?.getD undef = (.bool true) := F.dep 4 50 (by kernel_rfl) rfl
      have e52 : a.tmps[52]?.getD undef = (.bool true) := F.dep 6 52 (by kernel_rfl) rfl
      refine wpOp_step rfl (fun K hK => ?_)
      refine Eq.mpr (if_pos (by rfl)) ?_
      go_simp
      exact hK _ _ ⟨rfl, Below.refl _ _⟩
    · have e53 : a.tmps[53]?.getD undef = (.bool true) := F.dep 7 53 (by kernel_rfl) rfl
      refine wpOp_step rfl (fun K hK => ?_)
      refine Eq.mpr (if_pos (by rfl)) ?_
      go_simp
      exact hK _ _ ⟨rfl, Below.refl _ _⟩
    · have e1 : a.tmps[1]?.getD undef = (.pointer (some ⟨w.heap.size, 0, none⟩)) := (F.kept 1 (by kernel_rfl)).trans rfl
      have e54 : a.tmps[54]?.getD undef = (.bool true) := F.dep 8 54 (by kernel_rfl) rfl
      refine wpOp_step rfl (fun K hK => ?_)
      refine Eq.mpr (if_pos (wanted_of rfl rfl e54)) ?_
      go_simp
      exact hK _ _ ⟨rfl, Below.refl _ _⟩
    · have e55 : a.tmps[55]?.getD undef = (.pointer (some ⟨w.heap.size, 2, none⟩)) := F.dep 9 55 (by kernel_rfl) rfl
      have e54 : a.tmps[54]?.getD undef = (.bool true) := F.dep 8 54 (by kernel_rfl) rfl
      refine wpOp_step rfl (fun K hK => ?_)
      refine Eq.mpr (if_pos (wanted_of rfl rfl e54)) ?_
      obtain ⟨m0, m1, m2⟩ := hm.below F.below hbW
      have hpc := (F.below.cell (p := ⟨pr, 0, none⟩) hprW).trans hpW
      go_simp
      exact hK _ _ ⟨rfl, Below.refl _ _⟩
    · have e56 : a.tmps[56]?.getD undef = (.int .i64 A) := F.dep 10 56 (by kernel_rfl) rfl
      have e54 : a.tmps[54]?.getD undef = (.bool true) := F.dep 8 54 (by kernel_rfl) rfl
      refine wpOp_step rfl (fun K hK => ?_)
      refine Eq.mpr (if_pos (wanted_of rfl rfl e54)) ?_
      go_simp
      exact hK _ _ ⟨rfl, Below.refl _ _⟩
    · have e54 : a.tmps[54]?.getD undef = (.bool true) := F.dep 8 54 (by kernel_rfl) rfl
      have e57 : a.tmps[57]?.getD undef = (.bool true) := F.dep 11 57 (by kernel_rfl) rfl
      refine wpOp_step rfl (fun K hK => ?_)
      refine Eq.mpr (if_pos (by rfl)) ?_
      go_simp
      exact hK _ _ ⟨rfl, Below.refl _ _⟩
    · have e58 : a.tmps[58]?.getD undef = (.bool true) := F.dep 12 58 (by kernel_rfl) rfl
      refine wpOp_step rfl (fun K hK => ?_)
      refine Eq.mpr (if_pos (by rfl)) ?_
      go_simp
      exact hK _ _ ⟨rfl, Below.refl _ _⟩
    · have e1 : a.tmps[1]?.getD undef = (.pointer (some ⟨w.heap.size, 0, none⟩)) := (F.kept 1 (by kernel_rfl)).trans rfl
      have e59 : a.tmps[59]?.getD undef = (.bool true) := F.dep 13 59 (by kernel_rfl) rfl
      refine wpOp_step rfl (fun K hK => ?_)
      refine Eq.mpr (if_pos (wanted_of rfl rfl e59)) ?_
      go_simp
      exact hK _ _ ⟨rfl, Below.refl _ _⟩
    · have e60 : a.tmps[60]?.getD undef = (.pointer (some ⟨w.heap.size, 2, none⟩)) := F.dep 14 60 (by kernel_rfl) rfl
      have e59 : a.tmps[59]?.getD undef = (.bool true) := F.dep 13 59 (by kernel_rfl) rfl
      refine wpOp_step rfl (fun K hK => ?_)
      refine Eq.mpr (if_pos (wanted_of rfl rfl e59)) ?_
      obtain ⟨m0, m1, m2⟩ := hm.below F.below hbW
      have hpc := (F.below.cell (p := ⟨pr, 0, none⟩) hprW).trans hpW
      go_simp
      exact hK _ _ ⟨rfl, Below.refl _ _⟩
    · have e1 : a.tmps[1]?.getD undef = (.pointer (some ⟨w.heap.size, 0, none⟩)) := (F.kept 1 (by kernel_rfl)).trans rfl
      have e59 : a.tmps[59]?.getD undef = (.bool true) := F.dep 13 59 (by kernel_rfl) rfl
      refine wpOp_step rfl (fun K hK => ?_)
      refine Eq.mpr (if_pos (wanted_of rfl rfl e59)) ?_
      go_simp
      exact hK _ _ ⟨rfl, Below.refl _ _⟩
    · have e62 : a.tmps[62]?.getD undef = (.pointer (some ⟨w.heap.size, 1, none⟩)) := F.dep 16 62 (by kernel_rfl) rfl
      have e59 : a.tmps[59]?.getD undef = (.bool true) := F.dep 13 59 (by kernel_rfl) rfl
      refine wpOp_step rfl (fun K hK => ?_)
      refine Eq.mpr (if_pos (wanted_of rfl rfl e59)) ?_
      obtain ⟨m0, m1, m2⟩ := hm.below F.below hbW
      have hpc := (F.below.cell (p := ⟨pr, 0, none⟩) hprW).trans hpW
      go_simp
      exact hK _ _ ⟨rfl, Below.refl _ _⟩
    · have e63 : a.tmps[63]?.getD undef = (.slice (some ⟨pr, 0, none⟩) 1 1) := F.dep 17 63 (by kernel_rfl) rfl
      have e59 : a.tmps[59]?.getD undef = (.bool true) := F.dep 13 59 (by kernel_rfl) rfl
      refine wpOp_step rfl (fun K hK => ?_)
      refine Eq.mpr (if_pos (wanted_of rfl rfl e59)) ?_
      go_simp
      exact hK _ _ ⟨rfl, Below.refl _ _⟩
    · have e64 : a.tmps[64]?.getD undef = (.pointer (some ⟨pr, 0, none⟩)) := F.dep 18 64 (by kernel_rfl) rfl
      have e59 : a.tmps[59]?.getD undef = (.bool true) := F.dep 13 59 (by kernel_rfl) rfl
      refine wpOp_step rfl (fun K hK => ?_)
      refine Eq.mpr (if_pos (wanted_of rfl rfl e59)) ?_
      obtain ⟨m0, m1, m2⟩ := hm.below F.below hbW
      have hpc := (F.below.cell (p := ⟨pr, 0, none⟩) hprW).trans hpW
      go_simp
      exact hK _ _ ⟨rfl, Below.refl _ _⟩
    · have e65 : a.tmps[65]?.getD undef = (.slice p n c) := F.dep 19 65 (by kernel_rfl) rfl
      have e59 : a.tmps[59]?.getD undef = (.bool true) := F.dep 13 59 (by kernel_rfl) rfl
      refine wpOp_step rfl (fun K hK => ?_)
      refine Eq.mpr (if_pos (wanted_of rfl rfl e59)) ?_
      go_simp
      go_wp2_with fail
      refine (hTot V (hRW.below F.below (Nat.le_refl _))).mono ?_
      rintro e V2 ⟨rfl, hb2⟩
      exact hK _ _ ⟨rfl, hb2⟩
    · have e61 : a.tmps[61]?.getD undef = (.int .i64 A) := F.dep 15 61 (by kernel_rfl) rfl
      have e66 : a.tmps[66]?.getD undef = (.int .i64 S) := F.dep 20 66 (by kernel_rfl) rfl
      have e59 : a.tmps[59]?.getD undef = (.bool true) := F.dep 13 59 (by kernel_rfl) rfl
      refine wpOp_step rfl (fun K hK => ?_)
      refine Eq.mpr (if_pos (wanted_of rfl rfl e59)) ?_
      go_simp
      exact hK _ _ ⟨rfl, Below.refl _ _⟩
    · have e59 : a.tmps[59]?.getD undef = (.bool true) := F.dep 13 59 (by kernel_rfl) rfl
      have e67 : a.tmps[67]?.getD undef = (.bool true) := F.dep 21 67 (by kernel_rfl) rfl
      refine wpOp_step rfl (fun K hK => ?_)
      refine Eq.mpr (if_pos (by rfl)) ?_
      go_simp
      exact hK _ _ ⟨rfl, Below.refl _ _⟩
    · have e68 : a.tmps[68]?.getD undef = (.bool true) := F.dep 22 68 (by kernel_rfl) rfl
      refine wpOp_step rfl (fun K hK => ?_)
      refine Eq.mpr (if_pos (by rfl)) ?_
      go_simp
      exact hK _ _ ⟨rfl, Below.refl _ _⟩
  case fin =>
    intro V hb
    simp only [finV, List.set_cons_succ, List.set_cons_zero]
    go_wp2
    go_ret
    exact ⟨rfl, hb0.trans (hb.mono hb0.size)⟩
end Go.Proofs.Ytahmhdjoaoldcaa
