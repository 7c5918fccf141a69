/-
  HabitDecks: the chance of an outcome that a deck casts next.
-/
import Derived.Test.YtahmhdjoaoldcaaHbW
namespace Go.Proofs.Ytahmhdjoaoldcaa
open Go Go.RowKit
set_option linter.unusedVariables false
set_option linter.unusedSimpArgs false

set_option maxRecDepth 100000 in
set_option maxHeartbeats 8000000 in
theorem chanceD_any (q o : Nat) (row : List Int) (n c : Nat) (hx : Hid (row.length = n)) (S A a0 : Int) (D : List Int) (hD : Hid (D.length = 32)) (x : Nat) (hxn : x < n) (hn : n ≤ 32) (y d M T g : Int) (hy : nth row x = y) (hd : nth D x = d) (hy0 : 0 ≤ y ∧ y ≤ 1000) (hd0 : 0 ≤ d ∧ d ≤ 1000)
    (hM : max 0 (y - d) = M) (hT : S - a0 = T) (hT1 : 1 ≤ T) (hT2 : T ≤ 100000) (hg : (Int.gcd M T : Int) = g) (w : World) (hqw : q < w.heap.size) (hR : Reads w (some ⟨q, o, none⟩) row) :
    Calls Try.prog 105 #[DeckV (some ⟨q, o, none⟩) n c S A a0 D, .int .i64 (x : Int)] w fun e w' => e = .returned (.agg #[.int .i64 (M / g), .int .i64 (T / g)]) ∧ Below w.heap.size w w' := by
  have hM0 : 0 ≤ M ∧ M ≤ 1000 := by omega
  have hF := fun V => fractionH_any M T V hM0.1 hT1 (by omega) (by omega)
  rw [hg] at hF
  obtain ⟨N1, hN1⟩ : ∃ N1, M / g = N1 := ⟨_, rfl⟩
  obtain ⟨N2, hN2⟩ : ∃ N2, T / g = N2 := ⟨_, rfl⟩
  rw [hN1, hN2] at hF ⊢
  obtain ⟨z, hz⟩ : ∃ z, y - d = z := ⟨_, rfl⟩
  have hwz : IntKind.i64.wrap (y - d) = z := by rw [← hz]; exact IntWalk.i64_in _ (by omega)
  have hwT : IntKind.i64.wrap (S - a0) = T := by rw [← hT]; exact IntWalk.i64_in _ (by omega)
  have hM3 : (if (0 : Int) < z then z else 0) = M := by rw [← hM, hz]; split <;> omega
  clear hM hT hg hN1 hN2 hz
  unfold DeckV
  obtain ⟨G, hG⟩ : ∃ G, w.heap.size = G := ⟨_, rfl⟩
  have hx1 : x < D.length := by rw [hD.out]; omega
  have hk0 : ((w.alloc (.cells (.slice (some ⟨q, o, none⟩) n c :: .int .i64 S :: .int .i64 A :: .int .i64 a0 :: D.map (Value.int .i64)).toArray 120)).alloc (.cells #[.int .i64 0, .int .i64 0] 52)).cell? ⟨G, 0, none⟩ = some (.slice (some ⟨q, o, none⟩) n c) := by subst hG; go_simp
  have hk1 : ((w.alloc (.cells (.slice (some ⟨q, o, none⟩) n c :: .int .i64 S :: .int .i64 A :: .int .i64 a0 :: D.map (Value.int .i64)).toArray 120)).alloc (.cells #[.int .i64 0, .int .i64 0] 52)).cell? ⟨G, 1, none⟩ = some (.int .i64 S) := by subst hG; go_simp
  have hk3 : ((w.alloc (.cells (.slice (some ⟨q, o, none⟩) n c :: .int .i64 S :: .int .i64 A :: .int .i64 a0 :: D.map (Value.int .i64)).toArray 120)).alloc (.cells #[.int .i64 0, .int .i64 0] 52)).cell? ⟨G, 3, none⟩ = some (.int .i64 a0) := by subst hG; go_simp
  have hkd : ((w.alloc (.cells (.slice (some ⟨q, o, none⟩) n c :: .int .i64 S :: .int .i64 A :: .int .i64 a0 :: D.map (Value.int .i64)).toArray 120)).alloc (.cells #[.int .i64 0, .int .i64 0] 52)).cell? ⟨G, 4 + x, none⟩ = some (.int .i64 d) := by
    subst hG
    go_simp
    rw [Nat.add_comm 4 x]
    simp only [List.getElem?_cons_succ, List.getElem?_map, List.getElem?_eq_getElem hx1, Option.map_some]
    rw [← nth_eq hx1, hd]
  have hr0 : ((w.alloc (.cells (.slice (some ⟨q, o, none⟩) n c :: .int .i64 S :: .int .i64 A :: .int .i64 a0 :: D.map (Value.int .i64)).toArray 120)).alloc (.cells #[.int .i64 0, .int .i64 0] 52)).cell? ⟨G + 1, 0, none⟩ = some (.int .i64 0) := by subst hG; go_simp
  have hr1 : ((w.alloc (.cells (.slice (some ⟨q, o, none⟩) n c :: .int .i64 S :: .int .i64 A :: .int .i64 a0 :: D.map (Value.int .i64)).toArray 120)).alloc (.cells #[.int .i64 0, .int .i64 0] 52)).cell? ⟨G + 1, 1, none⟩ = some (.int .i64 0) := by subst hG; go_simp
  have hz0 : ((w.alloc (.cells (.slice (some ⟨q, o, none⟩) n c :: .int .i64 S :: .int .i64 A :: .int .i64 a0 :: D.map (Value.int .i64)).toArray 120)).alloc (.cells #[.int .i64 0, .int .i64 0] 52)).frozen? ⟨G + 1, 0, none⟩ = false := by subst hG; go_simp
  have hz1 : ((w.alloc (.cells (.slice (some ⟨q, o, none⟩) n c :: .int .i64 S :: .int .i64 A :: .int .i64 a0 :: D.map (Value.int .i64)).toArray 120)).alloc (.cells #[.int .i64 0, .int .i64 0] 52)).frozen? ⟨G + 1, 1, none⟩ = false := by subst hG; go_simp
  have hGW : G < ((w.alloc (.cells (.slice (some ⟨q, o, none⟩) n c :: .int .i64 S :: .int .i64 A :: .int .i64 a0 :: D.map (Value.int .i64)).toArray 120)).alloc (.cells #[.int .i64 0, .int .i64 0] 52)).heap.size := by subst hG; simp; omega
  have hG1W : G + 1 < ((w.alloc (.cells (.slice (some ⟨q, o, none⟩) n c :: .int .i64 S :: .int .i64 A :: .int .i64 a0 :: D.map (Value.int .i64)).toArray 120)).alloc (.cells #[.int .i64 0, .int .i64 0] 52)).heap.size := by subst hG; simp
  have hqW : q < ((w.alloc (.cells (.slice (some ⟨q, o, none⟩) n c :: .int .i64 S :: .int .i64 A :: .int .i64 a0 :: D.map (Value.int .i64)).toArray 120)).alloc (.cells #[.int .i64 0, .int .i64 0] 52)).heap.size := by simp; omega
  have hbW : Below w.heap.size w ((w.alloc (.cells (.slice (some ⟨q, o, none⟩) n c :: .int .i64 S :: .int .i64 A :: .int .i64 a0 :: D.map (Value.int .i64)).toArray 120)).alloc (.cells #[.int .i64 0, .int .i64 0] 52)) := ((Below.refl _ w).alloc (Nat.le_refl _) _).alloc (by simp) _
  have hcy : ((w.alloc (.cells (.slice (some ⟨q, o, none⟩) n c :: .int .i64 S :: .int .i64 A :: .int .i64 a0 :: D.map (Value.int .i64)).toArray 120)).alloc (.cells #[.int .i64 0, .int .i64 0] 52)).cell? ⟨q, o + x, none⟩ = some (.int .i64 y) := by
    obtain ⟨q', o', e, h⟩ := (hR.below hbW (Nat.le_refl _)) x (by rw [hx.out]; exact hxn)
    cases e
    rw [h, hy]
  go_enter Try.func105, Try.ntmps105
  go_wp2_with fail
  generalize ((w.alloc (.cells (.slice (some ⟨q, o, none⟩) n c :: .int .i64 S :: .int .i64 A :: .int .i64 a0 :: D.map (Value.int .i64)).toArray 120)).alloc (.cells #[.int .i64 0, .int .i64 0] 52)) = W at hk0 hk1 hk3 hkd hr0 hr1 hz0 hz1 hGW hG1W hqW hbW hcy ⊢
  refine wp_region_last follows_mixed [some 5, some 6, some 7, some 8, some 9, some 10, some 11, some 12, some 13, some 14, some 15, some 16, some 17, some 18, some 19, some 20, some 21, some 22, some 23, none] (by kernel_rfl) [(.pointer (some ⟨G, 0, none⟩)), (.pointer (some ⟨G, 0, none⟩)), (.slice (some ⟨q, o, none⟩) n c), (.int .i64 (x : Int)), (.pointer (some ⟨q, o + x, none⟩)), (.int .i64 y), (.int .i64 (x : Int)), (.pointer (some ⟨G, 4, none⟩)), (.pointer (some ⟨G, 4 + x, none⟩)), (.int .i64 d), (.int .i64 z), (.int .i64 M), (.pointer (some ⟨G, 0, none⟩)), (.pointer (some ⟨G, 1, none⟩)), (.int .i64 S), (.pointer (some ⟨G, 3, none⟩)), (.int .i64 a0), (.int .i64 T), (.agg #[.int .i64 N1, .int .i64 N2])] rfl (by kernel_rfl) (fun x V' => x = undef ∧ ∃ V0 : World, Below W.heap.size W V0 ∧ V' = (V0.setCell ⟨G + 1, 0, none⟩ (.int .i64 N1)).setCell ⟨G + 1, 1, none⟩ (.int .i64 N2)) ?step ?last ?fin
  case step =>
    intro i hi a V F
    have hi : i < 19 := hi
    have e : i = 0 ∨ i = 1 ∨ i = 2 ∨ i = 3 ∨ i = 4 ∨ i = 5 ∨ i = 6 ∨ i = 7 ∨ i = 8 ∨ i = 9 ∨ i = 10 ∨ i = 11 ∨ i = 12 ∨ i = 13 ∨ i = 14 ∨ i = 15 ∨ i = 16 ∨ i = 17 ∨ i = 18 := by omega
    clear hi
    rcases e with rfl | rfl | rfl | rfl | rfl | rfl | rfl | rfl | rfl | rfl | rfl | rfl | rfl | rfl | rfl | rfl | rfl | rfl | rfl
    · have e2 : a.tmps[2]?.getD undef = (.pointer (some ⟨G, 0, none⟩)) := (F.kept 2 (by kernel_rfl)).trans rfl
      refine wpOp_step rfl (fun K hK => ?_)
      refine Eq.mpr (if_pos (by rfl)) ?_
      go_simp
      exact hK _ _ ⟨rfl, Below.refl _ _⟩
    · have e5 : a.tmps[5]?.getD undef = (.pointer (some ⟨G, 0, none⟩)) := F.dep 0 5 (by kernel_rfl) rfl
      refine wpOp_step rfl (fun K hK => ?_)
      refine Eq.mpr (if_pos (by rfl)) ?_
      go_simp
      exact hK _ _ ⟨rfl, Below.refl _ _⟩
    · have e6 : a.tmps[6]?.getD undef = (.pointer (some ⟨G, 0, none⟩)) := F.dep 1 6 (by kernel_rfl) rfl
      refine wpOp_step rfl (fun K hK => ?_)
      refine Eq.mpr (if_pos (by rfl)) ?_
      have hcc := (F.below.cell (p := ⟨G, 0, none⟩) hGW).trans hk0
      go_simp
      exact hK _ _ ⟨rfl, Below.refl _ _⟩
    · have e1 : a.tmps[1]?.getD undef = (.int .i64 (x : Int)) := (F.kept 1 (by kernel_rfl)).trans rfl
      refine wpOp_step rfl (fun K hK => ?_)
      refine Eq.mpr (if_pos (by rfl)) ?_
      go_simp
      exact hK _ _ ⟨rfl, Below.refl _ _⟩
    · have e7 : a.tmps[7]?.getD undef = (.slice (some ⟨q, o, none⟩) n c) := F.dep 2 7 (by kernel_rfl) rfl
      have e8 : a.tmps[8]?.getD undef = (.int .i64 (x : Int)) := F.dep 3 8 (by kernel_rfl) rfl
      refine wpOp_step rfl (fun K hK => ?_)
      refine Eq.mpr (if_pos (by rfl)) ?_
      go_simp
      exact hK _ _ ⟨rfl, Below.refl _ _⟩
    · have e9 : a.tmps[9]?.getD undef = (.pointer (some ⟨q, o + x, none⟩)) := F.dep 4 9 (by kernel_rfl) rfl
      refine wpOp_step rfl (fun K hK => ?_)
      refine Eq.mpr (if_pos (by rfl)) ?_
      have hcc := (F.below.cell (p := ⟨q, o + x, none⟩) hqW).trans hcy
      go_simp
      exact hK _ _ ⟨rfl, Below.refl _ _⟩
    · have e1 : a.tmps[1]?.getD undef = (.int .i64 (x : Int)) := (F.kept 1 (by kernel_rfl)).trans rfl
      refine wpOp_step rfl (fun K hK => ?_)
      refine Eq.mpr (if_pos (by rfl)) ?_
      go_simp
      exact hK _ _ ⟨rfl, Below.refl _ _⟩
    · have e2 : a.tmps[2]?.getD undef = (.pointer (some ⟨G, 0, none⟩)) := (F.kept 2 (by kernel_rfl)).trans rfl
      refine wpOp_step rfl (fun K hK => ?_)
      refine Eq.mpr (if_pos (by rfl)) ?_
      go_simp
      exact hK _ _ ⟨rfl, Below.refl _ _⟩
    · have e12 : a.tmps[12]?.getD undef = (.pointer (some ⟨G, 4, none⟩)) := F.dep 7 12 (by kernel_rfl) rfl
      have e11 : a.tmps[11]?.getD undef = (.int .i64 (x : Int)) := F.dep 6 11 (by kernel_rfl) rfl
      refine wpOp_step rfl (fun K hK => ?_)
      refine Eq.mpr (if_pos (by rfl)) ?_
      have hx32 : (x : Int) < 32 := by omega
      go_simp
      exact hK _ _ ⟨rfl, Below.refl _ _⟩
    · have e13 : a.tmps[13]?.getD undef = (.pointer (some ⟨G, 4 + x, none⟩)) := F.dep 8 13 (by kernel_rfl) rfl
      refine wpOp_step rfl (fun K hK => ?_)
      refine Eq.mpr (if_pos (by rfl)) ?_
      have hcc := (F.below.cell (p := ⟨G, 4 + x, none⟩) hGW).trans hkd
      go_simp
      exact hK _ _ ⟨rfl, Below.refl _ _⟩
    · have e10 : a.tmps[10]?.getD undef = (.int .i64 y) := F.dep 5 10 (by kernel_rfl) rfl
      have e14 : a.tmps[14]?.getD undef = (.int .i64 d) := F.dep 9 14 (by kernel_rfl) rfl
      refine wpOp_step rfl (fun K hK => ?_)
      refine Eq.mpr (if_pos (by rfl)) ?_
      go_simp
      exact hK _ _ ⟨rfl, Below.refl _ _⟩
    · have e15 : a.tmps[15]?.getD undef = (.int .i64 z) := F.dep 10 15 (by kernel_rfl) rfl
      refine wpOp_step rfl (fun K hK => ?_)
      refine Eq.mpr (if_pos (by rfl)) ?_
      go_simp
      exact hK _ _ ⟨rfl, Below.refl _ _⟩
    · have e2 : a.tmps[2]?.getD undef = (.pointer (some ⟨G, 0, none⟩)) := (F.kept 2 (by kernel_rfl)).trans rfl
      refine wpOp_step rfl (fun K hK => ?_)
      refine Eq.mpr (if_pos (by rfl)) ?_
      go_simp
      exact hK _ _ ⟨rfl, Below.refl _ _⟩
    · have e17 : a.tmps[17]?.getD undef = (.pointer (some ⟨G, 0, none⟩)) := F.dep 12 17 (by kernel_rfl) rfl
      refine wpOp_step rfl (fun K hK => ?_)
      refine Eq.mpr (if_pos (by rfl)) ?_
      go_simp
      exact hK _ _ ⟨rfl, Below.refl _ _⟩
    · have e18 : a.tmps[18]?.getD undef = (.pointer (some ⟨G, 1, none⟩)) := F.dep 13 18 (by kernel_rfl) rfl
      refine wpOp_step rfl (fun K hK => ?_)
      refine Eq.mpr (if_pos (by rfl)) ?_
      have hcc := (F.below.cell (p := ⟨G, 1, none⟩) hGW).trans hk1
      go_simp
      exact hK _ _ ⟨rfl, Below.refl _ _⟩
    · have e2 : a.tmps[2]?.getD undef = (.pointer (some ⟨G, 0, none⟩)) := (F.kept 2 (by kernel_rfl)).trans rfl
      refine wpOp_step rfl (fun K hK => ?_)
      refine Eq.mpr (if_pos (by rfl)) ?_
      go_simp
      exact hK _ _ ⟨rfl, Below.refl _ _⟩
    · have e20 : a.tmps[20]?.getD undef = (.pointer (some ⟨G, 3, none⟩)) := F.dep 15 20 (by kernel_rfl) rfl
      refine wpOp_step rfl (fun K hK => ?_)
      refine Eq.mpr (if_pos (by rfl)) ?_
      have hcc := (F.below.cell (p := ⟨G, 3, none⟩) hGW).trans hk3
      go_simp
      exact hK _ _ ⟨rfl, Below.refl _ _⟩
    · have e19 : a.tmps[19]?.getD undef = (.int .i64 S) := F.dep 14 19 (by kernel_rfl) rfl
      have e21 : a.tmps[21]?.getD undef = (.int .i64 a0) := F.dep 16 21 (by kernel_rfl) rfl
      refine wpOp_step rfl (fun K hK => ?_)
      refine Eq.mpr (if_pos (by rfl)) ?_
      go_simp
      exact hK _ _ ⟨rfl, Below.refl _ _⟩
    · have e16 : a.tmps[16]?.getD undef = (.int .i64 M) := F.dep 11 16 (by kernel_rfl) rfl
      have e22 : a.tmps[22]?.getD undef = (.int .i64 T) := F.dep 17 22 (by kernel_rfl) rfl
      refine wpOp_step rfl (fun K hK => ?_)
      refine Eq.mpr (if_pos (by rfl)) ?_
      go_simp
      go_wp2_with fail
      refine (hF V).mono ?_
      rintro e V2 ⟨rfl, hb2⟩
      exact hK _ _ ⟨rfl, hb2⟩
  case last =>
    intro a V F
    have e4 : a.tmps[4]?.getD undef = (.pointer (some ⟨G + 1, 0, none⟩)) := (F.kept 4 (by kernel_rfl)).trans rfl
    have e23 : a.tmps[23]?.getD undef = (.agg #[.int .i64 N1, .int .i64 N2]) := F.dep 18 23 (by kernel_rfl) rfl
    refine wpOp_step rfl (fun K hK => ?_)
    refine Eq.mpr (if_pos (by rfl)) ?_
    have hcR0 := (F.below.cell (p := ⟨G + 1, 0, none⟩) hG1W).trans hr0
    have hcR1 := (F.below.cell (p := ⟨G + 1, 1, none⟩) hG1W).trans hr1
    have hfR0 := (F.below.frozen (p := ⟨G + 1, 0, none⟩) hG1W).trans hz0
    have hfR1 := (F.below.frozen (p := ⟨G + 1, 1, none⟩) hG1W).trans hz1
    have hbV := F.below
    go_simp
    exact hK _ _ ⟨undef, rfl, rfl, V, hbV, rfl⟩
  case fin =>
    intro x V hL
    simp only [finV, List.cons_append, List.nil_append, List.set_cons_succ, List.set_cons_zero]
    obtain ⟨rfl, V0, hbV, rfl⟩ := hL
    have hcR0 := (hbV.cell (p := ⟨G + 1, 0, none⟩) hG1W).trans hr0
    have hcR1 := (hbV.cell (p := ⟨G + 1, 1, none⟩) hG1W).trans hr1
    go_wp2
    have h0 : (V0.setCell ⟨G + 1, 0, none⟩ (.int .i64 N1)).cell? ⟨G + 1, 0, none⟩ = some (.int .i64 N1) := World.cell?_setCell_same' _ _ _ (by rw [hcR0]; rfl)
    have h1 : ((V0.setCell ⟨G + 1, 0, none⟩ (.int .i64 N1)).setCell ⟨G + 1, 1, none⟩ (.int .i64 N2)).cell? ⟨G + 1, 1, none⟩ = some (.int .i64 N2) := World.cell?_setCell_same' _ _ _ (by go_simp)
    refine bodyPost_ret (v := .agg #[.int .i64 N1, .int .i64 N2]) (by simp [results, Try.results105, go_sem, h0, h1]) rfl ⟨rfl, ?_⟩
    exact ((hbW.trans (hbV.mono hbW.size)).setCell (by rw [hG]; exact Nat.le_succ G) _).setCell (by rw [hG]; exact Nat.le_succ G) _
end Go.Proofs.Ytahmhdjoaoldcaa
