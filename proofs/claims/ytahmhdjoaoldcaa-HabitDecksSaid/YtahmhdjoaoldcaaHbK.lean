/-
  The reference's Need.
-/
import Derived.Test.YtahmhdjoaoldcaaHbJ
namespace Go.Proofs.Ytahmhdjoaoldcaa
open Go Go.RowKit
set_option linter.unusedVariables false
set_option linter.unusedSimpArgs false

theorem need_ok_any (p : Option Addr) (q o : Nat) (xs : List Int) (n c : Nat) (hx : Hid (xs.length = n)) (hn : n ≤ 1000) (hnc : n ≤ c) (hp : p = some ⟨q, o, none⟩ ∨ n = 0) (N a : Nat) (hN1 : 1 ≤ N) (hN2 : N ≤ 32) (ha1 : 1 ≤ a) (ha2 : a ≤ 400) (hr : Hid (regE xs N = 0)) (w : World) (hR : Reads w p xs) :
    Calls Try.prog 8 #[.slice p n c, .int .i64 (N : Int), .int .i64 (a : Int)] w fun e w' => (∃ p1 c1, e = .returned (.tuple #[.slice p1 N c1, .int .i64 0]) ∧ Reads w' p1 (needTo xs N a (manyP n a))) ∧ Below w.heap.size w w' :=
  callsIn_wide.1 (need_ok p q o xs n c hx hn hnc hp N a (Lib.hid (by simp [outB]; omega)) (Lib.hid (by simp [outB]; omega)) hN1 hN2 ha1 ha2 hr w hR)
theorem need_bad3_any (p : Option Addr) (q o : Nat) (xs : List Int) (n c : Nat) (hx : Hid (xs.length = n)) (hn : n ≤ 1000) (hnc : n ≤ c) (hp : p = some ⟨q, o, none⟩ ∨ n = 0) (N a : Nat) (hN1 : 1 ≤ N) (hN2 : N ≤ 32) (ha1 : 1 ≤ a) (ha2 : a ≤ 400) (E : Int) (hE : Hid (regE xs N = E)) (hE0 : E ≠ 0) (w : World) (hR : Reads w p xs) :
    Calls Try.prog 8 #[.slice p n c, .int .i64 (N : Int), .int .i64 (a : Int)] w fun e w' => e = .returned (.tuple #[.slice none 0 0, .int .i64 E]) ∧ Below w.heap.size w w' :=
  callsIn_wide.1 (need_bad3 p q o xs n c hx hn hnc hp N a (Lib.hid (by simp [outB]; omega)) (Lib.hid (by simp [outB]; omega)) hN1 hN2 ha1 ha2 E hE hE0 w hR)
theorem need_range (p : Option Addr) (n c : Nat) (N a : Int) (h : outB 1 32 N = true ∨ outB 1 400 a = true) (w : World) :
    Calls Try.prog 8 #[.slice p n c, .int .i64 N, .int .i64 a] w fun e w' => e = .returned (.tuple #[.slice none 0 0, .int .i64 3]) ∧ Below w.heap.size w w' := by
  cases h1 : outB 1 32 N with
  | true => exact callsIn_wide.1 (need_bad1 p n c N a (Lib.hid h1) true w)
  | false =>
    have h2 : outB 1 400 a = true := by rcases h with h | h; rw [h1] at h; cases h; exact h
    exact callsIn_wide.1 (need_bad2 p n c N a (Lib.hid h1) true (Lib.hid h2) rfl w)
set_option maxRecDepth 100000 in
set_option maxHeartbeats 4000000 in
theorem refNeed_any (p : Option Addr) (xs : List Int) (n c : Nat) (hx : Hid (xs.length = n)) (hn : n ≤ 1000) (hnc : n ≤ c) (N a : Nat) (hN2 : N ≤ 32) (ha1 : 1 ≤ a) (ha2 : a ≤ 400) (hr : Hid (InReg xs N)) (w : World) (hR : Reads w p xs) :
    Calls Try.prog 13 #[.slice p n c, .int .i64 (N : Int), .int .i64 (a : Int)] w fun e w' => (∃ p1 c1, e = .returned (.slice p1 N c1) ∧ Reads w' p1 (needTo xs N a (manyP n a))) ∧ Below w.heap.size w w' := by
  obtain ⟨i0, hi, hz0, hz1, hz2⟩ := info_parts info_intH
  go_enter Try.func13, Try.ntmps13
  go_wp2_with (at_make; refine wpList_make_full _ rfl _ _ 22 rfl w.heap.size 3 i0 (.int .i64 0) 1 Try.underlying22 hi hz0 hz1 .i64 .i64 _ _ N rfl rfl rfl rfl ?c1 ?c2 ?c3 ?_)
  case c1 => rw [hz2]; omega
  case c2 => unfold maxLen; omega
  case c3 => exact Nat.le_refl _
  intro w2 hown hgr
  have hrow := Row.made hown
  have hb2 : Below w.heap.size w w2 := (Below.refl _ w).grown hgr (Nat.le_refl _) (fun k e => by cases e)
  obtain ⟨G, hG⟩ : ∃ G, w.heap.size = G := ⟨_, rfl⟩
  have HG := Lib.hid hG
  rw [hG] at hrow hb2
  have eG : (.slice (some ⟨w.heap.size, 0, none⟩) N N : Value) = .slice (some ⟨G, 0, none⟩) N N := by rw [hG]
  rw [eG]
  clear hown hgr eG hG
  go_wp2
  go_loopw [8, 9, 10, 11] (fun i _ _ _ wr => ∃ cc s : Nat, cc ≤ manyP n a ∧ Hid (s = cc * a) ∧ s ≤ 2000 ∧ i = .int .i64 (s : Int) ∧ Row wr G G N (needTo xs N a cc) ∧ Below G w wr) (fun i _ _ _ _ => 3000 - (intOf i).toNat)
  case atStart => exact ⟨0, 0, by omega, (by show 0 = 0 * a; omega), by omega, rfl, hrow, hb2⟩
  case round =>
    obtain ⟨cc, s, hcc, HS, hs, rfl, hrw, hb⟩ := hrel
    by_cases hlt : s < n
    · obtain ⟨q, o, rfl, hcell⟩ := hR 0 (by rw [hx.out]; omega)
      clear hcell
      have hbw : Below w.heap.size w wr := by rw [HG.out]; exact hb
      have hkl : cc < manyP n a := (manyP_lt ha1).2 (by have := HS.out; omega)
      have hpl := pieceL_len xs a s
      rw [hx.out] at hpl
      have hPR := piece_reads a s (hR.below hbw (Nat.le_refl _))
      have hPI := Lib.hid (piece_in (a := a) (s := s) hr.out)
      have HNX := Lib.hid (show needTo xs N a (cc + 1) = maxTo (needTo xs N a cc) (cntTo (pieceL xs a s) N (pieceL xs a s).length) N by rw [HS.out]; rfl)
      obtain ⟨ps, hps⟩ : ∃ ps, pieceL xs a s = ps := ⟨_, rfl⟩
      obtain ⟨m, hmm⟩ : ∃ m, min a (n - s) = m := ⟨_, rfl⟩
      obtain ⟨oo, hoo⟩ : ∃ oo, o + s = oo := ⟨_, rfl⟩
      rw [hps] at hpl hPR hPI HNX
      rw [hmm] at hpl
      rw [hoo] at hPR
      have Hpl := Lib.hid hpl
      obtain ⟨Y, hY⟩ : ∃ Y, needTo xs N a cc = Y := ⟨_, rfl⟩
      have hYb := fun j => needTo_bd xs N a cc j
      rw [hx.out] at hYb
      rw [hY] at hrw HNX hYb
      have HYb := Lib.hid hYb
      obtain ⟨X, hX⟩ : ∃ X, s + a = X := ⟨_, rfl⟩
      obtain ⟨E, hE⟩ : ∃ E, s + m = E := ⟨_, rfl⟩
      obtain ⟨C, hC⟩ : ∃ C, c - s = C := ⟨_, rfl⟩
      have hw1 : IntKind.i64.wrap ((s : Int) + (a : Int)) = (X : Int) := by
        rw [← hX, ← Int.natCast_add]
        exact IntWalk.i64_in _ (by omega)
      have hmin3 : (if X < n then (X : Int) else (n : Int)) = (E : Int) := by split <;> omega
      have hmn : m ≤ 1000 := by omega
      have hsl : (s : Int) < (n : Int) := by omega
      have hsE : s ≤ E := by omega
      have hEc : E ≤ c := by omega
      have hEs : E - s = m := by omega
      have hsc : ¬ c = s := by omega
      have HJS := Lib.hid (show X = (cc + 1) * a by rw [← hX, HS.out, Nat.add_mul]; omega)
      have hX2 : X ≤ 2000 := by omega
      have hsX : s < X := by omega
      clear hpl hps hmm hY hYb hX hE
      go_wp2_with fail
      refine (refTally_any _ ps m C Hpl hmn N hN2 hPI _ hPR).mono ?_
      rintro e w6 ⟨⟨g2, g5, rfl, hrow6, hrow7⟩, hb6⟩
      rw [Hpl.out] at HNX
      obtain ⟨Z, hZ⟩ : ∃ Z, cntTo ps N m = Z := ⟨_, rfl⟩
      have hZb := fun j => cntTo_bd ps N m j
      rw [hZ] at hrow6 HNX hZb
      have HZb := Lib.hid hZb
      have hgG : g2 ≠ G := by have := hrow6.lt.1; have := hrw.lt.2; omega
      have hrw6 := hrw.kept hb6 hrw.lt.2
      have hB6 : Below G w w6 := hb.trans (hb6.mono (by have := hb.size; rw [HG.out] at this; exact this))
      clear hZ hZb hPR hPI hrow7 hb6 hrw hoo hC
      obtain ⟨V0, hV0⟩ : ∃ V0, wr.heap.size = V0 := ⟨_, rfl⟩
      rw [hV0] at hrow6
      clear hV0 hbw
      go_wp2
      go_loopw [11] (fun i wz => ∃ k : Nat, k ≤ N ∧ i = .int .i64 (k : Int) ∧ Row wz G G N (maxTo Y Z k) ∧ Row wz V0 g2 N Z ∧ Below G w wz) (fun i _ => N - (intOf i).toNat)
      case atStart => exact ⟨0, by omega, rfl, hrw6, hrow6, hB6⟩
      case round =>
        obtain ⟨k, hk, rfl, hrz, hrz2, hbz⟩ := hrel
        by_cases hlt2 : k < N
        · obtain ⟨z, hz⟩ : ∃ z, nth Z k = z := ⟨_, rfl⟩
          obtain ⟨y, hy⟩ : ∃ y, nth Y k = y := ⟨_, rfl⟩
          obtain ⟨M, hM⟩ : ∃ M, max y z = M := ⟨_, rfl⟩
          have hcz := hrz2.cell hlt2
          rw [hz] at hcz
          have hcy := hrz.cell hlt2
          rw [maxTo_ahead Y Z k k (Nat.le_refl _), hy] at hcy
          have HS2 := Lib.hid (show maxTo Y Z (k + 1) = (maxTo Y Z k).set k M by rw [maxTo, hy, hz, hM])
          have hzb := HZb.out k
          have hyb := HYb.out k
          rw [hz] at hzb
          rw [hy] at hyb
          obtain ⟨hz0, hz1⟩ := hzb
          obtain ⟨hy0, hy1⟩ := hyb
          have hkN : (k : Int) < (N : Int) := by omega
          have hM3 : (if y < z then z else y) = M := by rw [← hM]; split <;> omega
          clear hz hy
          go_wp2
          refine wp_region_last follows_mixedB [some 40, some 41, some 42, some 43, some 44, some 45, some 46, some 47, some 48, some 49, some 50, some 51, none] (by kernel_rfl) [(.slice (some ⟨G, 0, none⟩) N N), (.int .i64 (k : Int)), (.slice (some ⟨G, 0, none⟩) N N), (.int .i64 (k : Int)), (.pointer (some ⟨G, k, none⟩)), (.int .i64 y), (.slice (some ⟨g2, 0, none⟩) N N), (.int .i64 (k : Int)), (.pointer (some ⟨g2, k, none⟩)), (.int .i64 z), (.int .i64 M), (.pointer (some ⟨G, k, none⟩))] rfl (by kernel_rfl) (fun x V' => x = undef ∧ ∃ V0 : World, Below wr.heap.size wr V0 ∧ V' = V0.setCell ⟨G, k, none⟩ (.int .i64 M)) ?step ?last ?fin
          case step =>
            intro i hi a V F
            have hi : i < 12 := hi
            have e : i = 0 ∨ i = 1 ∨ i = 2 ∨ i = 3 ∨ i = 4 ∨ i = 5 ∨ i = 6 ∨ i = 7 ∨ i = 8 ∨ i = 9 ∨ i = 10 ∨ i = 11 := by omega
            clear hi
            rcases e with rfl | rfl | rfl | rfl | rfl | rfl | rfl | rfl | rfl | rfl | rfl | rfl
            · have e7 : a.tmps[7]?.getD undef = (.slice (some ⟨G, 0, none⟩) N N) := (F.kept 7 (by kernel_rfl)).trans rfl
              refine wpOp_step rfl (fun K hK => ?_)
              refine Eq.mpr (if_pos (by rfl)) ?_
              go_simp
              exact hK _ _ ⟨rfl, Below.refl _ _⟩
            · have e11 : a.tmps[11]?.getD undef = (.int .i64 (k : Int)) := (F.kept 11 (by kernel_rfl)).trans rfl
              refine wpOp_step rfl (fun K hK => ?_)
              refine Eq.mpr (if_pos (by rfl)) ?_
              go_simp
              exact hK _ _ ⟨rfl, Below.refl _ _⟩
            · have e7 : a.tmps[7]?.getD undef = (.slice (some ⟨G, 0, none⟩) N N) := (F.kept 7 (by kernel_rfl)).trans rfl
              refine wpOp_step rfl (fun K hK => ?_)
              refine Eq.mpr (if_pos (by rfl)) ?_
              go_simp
              exact hK _ _ ⟨rfl, Below.refl _ _⟩
            · have e11 : a.tmps[11]?.getD undef = (.int .i64 (k : Int)) := (F.kept 11 (by kernel_rfl)).trans rfl
              refine wpOp_step rfl (fun K hK => ?_)
              refine Eq.mpr (if_pos (by rfl)) ?_
              go_simp
              exact hK _ _ ⟨rfl, Below.refl _ _⟩
            · have e42 : a.tmps[42]?.getD undef = (.slice (some ⟨G, 0, none⟩) N N) := F.dep 2 42 (by kernel_rfl) rfl
              have e43 : a.tmps[43]?.getD undef = (.int .i64 (k : Int)) := F.dep 3 43 (by kernel_rfl) rfl
              refine wpOp_step rfl (fun K hK => ?_)
              refine Eq.mpr (if_pos (by rfl)) ?_
              go_simp
              exact hK _ _ ⟨rfl, Below.refl _ _⟩
            · have e44 : a.tmps[44]?.getD undef = (.pointer (some ⟨G, k, none⟩)) := F.dep 4 44 (by kernel_rfl) rfl
              refine wpOp_step rfl (fun K hK => ?_)
              refine Eq.mpr (if_pos (by rfl)) ?_
              have hcG : V.cell? ⟨G, k, none⟩ = some (.int .i64 y) := cell_tr F.below hcy
              go_simp
              exact hK _ _ ⟨rfl, Below.refl _ _⟩
            · have e9 : a.tmps[9]?.getD undef = (.slice (some ⟨g2, 0, none⟩) N N) := (F.kept 9 (by kernel_rfl)).trans rfl
              refine wpOp_step rfl (fun K hK => ?_)
              refine Eq.mpr (if_pos (by rfl)) ?_
              go_simp
              exact hK _ _ ⟨rfl, Below.refl _ _⟩
            · have e11 : a.tmps[11]?.getD undef = (.int .i64 (k : Int)) := (F.kept 11 (by kernel_rfl)).trans rfl
              refine wpOp_step rfl (fun K hK => ?_)
              refine Eq.mpr (if_pos (by rfl)) ?_
              go_simp
              exact hK _ _ ⟨rfl, Below.refl _ _⟩
            · have e46 : a.tmps[46]?.getD undef = (.slice (some ⟨g2, 0, none⟩) N N) := F.dep 6 46 (by kernel_rfl) rfl
              have e47 : a.tmps[47]?.getD undef = (.int .i64 (k : Int)) := F.dep 7 47 (by kernel_rfl) rfl
              refine wpOp_step rfl (fun K hK => ?_)
              refine Eq.mpr (if_pos (by rfl)) ?_
              go_simp
              exact hK _ _ ⟨rfl, Below.refl _ _⟩
            · have e48 : a.tmps[48]?.getD undef = (.pointer (some ⟨g2, k, none⟩)) := F.dep 8 48 (by kernel_rfl) rfl
              refine wpOp_step rfl (fun K hK => ?_)
              refine Eq.mpr (if_pos (by rfl)) ?_
              have hcZ : V.cell? ⟨g2, k, none⟩ = some (.int .i64 z) := cell_tr F.below hcz
              go_simp
              exact hK _ _ ⟨rfl, Below.refl _ _⟩
            · have e45 : a.tmps[45]?.getD undef = (.int .i64 y) := F.dep 5 45 (by kernel_rfl) rfl
              have e49 : a.tmps[49]?.getD undef = (.int .i64 z) := F.dep 9 49 (by kernel_rfl) rfl
              refine wpOp_step rfl (fun K hK => ?_)
              refine Eq.mpr (if_pos (by rfl)) ?_
              go_simp
              exact hK _ _ ⟨rfl, Below.refl _ _⟩
            · have e40 : a.tmps[40]?.getD undef = (.slice (some ⟨G, 0, none⟩) N N) := F.dep 0 40 (by kernel_rfl) rfl
              have e41 : a.tmps[41]?.getD undef = (.int .i64 (k : Int)) := F.dep 1 41 (by kernel_rfl) rfl
              refine wpOp_step rfl (fun K hK => ?_)
              refine Eq.mpr (if_pos (by rfl)) ?_
              go_simp
              exact hK _ _ ⟨rfl, Below.refl _ _⟩
          case last =>
            intro a V F
            have e51 : a.tmps[51]?.getD undef = (.pointer (some ⟨G, k, none⟩)) := F.dep 11 51 (by kernel_rfl) rfl
            have e50 : a.tmps[50]?.getD undef = (.int .i64 M) := F.dep 10 50 (by kernel_rfl) rfl
            refine wpOp_step rfl (fun K hK => ?_)
            refine Eq.mpr (if_pos (by rfl)) ?_
            have hrk := hrz.kept F.below hrz.lt.2
            have hcG : V.cell? ⟨G, k, none⟩ = some (.int .i64 y) := cell_tr F.below hcy
            have hfG : V.frozen? ⟨G, k, none⟩ = false := hrk.frozen k
            have hbV := F.below
            go_simp
            exact hK _ _ ⟨undef, rfl, rfl, V, hbV, rfl⟩
          case fin =>
            intro x V hL
            simp only [finV, List.cons_append, List.nil_append, List.set_cons_succ, List.set_cons_zero]
            obtain ⟨rfl, V0', hbV, rfl⟩ := hL
            have hsz := hbz.size
            rw [HG.out] at hsz
            have HR1 := Lib.hid ((hrz.kept hbV hrz.lt.2).set k M)
            have HR2 := Lib.hid (row_other (hrz2.kept hbV hrz2.lt.2) (Ne.symm hgG) k M)
            have HB1 := Lib.hid ((hbz.trans (hbV.mono hsz)).setCell (p := ⟨G, k, none⟩) (Nat.le_refl _) (.int .i64 M))
            clear hrz hrz2 hbz hbV hsz hcy hcz
            go_wp2
            go_roundw
            case rel => exact ⟨k + 1, by omega, by go_num, by rw [HS2.out]; exact HR1.out, HR2.out, HB1.out⟩
            case measure => simp [intOf]; omega
        · obtain rfl : k = N := by omega
          have HRZ := Lib.hid hrz
          have HKL := Lib.hid (show cc + 1 ≤ manyP n a from hkl)
          clear hrz hrz2 hrw6 hkl
          go_wp2
          go_roundw
          case rel => exact ⟨cc + 1, X, HKL.out, HJS, hX2, by first | rfl | go_num, by rw [HNX.out]; exact HRZ.out, hbz⟩
          case measure => simp [intOf]; omega
    · have hsl : (n : Int) ≤ (s : Int) := by omega
      have hsd : decide (s < n) = false := decide_eq_false hlt
      have hke : cc = manyP n a := by
        have h1 := (manyP_lt (m := n) (k := cc) ha1)
        have h2 := HS.out
        by_cases e : cc < manyP n a
        · have := h1.1 e; omega
        · omega
      have HK := Lib.hid hke
      clear hke hlt
      have hbw : Below w.heap.size w wr := by rw [HG.out]; exact hb
      go_wp2
      go_ret
      exact ⟨⟨_, _, rfl, by rw [← HK.out]; exact hrw.reads⟩, hbw⟩
end Go.Proofs.Ytahmhdjoaoldcaa
