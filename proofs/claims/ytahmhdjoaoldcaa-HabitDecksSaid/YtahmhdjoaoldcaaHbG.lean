/-
  The reference's Longest.
-/
import Derived.Test.YtahmhdjoaoldcaaHbD
import Derived.Test.YtahmhdjoaoldcaaHbE
namespace Go.Proofs.Ytahmhdjoaoldcaa
open Go Go.RowKit
set_option linter.unusedVariables false
set_option linter.unusedSimpArgs false

theorem cell_at {w : World} {q o : Nat} {xs : List Int} (h : Reads w (some ⟨q, o, none⟩) xs) {k : Nat} (hk : k < xs.length) : w.cell? ⟨q, o + k, none⟩ = some (.int .i64 (nth xs k)) := by
  obtain ⟨q', o', e, hc⟩ := h k hk
  cases e
  exact hc
/-- How many from i on are equal, as they are counted one by one. -/
theorem run_count (xs : List Int) (i n j : Nat) (hj : i + j ≤ n) (h : ∀ m, m < j → nth xs (i + m) = nth xs i) (hend : i + j = n ∨ nth xs (i + j) ≠ nth xs i) : runTo xs i n = j := by
  have h1 : runTo xs i (i + j) = j := by
    have := runTo_whole xs i (i + j) (fun m a b => by have := h (m - i) (by omega); rwa [show i + (m - i) = m by omega] at this)
    omega
  rcases hend with e | e
  · rw [← e]; exact h1
  · have key : ∀ d, i + j + d ≤ n → runTo xs i (i + j + d) = j := by
      intro d
      induction d with
      | zero => intro _; exact h1
      | succ d ih =>
        intro hd
        have h2 := ih (by omega)
        show (if i ≤ i + j + d ∧ runTo xs i (i + j + d) = i + j + d - i ∧ nth xs (i + j + d) = nth xs i then _ else runTo xs i (i + j + d)) = j
        rw [if_neg, h2]
        rintro ⟨a, b, c⟩
        have : d = 0 := by omega
        subst this
        exact e c
    have := key (n - (i + j)) (by omega)
    rwa [show i + j + (n - (i + j)) = n by omega] at this
set_option maxRecDepth 100000 in
set_option maxHeartbeats 4000000 in
theorem refLongest_any (p : Option Addr) (xs : List Int) (n c : Nat) (hx : Hid (xs.length = n)) (hn : n ≤ 400) (w : World) (hR : Reads w p xs) :
    Calls Try.prog 11 #[.slice p n c] w fun e w' => e = .returned (.tuple #[.int .i64 ((bestTo xs n n).1 : Nat), .int .i64 ((bestTo xs n n).2 : Nat), .int .i64 (runsTo xs n : Nat)]) ∧ Below w.heap.size w w' := by
  go_enter Try.func11, Try.ntmps11
  go_wp2
  go_loopw [5, 6, 7, 8, 9] (fun a b r i _ wr => ∃ k : Nat, k ≤ n ∧ i = .int .i64 k ∧ a = .int .i64 ((bestTo xs n k).1 : Nat) ∧ b = .int .i64 ((bestTo xs n k).2 : Nat) ∧ r = .int .i64 (runsTo xs k : Nat) ∧ Below w.heap.size w wr) (fun _ _ _ i _ _ => n - (intOf i).toNat)
  case atStart => exact ⟨0, Nat.zero_le _, rfl, rfl, rfl, rfl, Below.refl _ _⟩
  case round =>
    obtain ⟨k, hk, rfl, rfl, rfl, rfl, hb0⟩ := hrel
    by_cases hlt : k < n
    · have hkx : k < xs.length := by rw [hx.out]; exact hlt
      obtain ⟨q, o, rfl, hcell⟩ := hR k hkx
      clear hcell
      have hln : ∀ j, runTo xs j n ≤ n := fun j => by have := runTo_le xs j n; omega
      have hbst := bestTo_spec xs n k
      have HST := Lib.hid (show bestTo xs n (k + 1) = if (bestTo xs n k).2 < runTo xs k n then (k, runTo xs k n) else bestTo xs n k from rfl)
      obtain ⟨S, hS⟩ : ∃ S, (bestTo xs n k).1 = S := ⟨_, rfl⟩
      obtain ⟨L, hL⟩ : ∃ L, (bestTo xs n k).2 = L := ⟨_, rfl⟩
      have HB := Lib.hid (show bestTo xs n k = (S, L) from Prod.ext hS hL)
      have hLn : L ≤ n := by
        rcases hbst.2 with h | h
        · omega
        · have := hln (bestTo xs n k).1; omega
      rw [hS, hL]
      have hru := runsTo_le xs k
      obtain ⟨R, hRr⟩ : ∃ R, runsTo xs k = R := ⟨_, rfl⟩
      have HRr := Lib.hid hRr
      rw [hRr] at hru ⊢
      have hNn := hln k
      obtain ⟨N, hN⟩ : ∃ N, runTo xs k n = N := ⟨_, rfl⟩
      rw [hN] at HST hNn
      have HN := Lib.hid hN
      clear hS hL hRr hln hbst hN
      go_wp2
      go_loopw [9] (fun j wz => ∃ m : Nat, k + m ≤ n ∧ j = .int .i64 m ∧ Hid (∀ i, i < m → nth xs (k + i) = nth xs k) ∧ Below w.heap.size w wz) (fun j _ => n - (intOf j).toNat)
      case atStart => exact ⟨0, by omega, rfl, fun i hi => by omega, hb0⟩
      case round =>
        obtain ⟨j, hj, rfl, HA, hbz⟩ := hrel
        have hRw := hR.below hbz (Nat.le_refl _)
        obtain ⟨I, hI⟩ : ∃ I, k + j = I := ⟨_, rfl⟩
        have hw1 : IntKind.i64.wrap ((k : Int) + (j : Int)) = (I : Int) := by
          rw [← hI, ← Int.natCast_add]
          exact IntWalk.i64_in _ (by omega)
        by_cases hin : k + j < n
        · have hIx : I < xs.length := by rw [hx.out]; omega
          have hIn : (I : Int) < (n : Int) := by omega
          have hId : decide (I < n) = true := decide_eq_true (by omega)
          by_cases heq : nth xs (k + j) = nth xs k
          · have HA2 : Hid (∀ i, i < j + 1 → nth xs (k + i) = nth xs k) := fun i hi => by
              by_cases e : i = j
              · subst e; exact heq
              · exact HA.out i (by omega)
            rw [hI] at heq
            have hq1 : (nth xs I == nth xs k) = true := by simp [heq]
            have HI := Lib.hid hI
            clear heq hI
            go_wp2
            refine wp_region_vals follows_mixedB [some 16, some 17, some 18, some 19, some 20, some 21, some 22, some 23, some 24, some 25, some 26, some 27, some 28, some 29, some 30, some 31, some 32, some 33, some 34] (by kernel_rfl) [(.int .i64 (k : Int)), (.int .i64 (j : Int)), (.int .i64 (I : Int)), (.slice (some ⟨q, o, none⟩) n c), (.int .i64 (n : Int)), (.bool true), (.bool true), (.slice (some ⟨q, o, none⟩) n c), (.int .i64 (k : Int)), (.int .i64 (j : Int)), (.int .i64 (I : Int)), (.pointer (some ⟨q, o + I, none⟩)), (.int .i64 (nth xs I)), (.slice (some ⟨q, o, none⟩) n c), (.int .i64 (k : Int)), (.pointer (some ⟨q, o + k, none⟩)), (.int .i64 (nth xs k)), (.bool true), (.bool true)] rfl ?step ?fin
            case step =>
              intro i hi a V F
              have hi : i < 19 := hi
              have e : i = 0 ∨ i = 1 ∨ i = 2 ∨ i = 3 ∨ i = 4 ∨ i = 5 ∨ i = 6 ∨ i = 7 ∨ i = 8 ∨ i = 9 ∨ i = 10 ∨ i = 11 ∨ i = 12 ∨ i = 13 ∨ i = 14 ∨ i = 15 ∨ i = 16 ∨ i = 17 ∨ i = 18 := by omega
              clear hi
              rcases e with rfl | rfl | rfl | rfl | rfl | rfl | rfl | rfl | rfl | rfl | rfl | rfl | rfl | rfl | rfl | rfl | rfl | rfl | rfl
              · have e8 : a.tmps[8]?.getD undef = (.int .i64 (k : Int)) := (F.kept 8 (by kernel_rfl)).trans rfl
                refine wpOp_step rfl (fun K hK => ?_)
                refine Eq.mpr (if_pos (by rfl)) ?_
                go_simp
                exact hK _ _ ⟨rfl, Below.refl _ _⟩
              · have e9 : a.tmps[9]?.getD undef = (.int .i64 (j : Int)) := (F.kept 9 (by kernel_rfl)).trans rfl
                refine wpOp_step rfl (fun K hK => ?_)
                refine Eq.mpr (if_pos (by rfl)) ?_
                go_simp
                exact hK _ _ ⟨rfl, Below.refl _ _⟩
              · have e16 : a.tmps[16]?.getD undef = (.int .i64 (k : Int)) := F.dep 0 16 (by kernel_rfl) rfl
                have e17 : a.tmps[17]?.getD undef = (.int .i64 (j : Int)) := F.dep 1 17 (by kernel_rfl) rfl
                refine wpOp_step rfl (fun K hK => ?_)
                refine Eq.mpr (if_pos (by rfl)) ?_
                go_simp
                exact hK _ _ ⟨rfl, Below.refl _ _⟩
              · have e0 : a.tmps[0]?.getD undef = (.slice (some ⟨q, o, none⟩) n c) := (F.kept 0 (by kernel_rfl)).trans rfl
                refine wpOp_step rfl (fun K hK => ?_)
                refine Eq.mpr (if_pos (by rfl)) ?_
                go_simp
                exact hK _ _ ⟨rfl, Below.refl _ _⟩
              · have e19 : a.tmps[19]?.getD undef = (.slice (some ⟨q, o, none⟩) n c) := F.dep 3 19 (by kernel_rfl) rfl
                refine wpOp_step rfl (fun K hK => ?_)
                refine Eq.mpr (if_pos (by rfl)) ?_
                go_simp
                exact hK _ _ ⟨rfl, Below.refl _ _⟩
              · have e18 : a.tmps[18]?.getD undef = (.int .i64 (I : Int)) := F.dep 2 18 (by kernel_rfl) rfl
                have e20 : a.tmps[20]?.getD undef = (.int .i64 (n : Int)) := F.dep 4 20 (by kernel_rfl) rfl
                refine wpOp_step rfl (fun K hK => ?_)
                refine Eq.mpr (if_pos (by rfl)) ?_
                go_simp
                exact hK _ _ ⟨rfl, Below.refl _ _⟩
              · have e21 : a.tmps[21]?.getD undef = .bool true := F.dep 5 21 (by kernel_rfl) rfl
                refine wpOp_step rfl (fun K hK => ?_)
                refine Eq.mpr (if_pos (by rfl)) ?_
                go_simp
                exact hK _ _ ⟨rfl, Below.refl _ _⟩
              · have e0 : a.tmps[0]?.getD undef = (.slice (some ⟨q, o, none⟩) n c) := (F.kept 0 (by kernel_rfl)).trans rfl
                have e22 : a.tmps[22]?.getD undef = .bool true := F.dep 6 22 (by kernel_rfl) rfl
                refine wpOp_step rfl (fun K hK => ?_)
                refine Eq.mpr (if_pos (wanted_of rfl rfl e22)) ?_
                go_simp
                exact hK _ _ ⟨rfl, Below.refl _ _⟩
              · have e8 : a.tmps[8]?.getD undef = (.int .i64 (k : Int)) := (F.kept 8 (by kernel_rfl)).trans rfl
                have e22 : a.tmps[22]?.getD undef = .bool true := F.dep 6 22 (by kernel_rfl) rfl
                refine wpOp_step rfl (fun K hK => ?_)
                refine Eq.mpr (if_pos (wanted_of rfl rfl e22)) ?_
                go_simp
                exact hK _ _ ⟨rfl, Below.refl _ _⟩
              · have e9 : a.tmps[9]?.getD undef = (.int .i64 (j : Int)) := (F.kept 9 (by kernel_rfl)).trans rfl
                have e22 : a.tmps[22]?.getD undef = .bool true := F.dep 6 22 (by kernel_rfl) rfl
                refine wpOp_step rfl (fun K hK => ?_)
                refine Eq.mpr (if_pos (wanted_of rfl rfl e22)) ?_
                go_simp
                exact hK _ _ ⟨rfl, Below.refl _ _⟩
              · have e24 : a.tmps[24]?.getD undef = (.int .i64 (k : Int)) := F.dep 8 24 (by kernel_rfl) rfl
                have e25 : a.tmps[25]?.getD undef = (.int .i64 (j : Int)) := F.dep 9 25 (by kernel_rfl) rfl
                have e22 : a.tmps[22]?.getD undef = .bool true := F.dep 6 22 (by kernel_rfl) rfl
                refine wpOp_step rfl (fun K hK => ?_)
                refine Eq.mpr (if_pos (wanted_of rfl rfl e22)) ?_
                go_simp
                exact hK _ _ ⟨rfl, Below.refl _ _⟩
              · have e23 : a.tmps[23]?.getD undef = (.slice (some ⟨q, o, none⟩) n c) := F.dep 7 23 (by kernel_rfl) rfl
                have e26 : a.tmps[26]?.getD undef = (.int .i64 (I : Int)) := F.dep 10 26 (by kernel_rfl) rfl
                have e22 : a.tmps[22]?.getD undef = .bool true := F.dep 6 22 (by kernel_rfl) rfl
                refine wpOp_step rfl (fun K hK => ?_)
                refine Eq.mpr (if_pos (wanted_of rfl rfl e22)) ?_
                go_simp
                exact hK _ _ ⟨rfl, Below.refl _ _⟩
              · have e27 : a.tmps[27]?.getD undef = (.pointer (some ⟨q, o + I, none⟩)) := F.dep 11 27 (by kernel_rfl) rfl
                have e22 : a.tmps[22]?.getD undef = .bool true := F.dep 6 22 (by kernel_rfl) rfl
                refine wpOp_step rfl (fun K hK => ?_)
                refine Eq.mpr (if_pos (wanted_of rfl rfl e22)) ?_
                have hcI : V.cell? ⟨q, o + I, none⟩ = some (.int .i64 (nth xs I)) := cell_at (hRw.below F.below (Nat.le_refl _)) hIx
                go_simp
                exact hK _ _ ⟨rfl, Below.refl _ _⟩
              · have e0 : a.tmps[0]?.getD undef = (.slice (some ⟨q, o, none⟩) n c) := (F.kept 0 (by kernel_rfl)).trans rfl
                have e22 : a.tmps[22]?.getD undef = .bool true := F.dep 6 22 (by kernel_rfl) rfl
                refine wpOp_step rfl (fun K hK => ?_)
                refine Eq.mpr (if_pos (wanted_of rfl rfl e22)) ?_
                go_simp
                exact hK _ _ ⟨rfl, Below.refl _ _⟩
              · have e8 : a.tmps[8]?.getD undef = (.int .i64 (k : Int)) := (F.kept 8 (by kernel_rfl)).trans rfl
                have e22 : a.tmps[22]?.getD undef = .bool true := F.dep 6 22 (by kernel_rfl) rfl
                refine wpOp_step rfl (fun K hK => ?_)
                refine Eq.mpr (if_pos (wanted_of rfl rfl e22)) ?_
                go_simp
                exact hK _ _ ⟨rfl, Below.refl _ _⟩
              · have e29 : a.tmps[29]?.getD undef = (.slice (some ⟨q, o, none⟩) n c) := F.dep 13 29 (by kernel_rfl) rfl
                have e30 : a.tmps[30]?.getD undef = (.int .i64 (k : Int)) := F.dep 14 30 (by kernel_rfl) rfl
                have e22 : a.tmps[22]?.getD undef = .bool true := F.dep 6 22 (by kernel_rfl) rfl
                refine wpOp_step rfl (fun K hK => ?_)
                refine Eq.mpr (if_pos (wanted_of rfl rfl e22)) ?_
                go_simp
                exact hK _ _ ⟨rfl, Below.refl _ _⟩
              · have e31 : a.tmps[31]?.getD undef = (.pointer (some ⟨q, o + k, none⟩)) := F.dep 15 31 (by kernel_rfl) rfl
                have e22 : a.tmps[22]?.getD undef = .bool true := F.dep 6 22 (by kernel_rfl) rfl
                refine wpOp_step rfl (fun K hK => ?_)
                refine Eq.mpr (if_pos (wanted_of rfl rfl e22)) ?_
                have hck : V.cell? ⟨q, o + k, none⟩ = some (.int .i64 (nth xs k)) := cell_at (hRw.below F.below (Nat.le_refl _)) hkx
                go_simp
                exact hK _ _ ⟨rfl, Below.refl _ _⟩
              · have e28 : a.tmps[28]?.getD undef = (.int .i64 (nth xs I)) := F.dep 12 28 (by kernel_rfl) rfl
                have e32 : a.tmps[32]?.getD undef = (.int .i64 (nth xs k)) := F.dep 16 32 (by kernel_rfl) rfl
                have e22 : a.tmps[22]?.getD undef = .bool true := F.dep 6 22 (by kernel_rfl) rfl
                refine wpOp_step rfl (fun K hK => ?_)
                refine Eq.mpr (if_pos (wanted_of rfl rfl e22)) ?_
                go_simp
                exact hK _ _ ⟨rfl, Below.refl _ _⟩
              · have e22 : a.tmps[22]?.getD undef = .bool true := F.dep 6 22 (by kernel_rfl) rfl
                have e33 : a.tmps[33]?.getD undef = .bool true := F.dep 17 33 (by kernel_rfl) rfl
                refine wpOp_step rfl (fun K hK => ?_)
                refine Eq.mpr (if_pos (by rfl)) ?_
                go_simp
                exact hK _ _ ⟨rfl, Below.refl _ _⟩
            case fin =>
              intro V hb
              simp only [finV, List.set_cons_succ, List.set_cons_zero]
              have hbq := tr hbz hb
              go_wp2
              go_roundw
              case rel => exact ⟨j + 1, by omega, by go_num, HA2, hbq⟩
              case measure => simp [intOf]; omega
          · have HNj := Lib.hid ((run_count xs k n j hj HA.out (.inr heq)).symm.trans HN.out)
            rw [hI] at heq
            have hq1 : (nth xs I == nth xs k) = false := by simp [heq]
            have HI := Lib.hid hI
            clear heq hI
            obtain rfl : N = j := HNj.out.symm
            go_wp2
            refine wp_region_vals follows_mixedB [some 16, some 17, some 18, some 19, some 20, some 21, some 22, some 23, some 24, some 25, some 26, some 27, some 28, some 29, some 30, some 31, some 32, some 33, some 34] (by kernel_rfl) [(.int .i64 (k : Int)), (.int .i64 (N : Int)), (.int .i64 (I : Int)), (.slice (some ⟨q, o, none⟩) n c), (.int .i64 (n : Int)), (.bool true), (.bool true), (.slice (some ⟨q, o, none⟩) n c), (.int .i64 (k : Int)), (.int .i64 (N : Int)), (.int .i64 (I : Int)), (.pointer (some ⟨q, o + I, none⟩)), (.int .i64 (nth xs I)), (.slice (some ⟨q, o, none⟩) n c), (.int .i64 (k : Int)), (.pointer (some ⟨q, o + k, none⟩)), (.int .i64 (nth xs k)), (.bool false), (.bool false)] rfl ?step ?fin
            case step =>
              intro i hi a V F
              have hi : i < 19 := hi
              have e : i = 0 ∨ i = 1 ∨ i = 2 ∨ i = 3 ∨ i = 4 ∨ i = 5 ∨ i = 6 ∨ i = 7 ∨ i = 8 ∨ i = 9 ∨ i = 10 ∨ i = 11 ∨ i = 12 ∨ i = 13 ∨ i = 14 ∨ i = 15 ∨ i = 16 ∨ i = 17 ∨ i = 18 := by omega
              clear hi
              rcases e with rfl | rfl | rfl | rfl | rfl | rfl | rfl | rfl | rfl | rfl | rfl | rfl | rfl | rfl | rfl | rfl | rfl | rfl | rfl
              · have e8 : a.tmps[8]?.getD undef = (.int .i64 (k : Int)) := (F.kept 8 (by kernel_rfl)).trans rfl
                refine wpOp_step rfl (fun K hK => ?_)
                refine Eq.mpr (if_pos (by rfl)) ?_
                go_simp
                exact hK _ _ ⟨rfl, Below.refl _ _⟩
              · have e9 : a.tmps[9]?.getD undef = (.int .i64 (N : Int)) := (F.kept 9 (by kernel_rfl)).trans rfl
                refine wpOp_step rfl (fun K hK => ?_)
                refine Eq.mpr (if_pos (by rfl)) ?_
                go_simp
                exact hK _ _ ⟨rfl, Below.refl _ _⟩
              · have e16 : a.tmps[16]?.getD undef = (.int .i64 (k : Int)) := F.dep 0 16 (by kernel_rfl) rfl
                have e17 : a.tmps[17]?.getD undef = (.int .i64 (N : Int)) := F.dep 1 17 (by kernel_rfl) rfl
                refine wpOp_step rfl (fun K hK => ?_)
                refine Eq.mpr (if_pos (by rfl)) ?_
                go_simp
                exact hK _ _ ⟨rfl, Below.refl _ _⟩
              · have e0 : a.tmps[0]?.getD undef = (.slice (some ⟨q, o, none⟩) n c) := (F.kept 0 (by kernel_rfl)).trans rfl
                refine wpOp_step rfl (fun K hK => ?_)
                refine Eq.mpr (if_pos (by rfl)) ?_
                go_simp
                exact hK _ _ ⟨rfl, Below.refl _ _⟩
              · have e19 : a.tmps[19]?.getD undef = (.slice (some ⟨q, o, none⟩) n c) := F.dep 3 19 (by kernel_rfl) rfl
                refine wpOp_step rfl (fun K hK => ?_)
                refine Eq.mpr (if_pos (by rfl)) ?_
                go_simp
                exact hK _ _ ⟨rfl, Below.refl _ _⟩
              · have e18 : a.tmps[18]?.getD undef = (.int .i64 (I : Int)) := F.dep 2 18 (by kernel_rfl) rfl
                have e20 : a.tmps[20]?.getD undef = (.int .i64 (n : Int)) := F.dep 4 20 (by kernel_rfl) rfl
                refine wpOp_step rfl (fun K hK => ?_)
                refine Eq.mpr (if_pos (by rfl)) ?_
                go_simp
                exact hK _ _ ⟨rfl, Below.refl _ _⟩
              · have e21 : a.tmps[21]?.getD undef = .bool true := F.dep 5 21 (by kernel_rfl) rfl
                refine wpOp_step rfl (fun K hK => ?_)
                refine Eq.mpr (if_pos (by rfl)) ?_
                go_simp
                exact hK _ _ ⟨rfl, Below.refl _ _⟩
              · have e0 : a.tmps[0]?.getD undef = (.slice (some ⟨q, o, none⟩) n c) := (F.kept 0 (by kernel_rfl)).trans rfl
                have e22 : a.tmps[22]?.getD undef = .bool true := F.dep 6 22 (by kernel_rfl) rfl
                refine wpOp_step rfl (fun K hK => ?_)
                refine Eq.mpr (if_pos (wanted_of rfl rfl e22)) ?_
                go_simp
                exact hK _ _ ⟨rfl, Below.refl _ _⟩
              · have e8 : a.tmps[8]?.getD undef = (.int .i64 (k : Int)) := (F.kept 8 (by kernel_rfl)).trans rfl
                have e22 : a.tmps[22]?.getD undef = .bool true := F.dep 6 22 (by kernel_rfl) rfl
                refine wpOp_step rfl (fun K hK => ?_)
                refine Eq.mpr (if_pos (wanted_of rfl rfl e22)) ?_
                go_simp
                exact hK _ _ ⟨rfl, Below.refl _ _⟩
              · have e9 : a.tmps[9]?.getD undef = (.int .i64 (N : Int)) := (F.kept 9 (by kernel_rfl)).trans rfl
                have e22 : a.tmps[22]?.getD undef = .bool true := F.dep 6 22 (by kernel_rfl) rfl
                refine wpOp_step rfl (fun K hK => ?_)
                refine Eq.mpr (if_pos (wanted_of rfl rfl e22)) ?_
                go_simp
                exact hK _ _ ⟨rfl, Below.refl _ _⟩
              · have e24 : a.tmps[24]?.getD undef = (.int .i64 (k : Int)) := F.dep 8 24 (by kernel_rfl) rfl
                have e25 : a.tmps[25]?.getD undef = (.int .i64 (N : Int)) := F.dep 9 25 (by kernel_rfl) rfl
                have e22 : a.tmps[22]?.getD undef = .bool true := F.dep 6 22 (by kernel_rfl) rfl
                refine wpOp_step rfl (fun K hK => ?_)
                refine Eq.mpr (if_pos (wanted_of rfl rfl e22)) ?_
                go_simp
                exact hK _ _ ⟨rfl, Below.refl _ _⟩
              · have e23 : a.tmps[23]?.getD undef = (.slice (some ⟨q, o, none⟩) n c) := F.dep 7 23 (by kernel_rfl) rfl
                have e26 : a.tmps[26]?.getD undef = (.int .i64 (I : Int)) := F.dep 10 26 (by kernel_rfl) rfl
                have e22 : a.tmps[22]?.getD undef = .bool true := F.dep 6 22 (by kernel_rfl) rfl
                refine wpOp_step rfl (fun K hK => ?_)
                refine Eq.mpr (if_pos (wanted_of rfl rfl e22)) ?_
                go_simp
                exact hK _ _ ⟨rfl, Below.refl _ _⟩
              · have e27 : a.tmps[27]?.getD undef = (.pointer (some ⟨q, o + I, none⟩)) := F.dep 11 27 (by kernel_rfl) rfl
                have e22 : a.tmps[22]?.getD undef = .bool true := F.dep 6 22 (by kernel_rfl) rfl
                refine wpOp_step rfl (fun K hK => ?_)
                refine Eq.mpr (if_pos (wanted_of rfl rfl e22)) ?_
                have hcI : V.cell? ⟨q, o + I, none⟩ = some (.int .i64 (nth xs I)) := cell_at (hRw.below F.below (Nat.le_refl _)) hIx
                go_simp
                exact hK _ _ ⟨rfl, Below.refl _ _⟩
              · have e0 : a.tmps[0]?.getD undef = (.slice (some ⟨q, o, none⟩) n c) := (F.kept 0 (by kernel_rfl)).trans rfl
                have e22 : a.tmps[22]?.getD undef = .bool true := F.dep 6 22 (by kernel_rfl) rfl
                refine wpOp_step rfl (fun K hK => ?_)
                refine Eq.mpr (if_pos (wanted_of rfl rfl e22)) ?_
                go_simp
                exact hK _ _ ⟨rfl, Below.refl _ _⟩
              · have e8 : a.tmps[8]?.getD undef = (.int .i64 (k : Int)) := (F.kept 8 (by kernel_rfl)).trans rfl
                have e22 : a.tmps[22]?.getD undef = .bool true := F.dep 6 22 (by kernel_rfl) rfl
                refine wpOp_step rfl (fun K hK => ?_)
                refine Eq.mpr (if_pos (wanted_of rfl rfl e22)) ?_
                go_simp
                exact hK _ _ ⟨rfl, Below.refl _ _⟩
              · have e29 : a.tmps[29]?.getD undef = (.slice (some ⟨q, o, none⟩) n c) := F.dep 13 29 (by kernel_rfl) rfl
                have e30 : a.tmps[30]?.getD undef = (.int .i64 (k : Int)) := F.dep 14 30 (by kernel_rfl) rfl
                have e22 : a.tmps[22]?.getD undef = .bool true := F.dep 6 22 (by kernel_rfl) rfl
                refine wpOp_step rfl (fun K hK => ?_)
                refine Eq.mpr (if_pos (wanted_of rfl rfl e22)) ?_
                go_simp
                exact hK _ _ ⟨rfl, Below.refl _ _⟩
              · have e31 : a.tmps[31]?.getD undef = (.pointer (some ⟨q, o + k, none⟩)) := F.dep 15 31 (by kernel_rfl) rfl
                have e22 : a.tmps[22]?.getD undef = .bool true := F.dep 6 22 (by kernel_rfl) rfl
                refine wpOp_step rfl (fun K hK => ?_)
                refine Eq.mpr (if_pos (wanted_of rfl rfl e22)) ?_
                have hck : V.cell? ⟨q, o + k, none⟩ = some (.int .i64 (nth xs k)) := cell_at (hRw.below F.below (Nat.le_refl _)) hkx
                go_simp
                exact hK _ _ ⟨rfl, Below.refl _ _⟩
              · have e28 : a.tmps[28]?.getD undef = (.int .i64 (nth xs I)) := F.dep 12 28 (by kernel_rfl) rfl
                have e32 : a.tmps[32]?.getD undef = (.int .i64 (nth xs k)) := F.dep 16 32 (by kernel_rfl) rfl
                have e22 : a.tmps[22]?.getD undef = .bool true := F.dep 6 22 (by kernel_rfl) rfl
                refine wpOp_step rfl (fun K hK => ?_)
                refine Eq.mpr (if_pos (wanted_of rfl rfl e22)) ?_
                go_simp
                exact hK _ _ ⟨rfl, Below.refl _ _⟩
              · have e22 : a.tmps[22]?.getD undef = .bool true := F.dep 6 22 (by kernel_rfl) rfl
                have e33 : a.tmps[33]?.getD undef = .bool false := F.dep 17 33 (by kernel_rfl) rfl
                refine wpOp_step rfl (fun K hK => ?_)
                refine Eq.mpr (if_pos (by rfl)) ?_
                go_simp
                exact hK _ _ ⟨rfl, Below.refl _ _⟩
            case fin =>
              intro V hb
              simp only [finV, List.set_cons_succ, List.set_cons_zero]
              have hBz := tr hbz hb
              replace hRw := hRw.below hb (Nat.le_refl _)
              clear hb hbz
              by_cases hLD : L < N
              · have HS2 := Lib.hid (show bestTo xs n (k + 1) = (k, N) by rw [HST.out, HB.out, if_pos hLD])
                have hLd : decide (L < N) = true := decide_eq_true hLD
                have hLi : (L : Int) < (N : Int) := by omega
                clear hLD HST HB
                go_wp2
                by_cases h0 : k = 0
                · have HN2 := Lib.hid (show runsTo xs (k + 1) = R + 1 by rw [← HRr.out]; show (if k = 0 ∨ _ then _ else _) = _; rw [if_pos (.inl h0)])
                  have hz : ((k : Int) == 0) = true := by rw [h0]; rfl
                  clear h0
                  refine wp_region_vals follows_mixedB [some 42, some 43, some 44, some 45, some 46, some 47, some 48, some 49, some 50, some 51, some 52, some 53, some 54, some 55] (by kernel_rfl) [(.int .i64 (k : Int)), (.bool true), (.bool true), (undef), (undef), (undef), (undef), (undef), (undef), (undef), (undef), (undef), (undef), (.bool true)] rfl ?step ?fin
                  case step =>
                    intro i hi a V F
                    have hi : i < 14 := hi
                    have e : i = 0 ∨ i = 1 ∨ i = 2 ∨ i = 3 ∨ i = 4 ∨ i = 5 ∨ i = 6 ∨ i = 7 ∨ i = 8 ∨ i = 9 ∨ i = 10 ∨ i = 11 ∨ i = 12 ∨ i = 13 := by omega
                    clear hi
                    rcases e with rfl | rfl | rfl | rfl | rfl | rfl | rfl | rfl | rfl | rfl | rfl | rfl | rfl | rfl
                    · have e8 : a.tmps[8]?.getD undef = (.int .i64 (k : Int)) := (F.kept 8 (by kernel_rfl)).trans rfl
                      refine wpOp_step rfl (fun K hK => ?_)
                      refine Eq.mpr (if_pos (by rfl)) ?_
                      go_simp
                      exact hK _ _ ⟨rfl, Below.refl _ _⟩
                    · have e42 : a.tmps[42]?.getD undef = (.int .i64 (k : Int)) := F.dep 0 42 (by kernel_rfl) rfl
                      refine wpOp_step rfl (fun K hK => ?_)
                      refine Eq.mpr (if_pos (by rfl)) ?_
                      go_simp
                      exact hK _ _ ⟨rfl, Below.refl _ _⟩
                    · have e43 : a.tmps[43]?.getD undef = .bool true := F.dep 1 43 (by kernel_rfl) rfl
                      refine wpOp_step rfl (fun K hK => ?_)
                      refine Eq.mpr (if_pos (by rfl)) ?_
                      go_simp
                      exact hK _ _ ⟨rfl, Below.refl _ _⟩
                    · have e0 : a.tmps[0]?.getD undef = (.slice (some ⟨q, o, none⟩) n c) := (F.kept 0 (by kernel_rfl)).trans rfl
                      have e44 : a.tmps[44]?.getD undef = .bool true := F.dep 2 44 (by kernel_rfl) rfl
                      refine wpOp_step rfl (fun K hK => ?_)
                      refine Eq.mpr (if_neg (unwanted_of rfl rfl e44 (by decide))) ?_
                      exact hK _ _ ⟨rfl, Below.refl _ _⟩
                    · have e8 : a.tmps[8]?.getD undef = (.int .i64 (k : Int)) := (F.kept 8 (by kernel_rfl)).trans rfl
                      have e44 : a.tmps[44]?.getD undef = .bool true := F.dep 2 44 (by kernel_rfl) rfl
                      refine wpOp_step rfl (fun K hK => ?_)
                      refine Eq.mpr (if_neg (unwanted_of rfl rfl e44 (by decide))) ?_
                      exact hK _ _ ⟨rfl, Below.refl _ _⟩
                    · have e46 : a.tmps[46]?.getD undef = undef := F.dep 4 46 (by kernel_rfl) rfl
                      have e44 : a.tmps[44]?.getD undef = .bool true := F.dep 2 44 (by kernel_rfl) rfl
                      refine wpOp_step rfl (fun K hK => ?_)
                      refine Eq.mpr (if_neg (unwanted_of rfl rfl e44 (by decide))) ?_
                      exact hK _ _ ⟨rfl, Below.refl _ _⟩
                    · have e45 : a.tmps[45]?.getD undef = undef := F.dep 3 45 (by kernel_rfl) rfl
                      have e47 : a.tmps[47]?.getD undef = undef := F.dep 5 47 (by kernel_rfl) rfl
                      have e44 : a.tmps[44]?.getD undef = .bool true := F.dep 2 44 (by kernel_rfl) rfl
                      refine wpOp_step rfl (fun K hK => ?_)
                      refine Eq.mpr (if_neg (unwanted_of rfl rfl e44 (by decide))) ?_
                      exact hK _ _ ⟨rfl, Below.refl _ _⟩
                    · have e48 : a.tmps[48]?.getD undef = undef := F.dep 6 48 (by kernel_rfl) rfl
                      have e44 : a.tmps[44]?.getD undef = .bool true := F.dep 2 44 (by kernel_rfl) rfl
                      refine wpOp_step rfl (fun K hK => ?_)
                      refine Eq.mpr (if_neg (unwanted_of rfl rfl e44 (by decide))) ?_
                      exact hK _ _ ⟨rfl, Below.refl _ _⟩
                    · have e0 : a.tmps[0]?.getD undef = (.slice (some ⟨q, o, none⟩) n c) := (F.kept 0 (by kernel_rfl)).trans rfl
                      have e44 : a.tmps[44]?.getD undef = .bool true := F.dep 2 44 (by kernel_rfl) rfl
                      refine wpOp_step rfl (fun K hK => ?_)
                      refine Eq.mpr (if_neg (unwanted_of rfl rfl e44 (by decide))) ?_
                      exact hK _ _ ⟨rfl, Below.refl _ _⟩
                    · have e8 : a.tmps[8]?.getD undef = (.int .i64 (k : Int)) := (F.kept 8 (by kernel_rfl)).trans rfl
                      have e44 : a.tmps[44]?.getD undef = .bool true := F.dep 2 44 (by kernel_rfl) rfl
                      refine wpOp_step rfl (fun K hK => ?_)
                      refine Eq.mpr (if_neg (unwanted_of rfl rfl e44 (by decide))) ?_
                      exact hK _ _ ⟨rfl, Below.refl _ _⟩
                    · have e50 : a.tmps[50]?.getD undef = undef := F.dep 8 50 (by kernel_rfl) rfl
                      have e51 : a.tmps[51]?.getD undef = undef := F.dep 9 51 (by kernel_rfl) rfl
                      have e44 : a.tmps[44]?.getD undef = .bool true := F.dep 2 44 (by kernel_rfl) rfl
                      refine wpOp_step rfl (fun K hK => ?_)
                      refine Eq.mpr (if_neg (unwanted_of rfl rfl e44 (by decide))) ?_
                      exact hK _ _ ⟨rfl, Below.refl _ _⟩
                    · have e52 : a.tmps[52]?.getD undef = undef := F.dep 10 52 (by kernel_rfl) rfl
                      have e44 : a.tmps[44]?.getD undef = .bool true := F.dep 2 44 (by kernel_rfl) rfl
                      refine wpOp_step rfl (fun K hK => ?_)
                      refine Eq.mpr (if_neg (unwanted_of rfl rfl e44 (by decide))) ?_
                      exact hK _ _ ⟨rfl, Below.refl _ _⟩
                    · have e49 : a.tmps[49]?.getD undef = undef := F.dep 7 49 (by kernel_rfl) rfl
                      have e53 : a.tmps[53]?.getD undef = undef := F.dep 11 53 (by kernel_rfl) rfl
                      have e44 : a.tmps[44]?.getD undef = .bool true := F.dep 2 44 (by kernel_rfl) rfl
                      refine wpOp_step rfl (fun K hK => ?_)
                      refine Eq.mpr (if_neg (unwanted_of rfl rfl e44 (by decide))) ?_
                      exact hK _ _ ⟨rfl, Below.refl _ _⟩
                    · have e44 : a.tmps[44]?.getD undef = .bool true := F.dep 2 44 (by kernel_rfl) rfl
                      have e54 : a.tmps[54]?.getD undef = undef := F.dep 12 54 (by kernel_rfl) rfl
                      refine wpOp_step rfl (fun K hK => ?_)
                      refine Eq.mpr (if_pos (by rfl)) ?_
                      go_simp
                      exact hK _ _ ⟨rfl, Below.refl _ _⟩
                  case fin =>
                    intro V hb
                    simp only [finV, List.set_cons_succ, List.set_cons_zero]
                    have hB2 := tr hBz hb
                    go_wp2
                    go_roundw
                    case rel => exact ⟨k + 1, by omega, by go_num, by rw [HS2.out], by rw [HS2.out], by rw [HN2.out]; try (first | rfl | go_num), hB2⟩
                    case measure => simp [intOf]; omega
                · obtain ⟨i, hi⟩ : ∃ i, k = i + 1 := ⟨k - 1, by omega⟩
                  have hix : i < xs.length := by omega
                  have hz : ((k : Int) == 0) = false := by simp; omega
                  have hw3 : IntKind.i64.wrap ((k : Int) - 1) = (i : Int) := by
                    rw [hi]
                    push_cast
                    rw [Int.add_sub_cancel]
                    exact IntWalk.i64_in _ (by omega)
                  have hin : (i : Int) < (n : Int) := by omega
                  have hi1 : k - 1 = i := by omega
                  by_cases heq : nth xs k = nth xs i
                  · have HN2 := Lib.hid (show runsTo xs (k + 1) = R by rw [← HRr.out]; show (if k = 0 ∨ nth xs k ≠ nth xs (k - 1) then _ else _) = _; rw [if_neg]; rw [hi1]; rintro (h | h); omega; exact h heq)
                    have hq2 : (nth xs i != nth xs k) = false := by simp [heq]
                    clear heq h0 hi1 hi
                    refine wp_region_vals follows_mixedB [some 42, some 43, some 44, some 45, some 46, some 47, some 48, some 49, some 50, some 51, some 52, some 53, some 54, some 55] (by kernel_rfl) [(.int .i64 (k : Int)), (.bool false), (.bool false), (.slice (some ⟨q, o, none⟩) n c), (.int .i64 (k : Int)), (.int .i64 (i : Int)), (.pointer (some ⟨q, o + i, none⟩)), (.int .i64 (nth xs i)), (.slice (some ⟨q, o, none⟩) n c), (.int .i64 (k : Int)), (.pointer (some ⟨q, o + k, none⟩)), (.int .i64 (nth xs k)), (.bool false), (.bool false)] rfl ?step ?fin
                    case step =>
                      intro i hi a V F
                      have hi : i < 14 := hi
                      have e : i = 0 ∨ i = 1 ∨ i = 2 ∨ i = 3 ∨ i = 4 ∨ i = 5 ∨ i = 6 ∨ i = 7 ∨ i = 8 ∨ i = 9 ∨ i = 10 ∨ i = 11 ∨ i = 12 ∨ i = 13 := by omega
                      clear hi
                      rcases e with rfl | rfl | rfl | rfl | rfl | rfl | rfl | rfl | rfl | rfl | rfl | rfl | rfl | rfl
                      · have e8 : a.tmps[8]?.getD undef = (.int .i64 (k : Int)) := (F.kept 8 (by kernel_rfl)).trans rfl
                        refine wpOp_step rfl (fun K hK => ?_)
                        refine Eq.mpr (if_pos (by rfl)) ?_
                        go_simp
                        exact hK _ _ ⟨rfl, Below.refl _ _⟩
                      · have e42 : a.tmps[42]?.getD undef = (.int .i64 (k : Int)) := F.dep 0 42 (by kernel_rfl) rfl
                        refine wpOp_step rfl (fun K hK => ?_)
                        refine Eq.mpr (if_pos (by rfl)) ?_
                        go_simp
                        exact hK _ _ ⟨rfl, Below.refl _ _⟩
                      · have e43 : a.tmps[43]?.getD undef = .bool false := F.dep 1 43 (by kernel_rfl) rfl
                        refine wpOp_step rfl (fun K hK => ?_)
                        refine Eq.mpr (if_pos (by rfl)) ?_
                        go_simp
                        exact hK _ _ ⟨rfl, Below.refl _ _⟩
                      · have e0 : a.tmps[0]?.getD undef = (.slice (some ⟨q, o, none⟩) n c) := (F.kept 0 (by kernel_rfl)).trans rfl
                        have e44 : a.tmps[44]?.getD undef = .bool false := F.dep 2 44 (by kernel_rfl) rfl
                        refine wpOp_step rfl (fun K hK => ?_)
                        refine Eq.mpr (if_pos (wanted_of rfl rfl e44)) ?_
                        go_simp
                        exact hK _ _ ⟨rfl, Below.refl _ _⟩
                      · have e8 : a.tmps[8]?.getD undef = (.int .i64 (k : Int)) := (F.kept 8 (by kernel_rfl)).trans rfl
                        have e44 : a.tmps[44]?.getD undef = .bool false := F.dep 2 44 (by kernel_rfl) rfl
                        refine wpOp_step rfl (fun K hK => ?_)
                        refine Eq.mpr (if_pos (wanted_of rfl rfl e44)) ?_
                        go_simp
                        exact hK _ _ ⟨rfl, Below.refl _ _⟩
                      · have e46 : a.tmps[46]?.getD undef = (.int .i64 (k : Int)) := F.dep 4 46 (by kernel_rfl) rfl
                        have e44 : a.tmps[44]?.getD undef = .bool false := F.dep 2 44 (by kernel_rfl) rfl
                        refine wpOp_step rfl (fun K hK => ?_)
                        refine Eq.mpr (if_pos (wanted_of rfl rfl e44)) ?_
                        go_simp
                        exact hK _ _ ⟨rfl, Below.refl _ _⟩
                      · have e45 : a.tmps[45]?.getD undef = (.slice (some ⟨q, o, none⟩) n c) := F.dep 3 45 (by kernel_rfl) rfl
                        have e47 : a.tmps[47]?.getD undef = (.int .i64 (i : Int)) := F.dep 5 47 (by kernel_rfl) rfl
                        have e44 : a.tmps[44]?.getD undef = .bool false := F.dep 2 44 (by kernel_rfl) rfl
                        refine wpOp_step rfl (fun K hK => ?_)
                        refine Eq.mpr (if_pos (wanted_of rfl rfl e44)) ?_
                        go_simp
                        exact hK _ _ ⟨rfl, Below.refl _ _⟩
                      · have e48 : a.tmps[48]?.getD undef = (.pointer (some ⟨q, o + i, none⟩)) := F.dep 6 48 (by kernel_rfl) rfl
                        have e44 : a.tmps[44]?.getD undef = .bool false := F.dep 2 44 (by kernel_rfl) rfl
                        refine wpOp_step rfl (fun K hK => ?_)
                        refine Eq.mpr (if_pos (wanted_of rfl rfl e44)) ?_
                        have hci : V.cell? ⟨q, o + i, none⟩ = some (.int .i64 (nth xs i)) := cell_at (hRw.below F.below (Nat.le_refl _)) hix
                        go_simp
                        exact hK _ _ ⟨rfl, Below.refl _ _⟩
                      · have e0 : a.tmps[0]?.getD undef = (.slice (some ⟨q, o, none⟩) n c) := (F.kept 0 (by kernel_rfl)).trans rfl
                        have e44 : a.tmps[44]?.getD undef = .bool false := F.dep 2 44 (by kernel_rfl) rfl
                        refine wpOp_step rfl (fun K hK => ?_)
                        refine Eq.mpr (if_pos (wanted_of rfl rfl e44)) ?_
                        go_simp
                        exact hK _ _ ⟨rfl, Below.refl _ _⟩
                      · have e8 : a.tmps[8]?.getD undef = (.int .i64 (k : Int)) := (F.kept 8 (by kernel_rfl)).trans rfl
                        have e44 : a.tmps[44]?.getD undef = .bool false := F.dep 2 44 (by kernel_rfl) rfl
                        refine wpOp_step rfl (fun K hK => ?_)
                        refine Eq.mpr (if_pos (wanted_of rfl rfl e44)) ?_
                        go_simp
                        exact hK _ _ ⟨rfl, Below.refl _ _⟩
                      · have e50 : a.tmps[50]?.getD undef = (.slice (some ⟨q, o, none⟩) n c) := F.dep 8 50 (by kernel_rfl) rfl
                        have e51 : a.tmps[51]?.getD undef = (.int .i64 (k : Int)) := F.dep 9 51 (by kernel_rfl) rfl
                        have e44 : a.tmps[44]?.getD undef = .bool false := F.dep 2 44 (by kernel_rfl) rfl
                        refine wpOp_step rfl (fun K hK => ?_)
                        refine Eq.mpr (if_pos (wanted_of rfl rfl e44)) ?_
                        go_simp
                        exact hK _ _ ⟨rfl, Below.refl _ _⟩
                      · have e52 : a.tmps[52]?.getD undef = (.pointer (some ⟨q, o + k, none⟩)) := F.dep 10 52 (by kernel_rfl) rfl
                        have e44 : a.tmps[44]?.getD undef = .bool false := F.dep 2 44 (by kernel_rfl) rfl
                        refine wpOp_step rfl (fun K hK => ?_)
                        refine Eq.mpr (if_pos (wanted_of rfl rfl e44)) ?_
                        have hck : V.cell? ⟨q, o + k, none⟩ = some (.int .i64 (nth xs k)) := cell_at (hRw.below F.below (Nat.le_refl _)) hkx
                        go_simp
                        exact hK _ _ ⟨rfl, Below.refl _ _⟩
                      · have e49 : a.tmps[49]?.getD undef = (.int .i64 (nth xs i)) := F.dep 7 49 (by kernel_rfl) rfl
                        have e53 : a.tmps[53]?.getD undef = (.int .i64 (nth xs k)) := F.dep 11 53 (by kernel_rfl) rfl
                        have e44 : a.tmps[44]?.getD undef = .bool false := F.dep 2 44 (by kernel_rfl) rfl
                        refine wpOp_step rfl (fun K hK => ?_)
                        refine Eq.mpr (if_pos (wanted_of rfl rfl e44)) ?_
                        go_simp
                        exact hK _ _ ⟨rfl, Below.refl _ _⟩
                      · have e44 : a.tmps[44]?.getD undef = .bool false := F.dep 2 44 (by kernel_rfl) rfl
                        have e54 : a.tmps[54]?.getD undef = .bool false := F.dep 12 54 (by kernel_rfl) rfl
                        refine wpOp_step rfl (fun K hK => ?_)
                        refine Eq.mpr (if_pos (by rfl)) ?_
                        go_simp
                        exact hK _ _ ⟨rfl, Below.refl _ _⟩
                    case fin =>
                      intro V hb
                      simp only [finV, List.set_cons_succ, List.set_cons_zero]
                      have hB2 := tr hBz hb
                      go_wp2
                      go_roundw
                      case rel => exact ⟨k + 1, by omega, by go_num, by rw [HS2.out], by rw [HS2.out], by rw [HN2.out]; try (first | rfl | go_num), hB2⟩
                      case measure => simp [intOf]; omega
                  · have HN2 := Lib.hid (show runsTo xs (k + 1) = R + 1 by rw [← HRr.out]; show (if k = 0 ∨ nth xs k ≠ nth xs (k - 1) then _ else _) = _; rw [if_pos]; rw [hi1]; exact .inr heq)
                    have hq2 : (nth xs i != nth xs k) = true := by simp [Ne.symm heq]
                    clear heq h0 hi1 hi
                    refine wp_region_vals follows_mixedB [some 42, some 43, some 44, some 45, some 46, some 47, some 48, some 49, some 50, some 51, some 52, some 53, some 54, some 55] (by kernel_rfl) [(.int .i64 (k : Int)), (.bool false), (.bool false), (.slice (some ⟨q, o, none⟩) n c), (.int .i64 (k : Int)), (.int .i64 (i : Int)), (.pointer (some ⟨q, o + i, none⟩)), (.int .i64 (nth xs i)), (.slice (some ⟨q, o, none⟩) n c), (.int .i64 (k : Int)), (.pointer (some ⟨q, o + k, none⟩)), (.int .i64 (nth xs k)), (.bool true), (.bool true)] rfl ?step ?fin
                    case step =>
                      intro i hi a V F
                      have hi : i < 14 := hi
                      have e : i = 0 ∨ i = 1 ∨ i = 2 ∨ i = 3 ∨ i = 4 ∨ i = 5 ∨ i = 6 ∨ i = 7 ∨ i = 8 ∨ i = 9 ∨ i = 10 ∨ i = 11 ∨ i = 12 ∨ i = 13 := by omega
                      clear hi
                      rcases e with rfl | rfl | rfl | rfl | rfl | rfl | rfl | rfl | rfl | rfl | rfl | rfl | rfl | rfl
                      · have e8 : a.tmps[8]?.getD undef = (.int .i64 (k : Int)) := (F.kept 8 (by kernel_rfl)).trans rfl
                        refine wpOp_step rfl (fun K hK => ?_)
                        refine Eq.mpr (if_pos (by rfl)) ?_
                        go_simp
                        exact hK _ _ ⟨rfl, Below.refl _ _⟩
                      · have e42 : a.tmps[42]?.getD undef = (.int .i64 (k : Int)) := F.dep 0 42 (by kernel_rfl) rfl
                        refine wpOp_step rfl (fun K hK => ?_)
                        refine Eq.mpr (if_pos (by rfl)) ?_
                        go_simp
                        exact hK _ _ ⟨rfl, Below.refl _ _⟩
                      · have e43 : a.tmps[43]?.getD undef = .bool false := F.dep 1 43 (by kernel_rfl) rfl
                        refine wpOp_step rfl (fun K hK => ?_)
                        refine Eq.mpr (if_pos (by rfl)) ?_
                        go_simp
                        exact hK _ _ ⟨rfl, Below.refl _ _⟩
                      · have e0 : a.tmps[0]?.getD undef = (.slice (some ⟨q, o, none⟩) n c) := (F.kept 0 (by kernel_rfl)).trans rfl
                        have e44 : a.tmps[44]?.getD undef = .bool false := F.dep 2 44 (by kernel_rfl) rfl
                        refine wpOp_step rfl (fun K hK => ?_)
                        refine Eq.mpr (if_pos (wanted_of rfl rfl e44)) ?_
                        go_simp
                        exact hK _ _ ⟨rfl, Below.refl _ _⟩
                      · have e8 : a.tmps[8]?.getD undef = (.int .i64 (k : Int)) := (F.kept 8 (by kernel_rfl)).trans rfl
                        have e44 : a.tmps[44]?.getD undef = .bool false := F.dep 2 44 (by kernel_rfl) rfl
                        refine wpOp_step rfl (fun K hK => ?_)
                        refine Eq.mpr (if_pos (wanted_of rfl rfl e44)) ?_
                        go_simp
                        exact hK _ _ ⟨rfl, Below.refl _ _⟩
                      · have e46 : a.tmps[46]?.getD undef = (.int .i64 (k : Int)) := F.dep 4 46 (by kernel_rfl) rfl
                        have e44 : a.tmps[44]?.getD undef = .bool false := F.dep 2 44 (by kernel_rfl) rfl
                        refine wpOp_step rfl (fun K hK => ?_)
                        refine Eq.mpr (if_pos (wanted_of rfl rfl e44)) ?_
                        go_simp
                        exact hK _ _ ⟨rfl, Below.refl _ _⟩
                      · have e45 : a.tmps[45]?.getD undef = (.slice (some ⟨q, o, none⟩) n c) := F.dep 3 45 (by kernel_rfl) rfl
                        have e47 : a.tmps[47]?.getD undef = (.int .i64 (i : Int)) := F.dep 5 47 (by kernel_rfl) rfl
                        have e44 : a.tmps[44]?.getD undef = .bool false := F.dep 2 44 (by kernel_rfl) rfl
                        refine wpOp_step rfl (fun K hK => ?_)
                        refine Eq.mpr (if_pos (wanted_of rfl rfl e44)) ?_
                        go_simp
                        exact hK _ _ ⟨rfl, Below.refl _ _⟩
                      · have e48 : a.tmps[48]?.getD undef = (.pointer (some ⟨q, o + i, none⟩)) := F.dep 6 48 (by kernel_rfl) rfl
                        have e44 : a.tmps[44]?.getD undef = .bool false := F.dep 2 44 (by kernel_rfl) rfl
                        refine wpOp_step rfl (fun K hK => ?_)
                        refine Eq.mpr (if_pos (wanted_of rfl rfl e44)) ?_
                        have hci : V.cell? ⟨q, o + i, none⟩ = some (.int .i64 (nth xs i)) := cell_at (hRw.below F.below (Nat.le_refl _)) hix
                        go_simp
                        exact hK _ _ ⟨rfl, Below.refl _ _⟩
                      · have e0 : a.tmps[0]?.getD undef = (.slice (some ⟨q, o, none⟩) n c) := (F.kept 0 (by kernel_rfl)).trans rfl
                        have e44 : a.tmps[44]?.getD undef = .bool false := F.dep 2 44 (by kernel_rfl) rfl
                        refine wpOp_step rfl (fun K hK => ?_)
                        refine Eq.mpr (if_pos (wanted_of rfl rfl e44)) ?_
                        go_simp
                        exact hK _ _ ⟨rfl, Below.refl _ _⟩
                      · have e8 : a.tmps[8]?.getD undef = (.int .i64 (k : Int)) := (F.kept 8 (by kernel_rfl)).trans rfl
                        have e44 : a.tmps[44]?.getD undef = .bool false := F.dep 2 44 (by kernel_rfl) rfl
                        refine wpOp_step rfl (fun K hK => ?_)
                        refine Eq.mpr (if_pos (wanted_of rfl rfl e44)) ?_
                        go_simp
                        exact hK _ _ ⟨rfl, Below.refl _ _⟩
                      · have e50 : a.tmps[50]?.getD undef = (.slice (some ⟨q, o, none⟩) n c) := F.dep 8 50 (by kernel_rfl) rfl
                        have e51 : a.tmps[51]?.getD undef = (.int .i64 (k : Int)) := F.dep 9 51 (by kernel_rfl) rfl
                        have e44 : a.tmps[44]?.getD undef = .bool false := F.dep 2 44 (by kernel_rfl) rfl
                        refine wpOp_step rfl (fun K hK => ?_)
                        refine Eq.mpr (if_pos (wanted_of rfl rfl e44)) ?_
                        go_simp
                        exact hK _ _ ⟨rfl, Below.refl _ _⟩
                      · have e52 : a.tmps[52]?.getD undef = (.pointer (some ⟨q, o + k, none⟩)) := F.dep 10 52 (by kernel_rfl) rfl
                        have e44 : a.tmps[44]?.getD undef = .bool false := F.dep 2 44 (by kernel_rfl) rfl
                        refine wpOp_step rfl (fun K hK => ?_)
                        refine Eq.mpr (if_pos (wanted_of rfl rfl e44)) ?_
                        have hck : V.cell? ⟨q, o + k, none⟩ = some (.int .i64 (nth xs k)) := cell_at (hRw.below F.below (Nat.le_refl _)) hkx
                        go_simp
                        exact hK _ _ ⟨rfl, Below.refl _ _⟩
                      · have e49 : a.tmps[49]?.getD undef = (.int .i64 (nth xs i)) := F.dep 7 49 (by kernel_rfl) rfl
                        have e53 : a.tmps[53]?.getD undef = (.int .i64 (nth xs k)) := F.dep 11 53 (by kernel_rfl) rfl
                        have e44 : a.tmps[44]?.getD undef = .bool false := F.dep 2 44 (by kernel_rfl) rfl
                        refine wpOp_step rfl (fun K hK => ?_)
                        refine Eq.mpr (if_pos (wanted_of rfl rfl e44)) ?_
                        go_simp
                        exact hK _ _ ⟨rfl, Below.refl _ _⟩
                      · have e44 : a.tmps[44]?.getD undef = .bool false := F.dep 2 44 (by kernel_rfl) rfl
                        have e54 : a.tmps[54]?.getD undef = .bool true := F.dep 12 54 (by kernel_rfl) rfl
                        refine wpOp_step rfl (fun K hK => ?_)
                        refine Eq.mpr (if_pos (by rfl)) ?_
                        go_simp
                        exact hK _ _ ⟨rfl, Below.refl _ _⟩
                    case fin =>
                      intro V hb
                      simp only [finV, List.set_cons_succ, List.set_cons_zero]
                      have hB2 := tr hBz hb
                      go_wp2
                      go_roundw
                      case rel => exact ⟨k + 1, by omega, by go_num, by rw [HS2.out], by rw [HS2.out], by rw [HN2.out]; try (first | rfl | go_num), hB2⟩
                      case measure => simp [intOf]; omega
              · have HS2 := Lib.hid (show bestTo xs n (k + 1) = (S, L) by rw [HST.out, HB.out, if_neg hLD])
                have hLd : decide (L < N) = false := decide_eq_false hLD
                have hLi : (N : Int) ≤ (L : Int) := by omega
                clear hLD HST HB
                go_wp2
                by_cases h0 : k = 0
                · have HN2 := Lib.hid (show runsTo xs (k + 1) = R + 1 by rw [← HRr.out]; show (if k = 0 ∨ _ then _ else _) = _; rw [if_pos (.inl h0)])
                  have hz : ((k : Int) == 0) = true := by rw [h0]; rfl
                  clear h0
                  refine wp_region_vals follows_mixedB [some 42, some 43, some 44, some 45, some 46, some 47, some 48, some 49, some 50, some 51, some 52, some 53, some 54, some 55] (by kernel_rfl) [(.int .i64 (k : Int)), (.bool true), (.bool true), (undef), (undef), (undef), (undef), (undef), (undef), (undef), (undef), (undef), (undef), (.bool true)] rfl ?step ?fin
                  case step =>
                    intro i hi a V F
                    have hi : i < 14 := hi
                    have e : i = 0 ∨ i = 1 ∨ i = 2 ∨ i = 3 ∨ i = 4 ∨ i = 5 ∨ i = 6 ∨ i = 7 ∨ i = 8 ∨ i = 9 ∨ i = 10 ∨ i = 11 ∨ i = 12 ∨ i = 13 := by omega
                    clear hi
                    rcases e with rfl | rfl | rfl | rfl | rfl | rfl | rfl | rfl | rfl | rfl | rfl | rfl | rfl | rfl
                    · have e8 : a.tmps[8]?.getD undef = (.int .i64 (k : Int)) := (F.kept 8 (by kernel_rfl)).trans rfl
                      refine wpOp_step rfl (fun K hK => ?_)
                      refine Eq.mpr (if_pos (by rfl)) ?_
                      go_simp
                      exact hK _ _ ⟨rfl, Below.refl _ _⟩
                    · have e42 : a.tmps[42]?.getD undef = (.int .i64 (k : Int)) := F.dep 0 42 (by kernel_rfl) rfl
                      refine wpOp_step rfl (fun K hK => ?_)
                      refine Eq.mpr (if_pos (by rfl)) ?_
                      go_simp
                      exact hK _ _ ⟨rfl, Below.refl _ _⟩
                    · have e43 : a.tmps[43]?.getD undef = .bool true := F.dep 1 43 (by kernel_rfl) rfl
                      refine wpOp_step rfl (fun K hK => ?_)
                      refine Eq.mpr (if_pos (by rfl)) ?_
                      go_simp
                      exact hK _ _ ⟨rfl, Below.refl _ _⟩
                    · have e0 : a.tmps[0]?.getD undef = (.slice (some ⟨q, o, none⟩) n c) := (F.kept 0 (by kernel_rfl)).trans rfl
                      have e44 : a.tmps[44]?.getD undef = .bool true := F.dep 2 44 (by kernel_rfl) rfl
                      refine wpOp_step rfl (fun K hK => ?_)
                      refine Eq.mpr (if_neg (unwanted_of rfl rfl e44 (by decide))) ?_
                      exact hK _ _ ⟨rfl, Below.refl _ _⟩
                    · have e8 : a.tmps[8]?.getD undef = (.int .i64 (k : Int)) := (F.kept 8 (by kernel_rfl)).trans rfl
                      have e44 : a.tmps[44]?.getD undef = .bool true := F.dep 2 44 (by kernel_rfl) rfl
                      refine wpOp_step rfl (fun K hK => ?_)
                      refine Eq.mpr (if_neg (unwanted_of rfl rfl e44 (by decide))) ?_
                      exact hK _ _ ⟨rfl, Below.refl _ _⟩
                    · have e46 : a.tmps[46]?.getD undef = undef := F.dep 4 46 (by kernel_rfl) rfl
                      have e44 : a.tmps[44]?.getD undef = .bool true := F.dep 2 44 (by kernel_rfl) rfl
                      refine wpOp_step rfl (fun K hK => ?_)
                      refine Eq.mpr (if_neg (unwanted_of rfl rfl e44 (by decide))) ?_
                      exact hK _ _ ⟨rfl, Below.refl _ _⟩
                    · have e45 : a.tmps[45]?.getD undef = undef := F.dep 3 45 (by kernel_rfl) rfl
                      have e47 : a.tmps[47]?.getD undef = undef := F.dep 5 47 (by kernel_rfl) rfl
                      have e44 : a.tmps[44]?.getD undef = .bool true := F.dep 2 44 (by kernel_rfl) rfl
                      refine wpOp_step rfl (fun K hK => ?_)
                      refine Eq.mpr (if_neg (unwanted_of rfl rfl e44 (by decide))) ?_
                      exact hK _ _ ⟨rfl, Below.refl _ _⟩
                    · have e48 : a.tmps[48]?.getD undef = undef := F.dep 6 48 (by kernel_rfl) rfl
                      have e44 : a.tmps[44]?.getD undef = .bool true := F.dep 2 44 (by kernel_rfl) rfl
                      refine wpOp_step rfl (fun K hK => ?_)
                      refine Eq.mpr (if_neg (unwanted_of rfl rfl e44 (by decide))) ?_
                      exact hK _ _ ⟨rfl, Below.refl _ _⟩
                    · have e0 : a.tmps[0]?.getD undef = (.slice (some ⟨q, o, none⟩) n c) := (F.kept 0 (by kernel_rfl)).trans rfl
                      have e44 : a.tmps[44]?.getD undef = .bool true := F.dep 2 44 (by kernel_rfl) rfl
                      refine wpOp_step rfl (fun K hK => ?_)
                      refine Eq.mpr (if_neg (unwanted_of rfl rfl e44 (by decide))) ?_
                      exact hK _ _ ⟨rfl, Below.refl _ _⟩
                    · have e8 : a.tmps[8]?.getD undef = (.int .i64 (k : Int)) := (F.kept 8 (by kernel_rfl)).trans rfl
                      have e44 : a.tmps[44]?.getD undef = .bool true := F.dep 2 44 (by kernel_rfl) rfl
                      refine wpOp_step rfl (fun K hK => ?_)
                      refine Eq.mpr (if_neg (unwanted_of rfl rfl e44 (by decide))) ?_
                      exact hK _ _ ⟨rfl, Below.refl _ _⟩
                    · have e50 : a.tmps[50]?.getD undef = undef := F.dep 8 50 (by kernel_rfl) rfl
                      have e51 : a.tmps[51]?.getD undef = undef := F.dep 9 51 (by kernel_rfl) rfl
                      have e44 : a.tmps[44]?.getD undef = .bool true := F.dep 2 44 (by kernel_rfl) rfl
                      refine wpOp_step rfl (fun K hK => ?_)
                      refine Eq.mpr (if_neg (unwanted_of rfl rfl e44 (by decide))) ?_
                      exact hK _ _ ⟨rfl, Below.refl _ _⟩
                    · have e52 : a.tmps[52]?.getD undef = undef := F.dep 10 52 (by kernel_rfl) rfl
                      have e44 : a.tmps[44]?.getD undef = .bool true := F.dep 2 44 (by kernel_rfl) rfl
                      refine wpOp_step rfl (fun K hK => ?_)
                      refine Eq.mpr (if_neg (unwanted_of rfl rfl e44 (by decide))) ?_
                      exact hK _ _ ⟨rfl, Below.refl _ _⟩
                    · have e49 : a.tmps[49]?.getD undef = undef := F.dep 7 49 (by kernel_rfl) rfl
                      have e53 : a.tmps[53]?.getD undef = undef := F.dep 11 53 (by kernel_rfl) rfl
                      have e44 : a.tmps[44]?.getD undef = .bool true := F.dep 2 44 (by kernel_rfl) rfl
                      refine wpOp_step rfl (fun K hK => ?_)
                      refine Eq.mpr (if_neg (unwanted_of rfl rfl e44 (by decide))) ?_
                      exact hK _ _ ⟨rfl, Below.refl _ _⟩
                    · have e44 : a.tmps[44]?.getD undef = .bool true := F.dep 2 44 (by kernel_rfl) rfl
                      have e54 : a.tmps[54]?.getD undef = undef := F.dep 12 54 (by kernel_rfl) rfl
                      refine wpOp_step rfl (fun K hK => ?_)
                      refine Eq.mpr (if_pos (by rfl)) ?_
                      go_simp
                      exact hK _ _ ⟨rfl, Below.refl _ _⟩
                  case fin =>
                    intro V hb
                    simp only [finV, List.set_cons_succ, List.set_cons_zero]
                    have hB2 := tr hBz hb
                    go_wp2
                    go_roundw
                    case rel => exact ⟨k + 1, by omega, by go_num, by rw [HS2.out], by rw [HS2.out], by rw [HN2.out]; try (first | rfl | go_num), hB2⟩
                    case measure => simp [intOf]; omega
                · obtain ⟨i, hi⟩ : ∃ i, k = i + 1 := ⟨k - 1, by omega⟩
                  have hix : i < xs.length := by omega
                  have hz : ((k : Int) == 0) = false := by simp; omega
                  have hw3 : IntKind.i64.wrap ((k : Int) - 1) = (i : Int) := by
                    rw [hi]
                    push_cast
                    rw [Int.add_sub_cancel]
                    exact IntWalk.i64_in _ (by omega)
                  have hin : (i : Int) < (n : Int) := by omega
                  have hi1 : k - 1 = i := by omega
                  by_cases heq : nth xs k = nth xs i
                  · have HN2 := Lib.hid (show runsTo xs (k + 1) = R by rw [← HRr.out]; show (if k = 0 ∨ nth xs k ≠ nth xs (k - 1) then _ else _) = _; rw [if_neg]; rw [hi1]; rintro (h | h); omega; exact h heq)
                    have hq2 : (nth xs i != nth xs k) = false := by simp [heq]
                    clear heq h0 hi1 hi
                    refine wp_region_vals follows_mixedB [some 42, some 43, some 44, some 45, some 46, some 47, some 48, some 49, some 50, some 51, some 52, some 53, some 54, some 55] (by kernel_rfl) [(.int .i64 (k : Int)), (.bool false), (.bool false), (.slice (some ⟨q, o, none⟩) n c), (.int .i64 (k : Int)), (.int .i64 (i : Int)), (.pointer (some ⟨q, o + i, none⟩)), (.int .i64 (nth xs i)), (.slice (some ⟨q, o, none⟩) n c), (.int .i64 (k : Int)), (.pointer (some ⟨q, o + k, none⟩)), (.int .i64 (nth xs k)), (.bool false), (.bool false)] rfl ?step ?fin
                    case step =>
                      intro i hi a V F
                      have hi : i < 14 := hi
                      have e : i = 0 ∨ i = 1 ∨ i = 2 ∨ i = 3 ∨ i = 4 ∨ i = 5 ∨ i = 6 ∨ i = 7 ∨ i = 8 ∨ i = 9 ∨ i = 10 ∨ i = 11 ∨ i = 12 ∨ i = 13 := by omega
                      clear hi
                      rcases e with rfl | rfl | rfl | rfl | rfl | rfl | rfl | rfl | rfl | rfl | rfl | rfl | rfl | rfl
                      · have e8 : a.tmps[8]?.getD undef = (.int .i64 (k : Int)) := (F.kept 8 (by kernel_rfl)).trans rfl
                        refine wpOp_step rfl (fun K hK => ?_)
                        refine Eq.mpr (if_pos (by rfl)) ?_
                        go_simp
                        exact hK _ _ ⟨rfl, Below.refl _ _⟩
                      · have e42 : a.tmps[42]?.getD undef = (.int .i64 (k : Int)) := F.dep 0 42 (by kernel_rfl) rfl
                        refine wpOp_step rfl (fun K hK => ?_)
                        refine Eq.mpr (if_pos (by rfl)) ?_
                        go_simp
                        exact hK _ _ ⟨rfl, Below.refl _ _⟩
                      · have e43 : a.tmps[43]?.getD undef = .bool false := F.dep 1 43 (by kernel_rfl) rfl
                        refine wpOp_step rfl (fun K hK => ?_)
                        refine Eq.mpr (if_pos (by rfl)) ?_
                        go_simp
                        exact hK _ _ ⟨rfl, Below.refl _ _⟩
                      · have e0 : a.tmps[0]?.getD undef = (.slice (some ⟨q, o, none⟩) n c) := (F.kept 0 (by kernel_rfl)).trans rfl
                        have e44 : a.tmps[44]?.getD undef = .bool false := F.dep 2 44 (by kernel_rfl) rfl
                        refine wpOp_step rfl (fun K hK => ?_)
                        refine Eq.mpr (if_pos (wanted_of rfl rfl e44)) ?_
                        go_simp
                        exact hK _ _ ⟨rfl, Below.refl _ _⟩
                      · have e8 : a.tmps[8]?.getD undef = (.int .i64 (k : Int)) := (F.kept 8 (by kernel_rfl)).trans rfl
                        have e44 : a.tmps[44]?.getD undef = .bool false := F.dep 2 44 (by kernel_rfl) rfl
                        refine wpOp_step rfl (fun K hK => ?_)
                        refine Eq.mpr (if_pos (wanted_of rfl rfl e44)) ?_
                        go_simp
                        exact hK _ _ ⟨rfl, Below.refl _ _⟩
                      · have e46 : a.tmps[46]?.getD undef = (.int .i64 (k : Int)) := F.dep 4 46 (by kernel_rfl) rfl
                        have e44 : a.tmps[44]?.getD undef = .bool false := F.dep 2 44 (by kernel_rfl) rfl
                        refine wpOp_step rfl (fun K hK => ?_)
                        refine Eq.mpr (if_pos (wanted_of rfl rfl e44)) ?_
                        go_simp
                        exact hK _ _ ⟨rfl, Below.refl _ _⟩
                      · have e45 : a.tmps[45]?.getD undef = (.slice (some ⟨q, o, none⟩) n c) := F.dep 3 45 (by kernel_rfl) rfl
                        have e47 : a.tmps[47]?.getD undef = (.int .i64 (i : Int)) := F.dep 5 47 (by kernel_rfl) rfl
                        have e44 : a.tmps[44]?.getD undef = .bool false := F.dep 2 44 (by kernel_rfl) rfl
                        refine wpOp_step rfl (fun K hK => ?_)
                        refine Eq.mpr (if_pos (wanted_of rfl rfl e44)) ?_
                        go_simp
                        exact hK _ _ ⟨rfl, Below.refl _ _⟩
                      · have e48 : a.tmps[48]?.getD undef = (.pointer (some ⟨q, o + i, none⟩)) := F.dep 6 48 (by kernel_rfl) rfl
                        have e44 : a.tmps[44]?.getD undef = .bool false := F.dep 2 44 (by kernel_rfl) rfl
                        refine wpOp_step rfl (fun K hK => ?_)
                        refine Eq.mpr (if_pos (wanted_of rfl rfl e44)) ?_
                        have hci : V.cell? ⟨q, o + i, none⟩ = some (.int .i64 (nth xs i)) := cell_at (hRw.below F.below (Nat.le_refl _)) hix
                        go_simp
                        exact hK _ _ ⟨rfl, Below.refl _ _⟩
                      · have e0 : a.tmps[0]?.getD undef = (.slice (some ⟨q, o, none⟩) n c) := (F.kept 0 (by kernel_rfl)).trans rfl
                        have e44 : a.tmps[44]?.getD undef = .bool false := F.dep 2 44 (by kernel_rfl) rfl
                        refine wpOp_step rfl (fun K hK => ?_)
                        refine Eq.mpr (if_pos (wanted_of rfl rfl e44)) ?_
                        go_simp
                        exact hK _ _ ⟨rfl, Below.refl _ _⟩
                      · have e8 : a.tmps[8]?.getD undef = (.int .i64 (k : Int)) := (F.kept 8 (by kernel_rfl)).trans rfl
                        have e44 : a.tmps[44]?.getD undef = .bool false := F.dep 2 44 (by kernel_rfl) rfl
                        refine wpOp_step rfl (fun K hK => ?_)
                        refine Eq.mpr (if_pos (wanted_of rfl rfl e44)) ?_
                        go_simp
                        exact hK _ _ ⟨rfl, Below.refl _ _⟩
                      · have e50 : a.tmps[50]?.getD undef = (.slice (some ⟨q, o, none⟩) n c) := F.dep 8 50 (by kernel_rfl) rfl
                        have e51 : a.tmps[51]?.getD undef = (.int .i64 (k : Int)) := F.dep 9 51 (by kernel_rfl) rfl
                        have e44 : a.tmps[44]?.getD undef = .bool false := F.dep 2 44 (by kernel_rfl) rfl
                        refine wpOp_step rfl (fun K hK => ?_)
                        refine Eq.mpr (if_pos (wanted_of rfl rfl e44)) ?_
                        go_simp
                        exact hK _ _ ⟨rfl, Below.refl _ _⟩
                      · have e52 : a.tmps[52]?.getD undef = (.pointer (some ⟨q, o + k, none⟩)) := F.dep 10 52 (by kernel_rfl) rfl
                        have e44 : a.tmps[44]?.getD undef = .bool false := F.dep 2 44 (by kernel_rfl) rfl
                        refine wpOp_step rfl (fun K hK => ?_)
                        refine Eq.mpr (if_pos (wanted_of rfl rfl e44)) ?_
                        have hck : V.cell? ⟨q, o + k, none⟩ = some (.int .i64 (nth xs k)) := cell_at (hRw.below F.below (Nat.le_refl _)) hkx
                        go_simp
                        exact hK _ _ ⟨rfl, Below.refl _ _⟩
                      · have e49 : a.tmps[49]?.getD undef = (.int .i64 (nth xs i)) := F.dep 7 49 (by kernel_rfl) rfl
                        have e53 : a.tmps[53]?.getD undef = (.int .i64 (nth xs k)) := F.dep 11 53 (by kernel_rfl) rfl
                        have e44 : a.tmps[44]?.getD undef = .bool false := F.dep 2 44 (by kernel_rfl) rfl
                        refine wpOp_step rfl (fun K hK => ?_)
                        refine Eq.mpr (if_pos (wanted_of rfl rfl e44)) ?_
                        go_simp
                        exact hK _ _ ⟨rfl, Below.refl _ _⟩
                      · have e44 : a.tmps[44]?.getD undef = .bool false := F.dep 2 44 (by kernel_rfl) rfl
                        have e54 : a.tmps[54]?.getD undef = .bool false := F.dep 12 54 (by kernel_rfl) rfl
                        refine wpOp_step rfl (fun K hK => ?_)
                        refine Eq.mpr (if_pos (by rfl)) ?_
                        go_simp
                        exact hK _ _ ⟨rfl, Below.refl _ _⟩
                    case fin =>
                      intro V hb
                      simp only [finV, List.set_cons_succ, List.set_cons_zero]
                      have hB2 := tr hBz hb
                      go_wp2
                      go_roundw
                      case rel => exact ⟨k + 1, by omega, by go_num, by rw [HS2.out], by rw [HS2.out], by rw [HN2.out]; try (first | rfl | go_num), hB2⟩
                      case measure => simp [intOf]; omega
                  · have HN2 := Lib.hid (show runsTo xs (k + 1) = R + 1 by rw [← HRr.out]; show (if k = 0 ∨ nth xs k ≠ nth xs (k - 1) then _ else _) = _; rw [if_pos]; rw [hi1]; exact .inr heq)
                    have hq2 : (nth xs i != nth xs k) = true := by simp [Ne.symm heq]
                    clear heq h0 hi1 hi
                    refine wp_region_vals follows_mixedB [some 42, some 43, some 44, some 45, some 46, some 47, some 48, some 49, some 50, some 51, some 52, some 53, some 54, some 55] (by kernel_rfl) [(.int .i64 (k : Int)), (.bool false), (.bool false), (.slice (some ⟨q, o, none⟩) n c), (.int .i64 (k : Int)), (.int .i64 (i : Int)), (.pointer (some ⟨q, o + i, none⟩)), (.int .i64 (nth xs i)), (.slice (some ⟨q, o, none⟩) n c), (.int .i64 (k : Int)), (.pointer (some ⟨q, o + k, none⟩)), (.int .i64 (nth xs k)), (.bool true), (.bool true)] rfl ?step ?fin
                    case step =>
                      intro i hi a V F
                      have hi : i < 14 := hi
                      have e : i = 0 ∨ i = 1 ∨ i = 2 ∨ i = 3 ∨ i = 4 ∨ i = 5 ∨ i = 6 ∨ i = 7 ∨ i = 8 ∨ i = 9 ∨ i = 10 ∨ i = 11 ∨ i = 12 ∨ i = 13 := by omega
                      clear hi
                      rcases e with rfl | rfl | rfl | rfl | rfl | rfl | rfl | rfl | rfl | rfl | rfl | rfl | rfl | rfl
                      · have e8 : a.tmps[8]?.getD undef = (.int .i64 (k : Int)) := (F.kept 8 (by kernel_rfl)).trans rfl
                        refine wpOp_step rfl (fun K hK => ?_)
                        refine Eq.mpr (if_pos (by rfl)) ?_
                        go_simp
                        exact hK _ _ ⟨rfl, Below.refl _ _⟩
                      · have e42 : a.tmps[42]?.getD undef = (.int .i64 (k : Int)) := F.dep 0 42 (by kernel_rfl) rfl
                        refine wpOp_step rfl (fun K hK => ?_)
                        refine Eq.mpr (if_pos (by rfl)) ?_
                        go_simp
                        exact hK _ _ ⟨rfl, Below.refl _ _⟩
                      · have e43 : a.tmps[43]?.getD undef = .bool false := F.dep 1 43 (by kernel_rfl) rfl
                        refine wpOp_step rfl (fun K hK => ?_)
                        refine Eq.mpr (if_pos (by rfl)) ?_
                        go_simp
                        exact hK _ _ ⟨rfl, Below.refl _ _⟩
                      · have e0 : a.tmps[0]?.getD undef = (.slice (some ⟨q, o, none⟩) n c) := (F.kept 0 (by kernel_rfl)).trans rfl
                        have e44 : a.tmps[44]?.getD undef = .bool false := F.dep 2 44 (by kernel_rfl) rfl
                        refine wpOp_step rfl (fun K hK => ?_)
                        refine Eq.mpr (if_pos (wanted_of rfl rfl e44)) ?_
                        go_simp
                        exact hK _ _ ⟨rfl, Below.refl _ _⟩
                      · have e8 : a.tmps[8]?.getD undef = (.int .i64 (k : Int)) := (F.kept 8 (by kernel_rfl)).trans rfl
                        have e44 : a.tmps[44]?.getD undef = .bool false := F.dep 2 44 (by kernel_rfl) rfl
                        refine wpOp_step rfl (fun K hK => ?_)
                        refine Eq.mpr (if_pos (wanted_of rfl rfl e44)) ?_
                        go_simp
                        exact hK _ _ ⟨rfl, Below.refl _ _⟩
                      · have e46 : a.tmps[46]?.getD undef = (.int .i64 (k : Int)) := F.dep 4 46 (by kernel_rfl) rfl
                        have e44 : a.tmps[44]?.getD undef = .bool false := F.dep 2 44 (by kernel_rfl) rfl
                        refine wpOp_step rfl (fun K hK => ?_)
                        refine Eq.mpr (if_pos (wanted_of rfl rfl e44)) ?_
                        go_simp
                        exact hK _ _ ⟨rfl, Below.refl _ _⟩
                      · have e45 : a.tmps[45]?.getD undef = (.slice (some ⟨q, o, none⟩) n c) := F.dep 3 45 (by kernel_rfl) rfl
                        have e47 : a.tmps[47]?.getD undef = (.int .i64 (i : Int)) := F.dep 5 47 (by kernel_rfl) rfl
                        have e44 : a.tmps[44]?.getD undef = .bool false := F.dep 2 44 (by kernel_rfl) rfl
                        refine wpOp_step rfl (fun K hK => ?_)
                        refine Eq.mpr (if_pos (wanted_of rfl rfl e44)) ?_
                        go_simp
                        exact hK _ _ ⟨rfl, Below.refl _ _⟩
                      · have e48 : a.tmps[48]?.getD undef = (.pointer (some ⟨q, o + i, none⟩)) := F.dep 6 48 (by kernel_rfl) rfl
                        have e44 : a.tmps[44]?.getD undef = .bool false := F.dep 2 44 (by kernel_rfl) rfl
                        refine wpOp_step rfl (fun K hK => ?_)
                        refine Eq.mpr (if_pos (wanted_of rfl rfl e44)) ?_
                        have hci : V.cell? ⟨q, o + i, none⟩ = some (.int .i64 (nth xs i)) := cell_at (hRw.below F.below (Nat.le_refl _)) hix
                        go_simp
                        exact hK _ _ ⟨rfl, Below.refl _ _⟩
                      · have e0 : a.tmps[0]?.getD undef = (.slice (some ⟨q, o, none⟩) n c) := (F.kept 0 (by kernel_rfl)).trans rfl
                        have e44 : a.tmps[44]?.getD undef = .bool false := F.dep 2 44 (by kernel_rfl) rfl
                        refine wpOp_step rfl (fun K hK => ?_)
                        refine Eq.mpr (if_pos (wanted_of rfl rfl e44)) ?_
                        go_simp
                        exact hK _ _ ⟨rfl, Below.refl _ _⟩
                      · have e8 : a.tmps[8]?.getD undef = (.int .i64 (k : Int)) := (F.kept 8 (by kernel_rfl)).trans rfl
                        have e44 : a.tmps[44]?.getD undef = .bool false := F.dep 2 44 (by kernel_rfl) rfl
                        refine wpOp_step rfl (fun K hK => ?_)
                        refine Eq.mpr (if_pos (wanted_of rfl rfl e44)) ?_
                        go_simp
                        exact hK _ _ ⟨rfl, Below.refl _ _⟩
                      · have e50 : a.tmps[50]?.getD undef = (.slice (some ⟨q, o, none⟩) n c) := F.dep 8 50 (by kernel_rfl) rfl
                        have e51 : a.tmps[51]?.getD undef = (.int .i64 (k : Int)) := F.dep 9 51 (by kernel_rfl) rfl
                        have e44 : a.tmps[44]?.getD undef = .bool false := F.dep 2 44 (by kernel_rfl) rfl
                        refine wpOp_step rfl (fun K hK => ?_)
                        refine Eq.mpr (if_pos (wanted_of rfl rfl e44)) ?_
                        go_simp
                        exact hK _ _ ⟨rfl, Below.refl _ _⟩
                      · have e52 : a.tmps[52]?.getD undef = (.pointer (some ⟨q, o + k, none⟩)) := F.dep 10 52 (by kernel_rfl) rfl
                        have e44 : a.tmps[44]?.getD undef = .bool false := F.dep 2 44 (by kernel_rfl) rfl
                        refine wpOp_step rfl (fun K hK => ?_)
                        refine Eq.mpr (if_pos (wanted_of rfl rfl e44)) ?_
                        have hck : V.cell? ⟨q, o + k, none⟩ = some (.int .i64 (nth xs k)) := cell_at (hRw.below F.below (Nat.le_refl _)) hkx
                        go_simp
                        exact hK _ _ ⟨rfl, Below.refl _ _⟩
                      · have e49 : a.tmps[49]?.getD undef = (.int .i64 (nth xs i)) := F.dep 7 49 (by kernel_rfl) rfl
                        have e53 : a.tmps[53]?.getD undef = (.int .i64 (nth xs k)) := F.dep 11 53 (by kernel_rfl) rfl
                        have e44 : a.tmps[44]?.getD undef = .bool false := F.dep 2 44 (by kernel_rfl) rfl
                        refine wpOp_step rfl (fun K hK => ?_)
                        refine Eq.mpr (if_pos (wanted_of rfl rfl e44)) ?_
                        go_simp
                        exact hK _ _ ⟨rfl, Below.refl _ _⟩
                      · have e44 : a.tmps[44]?.getD undef = .bool false := F.dep 2 44 (by kernel_rfl) rfl
                        have e54 : a.tmps[54]?.getD undef = .bool true := F.dep 12 54 (by kernel_rfl) rfl
                        refine wpOp_step rfl (fun K hK => ?_)
                        refine Eq.mpr (if_pos (by rfl)) ?_
                        go_simp
                        exact hK _ _ ⟨rfl, Below.refl _ _⟩
                    case fin =>
                      intro V hb
                      simp only [finV, List.set_cons_succ, List.set_cons_zero]
                      have hB2 := tr hBz hb
                      go_wp2
                      go_roundw
                      case rel => exact ⟨k + 1, by omega, by go_num, by rw [HS2.out], by rw [HS2.out], by rw [HN2.out]; try (first | rfl | go_num), hB2⟩
                      case measure => simp [intOf]; omega
        · have HNj := Lib.hid ((run_count xs k n j hj HA.out (.inl (by omega))).symm.trans HN.out)
          have hIn : (n : Int) ≤ (I : Int) := by omega
          have hId : decide (I < n) = false := decide_eq_false (by omega)
          have HI := Lib.hid hI
          clear hI
          obtain rfl : N = j := HNj.out.symm
          go_wp2
          refine wp_region_vals follows_mixedB [some 16, some 17, some 18, some 19, some 20, some 21, some 22, some 23, some 24, some 25, some 26, some 27, some 28, some 29, some 30, some 31, some 32, some 33, some 34] (by kernel_rfl) [(.int .i64 (k : Int)), (.int .i64 (N : Int)), (.int .i64 (I : Int)), (.slice (some ⟨q, o, none⟩) n c), (.int .i64 (n : Int)), (.bool false), (.bool false), (undef), (undef), (undef), (undef), (undef), (undef), (undef), (undef), (undef), (undef), (undef), (.bool false)] rfl ?step ?fin
          case step =>
            intro i hi a V F
            have hi : i < 19 := hi
            have e : i = 0 ∨ i = 1 ∨ i = 2 ∨ i = 3 ∨ i = 4 ∨ i = 5 ∨ i = 6 ∨ i = 7 ∨ i = 8 ∨ i = 9 ∨ i = 10 ∨ i = 11 ∨ i = 12 ∨ i = 13 ∨ i = 14 ∨ i = 15 ∨ i = 16 ∨ i = 17 ∨ i = 18 := by omega
            clear hi
            rcases e with rfl | rfl | rfl | rfl | rfl | rfl | rfl | rfl | rfl | rfl | rfl | rfl | rfl | rfl | rfl | rfl | rfl | rfl | rfl
            · have e8 : a.tmps[8]?.getD undef = (.int .i64 (k : Int)) := (F.kept 8 (by kernel_rfl)).trans rfl
              refine wpOp_step rfl (fun K hK => ?_)
              refine Eq.mpr (if_pos (by rfl)) ?_
              go_simp
              exact hK _ _ ⟨rfl, Below.refl _ _⟩
            · have e9 : a.tmps[9]?.getD undef = (.int .i64 (N : Int)) := (F.kept 9 (by kernel_rfl)).trans rfl
              refine wpOp_step rfl (fun K hK => ?_)
              refine Eq.mpr (if_pos (by rfl)) ?_
              go_simp
              exact hK _ _ ⟨rfl, Below.refl _ _⟩
            · have e16 : a.tmps[16]?.getD undef = (.int .i64 (k : Int)) := F.dep 0 16 (by kernel_rfl) rfl
              have e17 : a.tmps[17]?.getD undef = (.int .i64 (N : Int)) := F.dep 1 17 (by kernel_rfl) rfl
              refine wpOp_step rfl (fun K hK => ?_)
              refine Eq.mpr (if_pos (by rfl)) ?_
              go_simp
              exact hK _ _ ⟨rfl, Below.refl _ _⟩
            · have e0 : a.tmps[0]?.getD undef = (.slice (some ⟨q, o, none⟩) n c) := (F.kept 0 (by kernel_rfl)).trans rfl
              refine wpOp_step rfl (fun K hK => ?_)
              refine Eq.mpr (if_pos (by rfl)) ?_
              go_simp
              exact hK _ _ ⟨rfl, Below.refl _ _⟩
            · have e19 : a.tmps[19]?.getD undef = (.slice (some ⟨q, o, none⟩) n c) := F.dep 3 19 (by kernel_rfl) rfl
              refine wpOp_step rfl (fun K hK => ?_)
              refine Eq.mpr (if_pos (by rfl)) ?_
              go_simp
              exact hK _ _ ⟨rfl, Below.refl _ _⟩
            · have e18 : a.tmps[18]?.getD undef = (.int .i64 (I : Int)) := F.dep 2 18 (by kernel_rfl) rfl
              have e20 : a.tmps[20]?.getD undef = (.int .i64 (n : Int)) := F.dep 4 20 (by kernel_rfl) rfl
              refine wpOp_step rfl (fun K hK => ?_)
              refine Eq.mpr (if_pos (by rfl)) ?_
              go_simp
              exact hK _ _ ⟨rfl, Below.refl _ _⟩
            · have e21 : a.tmps[21]?.getD undef = .bool false := F.dep 5 21 (by kernel_rfl) rfl
              refine wpOp_step rfl (fun K hK => ?_)
              refine Eq.mpr (if_pos (by rfl)) ?_
              go_simp
              exact hK _ _ ⟨rfl, Below.refl _ _⟩
            · have e0 : a.tmps[0]?.getD undef = (.slice (some ⟨q, o, none⟩) n c) := (F.kept 0 (by kernel_rfl)).trans rfl
              have e22 : a.tmps[22]?.getD undef = .bool false := F.dep 6 22 (by kernel_rfl) rfl
              refine wpOp_step rfl (fun K hK => ?_)
              refine Eq.mpr (if_neg (unwanted_of rfl rfl e22 (by decide))) ?_
              exact hK _ _ ⟨rfl, Below.refl _ _⟩
            · have e8 : a.tmps[8]?.getD undef = (.int .i64 (k : Int)) := (F.kept 8 (by kernel_rfl)).trans rfl
              have e22 : a.tmps[22]?.getD undef = .bool false := F.dep 6 22 (by kernel_rfl) rfl
              refine wpOp_step rfl (fun K hK => ?_)
              refine Eq.mpr (if_neg (unwanted_of rfl rfl e22 (by decide))) ?_
              exact hK _ _ ⟨rfl, Below.refl _ _⟩
            · have e9 : a.tmps[9]?.getD undef = (.int .i64 (N : Int)) := (F.kept 9 (by kernel_rfl)).trans rfl
              have e22 : a.tmps[22]?.getD undef = .bool false := F.dep 6 22 (by kernel_rfl) rfl
              refine wpOp_step rfl (fun K hK => ?_)
              refine Eq.mpr (if_neg (unwanted_of rfl rfl e22 (by decide))) ?_
              exact hK _ _ ⟨rfl, Below.refl _ _⟩
            · have e24 : a.tmps[24]?.getD undef = undef := F.dep 8 24 (by kernel_rfl) rfl
              have e25 : a.tmps[25]?.getD undef = undef := F.dep 9 25 (by kernel_rfl) rfl
              have e22 : a.tmps[22]?.getD undef = .bool false := F.dep 6 22 (by kernel_rfl) rfl
              refine wpOp_step rfl (fun K hK => ?_)
              refine Eq.mpr (if_neg (unwanted_of rfl rfl e22 (by decide))) ?_
              exact hK _ _ ⟨rfl, Below.refl _ _⟩
            · have e23 : a.tmps[23]?.getD undef = undef := F.dep 7 23 (by kernel_rfl) rfl
              have e26 : a.tmps[26]?.getD undef = undef := F.dep 10 26 (by kernel_rfl) rfl
              have e22 : a.tmps[22]?.getD undef = .bool false := F.dep 6 22 (by kernel_rfl) rfl
              refine wpOp_step rfl (fun K hK => ?_)
              refine Eq.mpr (if_neg (unwanted_of rfl rfl e22 (by decide))) ?_
              exact hK _ _ ⟨rfl, Below.refl _ _⟩
            · have e27 : a.tmps[27]?.getD undef = undef := F.dep 11 27 (by kernel_rfl) rfl
              have e22 : a.tmps[22]?.getD undef = .bool false := F.dep 6 22 (by kernel_rfl) rfl
              refine wpOp_step rfl (fun K hK => ?_)
              refine Eq.mpr (if_neg (unwanted_of rfl rfl e22 (by decide))) ?_
              exact hK _ _ ⟨rfl, Below.refl _ _⟩
            · have e0 : a.tmps[0]?.getD undef = (.slice (some ⟨q, o, none⟩) n c) := (F.kept 0 (by kernel_rfl)).trans rfl
              have e22 : a.tmps[22]?.getD undef = .bool false := F.dep 6 22 (by kernel_rfl) rfl
              refine wpOp_step rfl (fun K hK => ?_)
              refine Eq.mpr (if_neg (unwanted_of rfl rfl e22 (by decide))) ?_
              exact hK _ _ ⟨rfl, Below.refl _ _⟩
            · have e8 : a.tmps[8]?.getD undef = (.int .i64 (k : Int)) := (F.kept 8 (by kernel_rfl)).trans rfl
              have e22 : a.tmps[22]?.getD undef = .bool false := F.dep 6 22 (by kernel_rfl) rfl
              refine wpOp_step rfl (fun K hK => ?_)
              refine Eq.mpr (if_neg (unwanted_of rfl rfl e22 (by decide))) ?_
              exact hK _ _ ⟨rfl, Below.refl _ _⟩
            · have e29 : a.tmps[29]?.getD undef = undef := F.dep 13 29 (by kernel_rfl) rfl
              have e30 : a.tmps[30]?.getD undef = undef := F.dep 14 30 (by kernel_rfl) rfl
              have e22 : a.tmps[22]?.getD undef = .bool false := F.dep 6 22 (by kernel_rfl) rfl
              refine wpOp_step rfl (fun K hK => ?_)
              refine Eq.mpr (if_neg (unwanted_of rfl rfl e22 (by decide))) ?_
              exact hK _ _ ⟨rfl, Below.refl _ _⟩
            · have e31 : a.tmps[31]?.getD undef = undef := F.dep 15 31 (by kernel_rfl) rfl
              have e22 : a.tmps[22]?.getD undef = .bool false := F.dep 6 22 (by kernel_rfl) rfl
              refine wpOp_step rfl (fun K hK => ?_)
              refine Eq.mpr (if_neg (unwanted_of rfl rfl e22 (by decide))) ?_
              exact hK _ _ ⟨rfl, Below.refl _ _⟩
            · have e28 : a.tmps[28]?.getD undef = undef := F.dep 12 28 (by kernel_rfl) rfl
              have e32 : a.tmps[32]?.getD undef = undef := F.dep 16 32 (by kernel_rfl) rfl
              have e22 : a.tmps[22]?.getD undef = .bool false := F.dep 6 22 (by kernel_rfl) rfl
              refine wpOp_step rfl (fun K hK => ?_)
              refine Eq.mpr (if_neg (unwanted_of rfl rfl e22 (by decide))) ?_
              exact hK _ _ ⟨rfl, Below.refl _ _⟩
            · have e22 : a.tmps[22]?.getD undef = .bool false := F.dep 6 22 (by kernel_rfl) rfl
              have e33 : a.tmps[33]?.getD undef = undef := F.dep 17 33 (by kernel_rfl) rfl
              refine wpOp_step rfl (fun K hK => ?_)
              refine Eq.mpr (if_pos (by rfl)) ?_
              go_simp
              exact hK _ _ ⟨rfl, Below.refl _ _⟩
          case fin =>
            intro V hb
            simp only [finV, List.set_cons_succ, List.set_cons_zero]
            have hBz := tr hbz hb
            replace hRw := hRw.below hb (Nat.le_refl _)
            clear hb hbz
            by_cases hLD : L < N
            · have HS2 := Lib.hid (show bestTo xs n (k + 1) = (k, N) by rw [HST.out, HB.out, if_pos hLD])
              have hLd : decide (L < N) = true := decide_eq_true hLD
              have hLi : (L : Int) < (N : Int) := by omega
              clear hLD HST HB
              go_wp2
              by_cases h0 : k = 0
              · have HN2 := Lib.hid (show runsTo xs (k + 1) = R + 1 by rw [← HRr.out]; show (if k = 0 ∨ _ then _ else _) = _; rw [if_pos (.inl h0)])
                have hz : ((k : Int) == 0) = true := by rw [h0]; rfl
                clear h0
                refine wp_region_vals follows_mixedB [some 42, some 43, some 44, some 45, some 46, some 47, some 48, some 49, some 50, some 51, some 52, some 53, some 54, some 55] (by kernel_rfl) [(.int .i64 (k : Int)), (.bool true), (.bool true), (undef), (undef), (undef), (undef), (undef), (undef), (undef), (undef), (undef), (undef), (.bool true)] rfl ?step ?fin
                case step =>
                  intro i hi a V F
                  have hi : i < 14 := hi
                  have e : i = 0 ∨ i = 1 ∨ i = 2 ∨ i = 3 ∨ i = 4 ∨ i = 5 ∨ i = 6 ∨ i = 7 ∨ i = 8 ∨ i = 9 ∨ i = 10 ∨ i = 11 ∨ i = 12 ∨ i = 13 := by omega
                  clear hi
                  rcases e with rfl | rfl | rfl | rfl | rfl | rfl | rfl | rfl | rfl | rfl | rfl | rfl | rfl | rfl
                  · have e8 : a.tmps[8]?.getD undef = (.int .i64 (k : Int)) := (F.kept 8 (by kernel_rfl)).trans rfl
                    refine wpOp_step rfl (fun K hK => ?_)
                    refine Eq.mpr (if_pos (by rfl)) ?_
                    go_simp
                    exact hK _ _ ⟨rfl, Below.refl _ _⟩
                  · have e42 : a.tmps[42]?.getD undef = (.int .i64 (k : Int)) := F.dep 0 42 (by kernel_rfl) rfl
                    refine wpOp_step rfl (fun K hK => ?_)
                    refine Eq.mpr (if_pos (by rfl)) ?_
                    go_simp
                    exact hK _ _ ⟨rfl, Below.refl _ _⟩
                  · have e43 : a.tmps[43]?.getD undef = .bool true := F.dep 1 43 (by kernel_rfl) rfl
                    refine wpOp_step rfl (fun K hK => ?_)
                    refine Eq.mpr (if_pos (by rfl)) ?_
                    go_simp
                    exact hK _ _ ⟨rfl, Below.refl _ _⟩
                  · have e0 : a.tmps[0]?.getD undef = (.slice (some ⟨q, o, none⟩) n c) := (F.kept 0 (by kernel_rfl)).trans rfl
                    have e44 : a.tmps[44]?.getD undef = .bool true := F.dep 2 44 (by kernel_rfl) rfl
                    refine wpOp_step rfl (fun K hK => ?_)
                    refine Eq.mpr (if_neg (unwanted_of rfl rfl e44 (by decide))) ?_
                    exact hK _ _ ⟨rfl, Below.refl _ _⟩
                  · have e8 : a.tmps[8]?.getD undef = (.int .i64 (k : Int)) := (F.kept 8 (by kernel_rfl)).trans rfl
                    have e44 : a.tmps[44]?.getD undef = .bool true := F.dep 2 44 (by kernel_rfl) rfl
                    refine wpOp_step rfl (fun K hK => ?_)
                    refine Eq.mpr (if_neg (unwanted_of rfl rfl e44 (by decide))) ?_
                    exact hK _ _ ⟨rfl, Below.refl _ _⟩
                  · have e46 : a.tmps[46]?.getD undef = undef := F.dep 4 46 (by kernel_rfl) rfl
                    have e44 : a.tmps[44]?.getD undef = .bool true := F.dep 2 44 (by kernel_rfl) rfl
                    refine wpOp_step rfl (fun K hK => ?_)
                    refine Eq.mpr (if_neg (unwanted_of rfl rfl e44 (by decide))) ?_
                    exact hK _ _ ⟨rfl, Below.refl _ _⟩
                  · have e45 : a.tmps[45]?.getD undef = undef := F.dep 3 45 (by kernel_rfl) rfl
                    have e47 : a.tmps[47]?.getD undef = undef := F.dep 5 47 (by kernel_rfl) rfl
                    have e44 : a.tmps[44]?.getD undef = .bool true := F.dep 2 44 (by kernel_rfl) rfl
                    refine wpOp_step rfl (fun K hK => ?_)
                    refine Eq.mpr (if_neg (unwanted_of rfl rfl e44 (by decide))) ?_
                    exact hK _ _ ⟨rfl, Below.refl _ _⟩
                  · have e48 : a.tmps[48]?.getD undef = undef := F.dep 6 48 (by kernel_rfl) rfl
                    have e44 : a.tmps[44]?.getD undef = .bool true := F.dep 2 44 (by kernel_rfl) rfl
                    refine wpOp_step rfl (fun K hK => ?_)
                    refine Eq.mpr (if_neg (unwanted_of rfl rfl e44 (by decide))) ?_
                    exact hK _ _ ⟨rfl, Below.refl _ _⟩
                  · have e0 : a.tmps[0]?.getD undef = (.slice (some ⟨q, o, none⟩) n c) := (F.kept 0 (by kernel_rfl)).trans rfl
                    have e44 : a.tmps[44]?.getD undef = .bool true := F.dep 2 44 (by kernel_rfl) rfl
                    refine wpOp_step rfl (fun K hK => ?_)
                    refine Eq.mpr (if_neg (unwanted_of rfl rfl e44 (by decide))) ?_
                    exact hK _ _ ⟨rfl, Below.refl _ _⟩
                  · have e8 : a.tmps[8]?.getD undef = (.int .i64 (k : Int)) := (F.kept 8 (by kernel_rfl)).trans rfl
                    have e44 : a.tmps[44]?.getD undef = .bool true := F.dep 2 44 (by kernel_rfl) rfl
                    refine wpOp_step rfl (fun K hK => ?_)
                    refine Eq.mpr (if_neg (unwanted_of rfl rfl e44 (by decide))) ?_
                    exact hK _ _ ⟨rfl, Below.refl _ _⟩
                  · have e50 : a.tmps[50]?.getD undef = undef := F.dep 8 50 (by kernel_rfl) rfl
                    have e51 : a.tmps[51]?.getD undef = undef := F.dep 9 51 (by kernel_rfl) rfl
                    have e44 : a.tmps[44]?.getD undef = .bool true := F.dep 2 44 (by kernel_rfl) rfl
                    refine wpOp_step rfl (fun K hK => ?_)
                    refine Eq.mpr (if_neg (unwanted_of rfl rfl e44 (by decide))) ?_
                    exact hK _ _ ⟨rfl, Below.refl _ _⟩
                  · have e52 : a.tmps[52]?.getD undef = undef := F.dep 10 52 (by kernel_rfl) rfl
                    have e44 : a.tmps[44]?.getD undef = .bool true := F.dep 2 44 (by kernel_rfl) rfl
                    refine wpOp_step rfl (fun K hK => ?_)
                    refine Eq.mpr (if_neg (unwanted_of rfl rfl e44 (by decide))) ?_
                    exact hK _ _ ⟨rfl, Below.refl _ _⟩
                  · have e49 : a.tmps[49]?.getD undef = undef := F.dep 7 49 (by kernel_rfl) rfl
                    have e53 : a.tmps[53]?.getD undef = undef := F.dep 11 53 (by kernel_rfl) rfl
                    have e44 : a.tmps[44]?.getD undef = .bool true := F.dep 2 44 (by kernel_rfl) rfl
                    refine wpOp_step rfl (fun K hK => ?_)
                    refine Eq.mpr (if_neg (unwanted_of rfl rfl e44 (by decide))) ?_
                    exact hK _ _ ⟨rfl, Below.refl _ _⟩
                  · have e44 : a.tmps[44]?.getD undef = .bool true := F.dep 2 44 (by kernel_rfl) rfl
                    have e54 : a.tmps[54]?.getD undef = undef := F.dep 12 54 (by kernel_rfl) rfl
                    refine wpOp_step rfl (fun K hK => ?_)
                    refine Eq.mpr (if_pos (by rfl)) ?_
                    go_simp
                    exact hK _ _ ⟨rfl, Below.refl _ _⟩
                case fin =>
                  intro V hb
                  simp only [finV, List.set_cons_succ, List.set_cons_zero]
                  have hB2 := tr hBz hb
                  go_wp2
                  go_roundw
                  case rel => exact ⟨k + 1, by omega, by go_num, by rw [HS2.out], by rw [HS2.out], by rw [HN2.out]; try (first | rfl | go_num), hB2⟩
                  case measure => simp [intOf]; omega
              · obtain ⟨i, hi⟩ : ∃ i, k = i + 1 := ⟨k - 1, by omega⟩
                have hix : i < xs.length := by omega
                have hz : ((k : Int) == 0) = false := by simp; omega
                have hw3 : IntKind.i64.wrap ((k : Int) - 1) = (i : Int) := by
                  rw [hi]
                  push_cast
                  rw [Int.add_sub_cancel]
                  exact IntWalk.i64_in _ (by omega)
                have hin : (i : Int) < (n : Int) := by omega
                have hi1 : k - 1 = i := by omega
                by_cases heq : nth xs k = nth xs i
                · have HN2 := Lib.hid (show runsTo xs (k + 1) = R by rw [← HRr.out]; show (if k = 0 ∨ nth xs k ≠ nth xs (k - 1) then _ else _) = _; rw [if_neg]; rw [hi1]; rintro (h | h); omega; exact h heq)
                  have hq2 : (nth xs i != nth xs k) = false := by simp [heq]
                  clear heq h0 hi1 hi
                  refine wp_region_vals follows_mixedB [some 42, some 43, some 44, some 45, some 46, some 47, some 48, some 49, some 50, some 51, some 52, some 53, some 54, some 55] (by kernel_rfl) [(.int .i64 (k : Int)), (.bool false), (.bool false), (.slice (some ⟨q, o, none⟩) n c), (.int .i64 (k : Int)), (.int .i64 (i : Int)), (.pointer (some ⟨q, o + i, none⟩)), (.int .i64 (nth xs i)), (.slice (some ⟨q, o, none⟩) n c), (.int .i64 (k : Int)), (.pointer (some ⟨q, o + k, none⟩)), (.int .i64 (nth xs k)), (.bool false), (.bool false)] rfl ?step ?fin
                  case step =>
                    intro i hi a V F
                    have hi : i < 14 := hi
                    have e : i = 0 ∨ i = 1 ∨ i = 2 ∨ i = 3 ∨ i = 4 ∨ i = 5 ∨ i = 6 ∨ i = 7 ∨ i = 8 ∨ i = 9 ∨ i = 10 ∨ i = 11 ∨ i = 12 ∨ i = 13 := by omega
                    clear hi
                    rcases e with rfl | rfl | rfl | rfl | rfl | rfl | rfl | rfl | rfl | rfl | rfl | rfl | rfl | rfl
                    · have e8 : a.tmps[8]?.getD undef = (.int .i64 (k : Int)) := (F.kept 8 (by kernel_rfl)).trans rfl
                      refine wpOp_step rfl (fun K hK => ?_)
                      refine Eq.mpr (if_pos (by rfl)) ?_
                      go_simp
                      exact hK _ _ ⟨rfl, Below.refl _ _⟩
                    · have e42 : a.tmps[42]?.getD undef = (.int .i64 (k : Int)) := F.dep 0 42 (by kernel_rfl) rfl
                      refine wpOp_step rfl (fun K hK => ?_)
                      refine Eq.mpr (if_pos (by rfl)) ?_
                      go_simp
                      exact hK _ _ ⟨rfl, Below.refl _ _⟩
                    · have e43 : a.tmps[43]?.getD undef = .bool false := F.dep 1 43 (by kernel_rfl) rfl
                      refine wpOp_step rfl (fun K hK => ?_)
                      refine Eq.mpr (if_pos (by rfl)) ?_
                      go_simp
                      exact hK _ _ ⟨rfl, Below.refl _ _⟩
                    · have e0 : a.tmps[0]?.getD undef = (.slice (some ⟨q, o, none⟩) n c) := (F.kept 0 (by kernel_rfl)).trans rfl
                      have e44 : a.tmps[44]?.getD undef = .bool false := F.dep 2 44 (by kernel_rfl) rfl
                      refine wpOp_step rfl (fun K hK => ?_)
                      refine Eq.mpr (if_pos (wanted_of rfl rfl e44)) ?_
                      go_simp
                      exact hK _ _ ⟨rfl, Below.refl _ _⟩
                    · have e8 : a.tmps[8]?.getD undef = (.int .i64 (k : Int)) := (F.kept 8 (by kernel_rfl)).trans rfl
                      have e44 : a.tmps[44]?.getD undef = .bool false := F.dep 2 44 (by kernel_rfl) rfl
                      refine wpOp_step rfl (fun K hK => ?_)
                      refine Eq.mpr (if_pos (wanted_of rfl rfl e44)) ?_
                      go_simp
                      exact hK _ _ ⟨rfl, Below.refl _ _⟩
                    · have e46 : a.tmps[46]?.getD undef = (.int .i64 (k : Int)) := F.dep 4 46 (by kernel_rfl) rfl
                      have e44 : a.tmps[44]?.getD undef = .bool false := F.dep 2 44 (by kernel_rfl) rfl
                      refine wpOp_step rfl (fun K hK => ?_)
                      refine Eq.mpr (if_pos (wanted_of rfl rfl e44)) ?_
                      go_simp
                      exact hK _ _ ⟨rfl, Below.refl _ _⟩
                    · have e45 : a.tmps[45]?.getD undef = (.slice (some ⟨q, o, none⟩) n c) := F.dep 3 45 (by kernel_rfl) rfl
                      have e47 : a.tmps[47]?.getD undef = (.int .i64 (i : Int)) := F.dep 5 47 (by kernel_rfl) rfl
                      have e44 : a.tmps[44]?.getD undef = .bool false := F.dep 2 44 (by kernel_rfl) rfl
                      refine wpOp_step rfl (fun K hK => ?_)
                      refine Eq.mpr (if_pos (wanted_of rfl rfl e44)) ?_
                      go_simp
                      exact hK _ _ ⟨rfl, Below.refl _ _⟩
                    · have e48 : a.tmps[48]?.getD undef = (.pointer (some ⟨q, o + i, none⟩)) := F.dep 6 48 (by kernel_rfl) rfl
                      have e44 : a.tmps[44]?.getD undef = .bool false := F.dep 2 44 (by kernel_rfl) rfl
                      refine wpOp_step rfl (fun K hK => ?_)
                      refine Eq.mpr (if_pos (wanted_of rfl rfl e44)) ?_
                      have hci : V.cell? ⟨q, o + i, none⟩ = some (.int .i64 (nth xs i)) := cell_at (hRw.below F.below (Nat.le_refl _)) hix
                      go_simp
                      exact hK _ _ ⟨rfl, Below.refl _ _⟩
                    · have e0 : a.tmps[0]?.getD undef = (.slice (some ⟨q, o, none⟩) n c) := (F.kept 0 (by kernel_rfl)).trans rfl
                      have e44 : a.tmps[44]?.getD undef = .bool false := F.dep 2 44 (by kernel_rfl) rfl
                      refine wpOp_step rfl (fun K hK => ?_)
                      refine Eq.mpr (if_pos (wanted_of rfl rfl e44)) ?_
                      go_simp
                      exact hK _ _ ⟨rfl, Below.refl _ _⟩
                    · have e8 : a.tmps[8]?.getD undef = (.int .i64 (k : Int)) := (F.kept 8 (by kernel_rfl)).trans rfl
                      have e44 : a.tmps[44]?.getD undef = .bool false := F.dep 2 44 (by kernel_rfl) rfl
                      refine wpOp_step rfl (fun K hK => ?_)
                      refine Eq.mpr (if_pos (wanted_of rfl rfl e44)) ?_
                      go_simp
                      exact hK _ _ ⟨rfl, Below.refl _ _⟩
                    · have e50 : a.tmps[50]?.getD undef = (.slice (some ⟨q, o, none⟩) n c) := F.dep 8 50 (by kernel_rfl) rfl
                      have e51 : a.tmps[51]?.getD undef = (.int .i64 (k : Int)) := F.dep 9 51 (by kernel_rfl) rfl
                      have e44 : a.tmps[44]?.getD undef = .bool false := F.dep 2 44 (by kernel_rfl) rfl
                      refine wpOp_step rfl (fun K hK => ?_)
                      refine Eq.mpr (if_pos (wanted_of rfl rfl e44)) ?_
                      go_simp
                      exact hK _ _ ⟨rfl, Below.refl _ _⟩
                    · have e52 : a.tmps[52]?.getD undef = (.pointer (some ⟨q, o + k, none⟩)) := F.dep 10 52 (by kernel_rfl) rfl
                      have e44 : a.tmps[44]?.getD undef = .bool false := F.dep 2 44 (by kernel_rfl) rfl
                      refine wpOp_step rfl (fun K hK => ?_)
                      refine Eq.mpr (if_pos (wanted_of rfl rfl e44)) ?_
                      have hck : V.cell? ⟨q, o + k, none⟩ = some (.int .i64 (nth xs k)) := cell_at (hRw.below F.below (Nat.le_refl _)) hkx
                      go_simp
                      exact hK _ _ ⟨rfl, Below.refl _ _⟩
                    · have e49 : a.tmps[49]?.getD undef = (.int .i64 (nth xs i)) := F.dep 7 49 (by kernel_rfl) rfl
                      have e53 : a.tmps[53]?.getD undef = (.int .i64 (nth xs k)) := F.dep 11 53 (by kernel_rfl) rfl
                      have e44 : a.tmps[44]?.getD undef = .bool false := F.dep 2 44 (by kernel_rfl) rfl
                      refine wpOp_step rfl (fun K hK => ?_)
                      refine Eq.mpr (if_pos (wanted_of rfl rfl e44)) ?_
                      go_simp
                      exact hK _ _ ⟨rfl, Below.refl _ _⟩
                    · have e44 : a.tmps[44]?.getD undef = .bool false := F.dep 2 44 (by kernel_rfl) rfl
                      have e54 : a.tmps[54]?.getD undef = .bool false := F.dep 12 54 (by kernel_rfl) rfl
                      refine wpOp_step rfl (fun K hK => ?_)
                      refine Eq.mpr (if_pos (by rfl)) ?_
                      go_simp
                      exact hK _ _ ⟨rfl, Below.refl _ _⟩
                  case fin =>
                    intro V hb
                    simp only [finV, List.set_cons_succ, List.set_cons_zero]
                    have hB2 := tr hBz hb
                    go_wp2
                    go_roundw
                    case rel => exact ⟨k + 1, by omega, by go_num, by rw [HS2.out], by rw [HS2.out], by rw [HN2.out]; try (first | rfl | go_num), hB2⟩
                    case measure => simp [intOf]; omega
                · have HN2 := Lib.hid (show runsTo xs (k + 1) = R + 1 by rw [← HRr.out]; show (if k = 0 ∨ nth xs k ≠ nth xs (k - 1) then _ else _) = _; rw [if_pos]; rw [hi1]; exact .inr heq)
                  have hq2 : (nth xs i != nth xs k) = true := by simp [Ne.symm heq]
                  clear heq h0 hi1 hi
                  refine wp_region_vals follows_mixedB [some 42, some 43, some 44, some 45, some 46, some 47, some 48, some 49, some 50, some 51, some 52, some 53, some 54, some 55] (by kernel_rfl) [(.int .i64 (k : Int)), (.bool false), (.bool false), (.slice (some ⟨q, o, none⟩) n c), (.int .i64 (k : Int)), (.int .i64 (i : Int)), (.pointer (some ⟨q, o + i, none⟩)), (.int .i64 (nth xs i)), (.slice (some ⟨q, o, none⟩) n c), (.int .i64 (k : Int)), (.pointer (some ⟨q, o + k, none⟩)), (.int .i64 (nth xs k)), (.bool true), (.bool true)] rfl ?step ?fin
                  case step =>
                    intro i hi a V F
                    have hi : i < 14 := hi
                    have e : i = 0 ∨ i = 1 ∨ i = 2 ∨ i = 3 ∨ i = 4 ∨ i = 5 ∨ i = 6 ∨ i = 7 ∨ i = 8 ∨ i = 9 ∨ i = 10 ∨ i = 11 ∨ i = 12 ∨ i = 13 := by omega
                    clear hi
                    rcases e with rfl | rfl | rfl | rfl | rfl | rfl | rfl | rfl | rfl | rfl | rfl | rfl | rfl | rfl
                    · have e8 : a.tmps[8]?.getD undef = (.int .i64 (k : Int)) := (F.kept 8 (by kernel_rfl)).trans rfl
                      refine wpOp_step rfl (fun K hK => ?_)
                      refine Eq.mpr (if_pos (by rfl)) ?_
                      go_simp
                      exact hK _ _ ⟨rfl, Below.refl _ _⟩
                    · have e42 : a.tmps[42]?.getD undef = (.int .i64 (k : Int)) := F.dep 0 42 (by kernel_rfl) rfl
                      refine wpOp_step rfl (fun K hK => ?_)
                      refine Eq.mpr (if_pos (by rfl)) ?_
                      go_simp
                      exact hK _ _ ⟨rfl, Below.refl _ _⟩
                    · have e43 : a.tmps[43]?.getD undef = .bool false := F.dep 1 43 (by kernel_rfl) rfl
                      refine wpOp_step rfl (fun K hK => ?_)
                      refine Eq.mpr (if_pos (by rfl)) ?_
                      go_simp
                      exact hK _ _ ⟨rfl, Below.refl _ _⟩
                    · have e0 : a.tmps[0]?.getD undef = (.slice (some ⟨q, o, none⟩) n c) := (F.kept 0 (by kernel_rfl)).trans rfl
                      have e44 : a.tmps[44]?.getD undef = .bool false := F.dep 2 44 (by kernel_rfl) rfl
                      refine wpOp_step rfl (fun K hK => ?_)
                      refine Eq.mpr (if_pos (wanted_of rfl rfl e44)) ?_
                      go_simp
                      exact hK _ _ ⟨rfl, Below.refl _ _⟩
                    · have e8 : a.tmps[8]?.getD undef = (.int .i64 (k : Int)) := (F.kept 8 (by kernel_rfl)).trans rfl
                      have e44 : a.tmps[44]?.getD undef = .bool false := F.dep 2 44 (by kernel_rfl) rfl
                      refine wpOp_step rfl (fun K hK => ?_)
                      refine Eq.mpr (if_pos (wanted_of rfl rfl e44)) ?_
                      go_simp
                      exact hK _ _ ⟨rfl, Below.refl _ _⟩
                    · have e46 : a.tmps[46]?.getD undef = (.int .i64 (k : Int)) := F.dep 4 46 (by kernel_rfl) rfl
                      have e44 : a.tmps[44]?.getD undef = .bool false := F.dep 2 44 (by kernel_rfl) rfl
                      refine wpOp_step rfl (fun K hK => ?_)
                      refine Eq.mpr (if_pos (wanted_of rfl rfl e44)) ?_
                      go_simp
                      exact hK _ _ ⟨rfl, Below.refl _ _⟩
                    · have e45 : a.tmps[45]?.getD undef = (.slice (some ⟨q, o, none⟩) n c) := F.dep 3 45 (by kernel_rfl) rfl
                      have e47 : a.tmps[47]?.getD undef = (.int .i64 (i : Int)) := F.dep 5 47 (by kernel_rfl) rfl
                      have e44 : a.tmps[44]?.getD undef = .bool false := F.dep 2 44 (by kernel_rfl) rfl
                      refine wpOp_step rfl (fun K hK => ?_)
                      refine Eq.mpr (if_pos (wanted_of rfl rfl e44)) ?_
                      go_simp
                      exact hK _ _ ⟨rfl, Below.refl _ _⟩
                    · have e48 : a.tmps[48]?.getD undef = (.pointer (some ⟨q, o + i, none⟩)) := F.dep 6 48 (by kernel_rfl) rfl
                      have e44 : a.tmps[44]?.getD undef = .bool false := F.dep 2 44 (by kernel_rfl) rfl
                      refine wpOp_step rfl (fun K hK => ?_)
                      refine Eq.mpr (if_pos (wanted_of rfl rfl e44)) ?_
                      have hci : V.cell? ⟨q, o + i, none⟩ = some (.int .i64 (nth xs i)) := cell_at (hRw.below F.below (Nat.le_refl _)) hix
                      go_simp
                      exact hK _ _ ⟨rfl, Below.refl _ _⟩
                    · have e0 : a.tmps[0]?.getD undef = (.slice (some ⟨q, o, none⟩) n c) := (F.kept 0 (by kernel_rfl)).trans rfl
                      have e44 : a.tmps[44]?.getD undef = .bool false := F.dep 2 44 (by kernel_rfl) rfl
                      refine wpOp_step rfl (fun K hK => ?_)
                      refine Eq.mpr (if_pos (wanted_of rfl rfl e44)) ?_
                      go_simp
                      exact hK _ _ ⟨rfl, Below.refl _ _⟩
                    · have e8 : a.tmps[8]?.getD undef = (.int .i64 (k : Int)) := (F.kept 8 (by kernel_rfl)).trans rfl
                      have e44 : a.tmps[44]?.getD undef = .bool false := F.dep 2 44 (by kernel_rfl) rfl
                      refine wpOp_step rfl (fun K hK => ?_)
                      refine Eq.mpr (if_pos (wanted_of rfl rfl e44)) ?_
                      go_simp
                      exact hK _ _ ⟨rfl, Below.refl _ _⟩
                    · have e50 : a.tmps[50]?.getD undef = (.slice (some ⟨q, o, none⟩) n c) := F.dep 8 50 (by kernel_rfl) rfl
                      have e51 : a.tmps[51]?.getD undef = (.int .i64 (k : Int)) := F.dep 9 51 (by kernel_rfl) rfl
                      have e44 : a.tmps[44]?.getD undef = .bool false := F.dep 2 44 (by kernel_rfl) rfl
                      refine wpOp_step rfl (fun K hK => ?_)
                      refine Eq.mpr (if_pos (wanted_of rfl rfl e44)) ?_
                      go_simp
                      exact hK _ _ ⟨rfl, Below.refl _ _⟩
                    · have e52 : a.tmps[52]?.getD undef = (.pointer (some ⟨q, o + k, none⟩)) := F.dep 10 52 (by kernel_rfl) rfl
                      have e44 : a.tmps[44]?.getD undef = .bool false := F.dep 2 44 (by kernel_rfl) rfl
                      refine wpOp_step rfl (fun K hK => ?_)
                      refine Eq.mpr (if_pos (wanted_of rfl rfl e44)) ?_
                      have hck : V.cell? ⟨q, o + k, none⟩ = some (.int .i64 (nth xs k)) := cell_at (hRw.below F.below (Nat.le_refl _)) hkx
                      go_simp
                      exact hK _ _ ⟨rfl, Below.refl _ _⟩
                    · have e49 : a.tmps[49]?.getD undef = (.int .i64 (nth xs i)) := F.dep 7 49 (by kernel_rfl) rfl
                      have e53 : a.tmps[53]?.getD undef = (.int .i64 (nth xs k)) := F.dep 11 53 (by kernel_rfl) rfl
                      have e44 : a.tmps[44]?.getD undef = .bool false := F.dep 2 44 (by kernel_rfl) rfl
                      refine wpOp_step rfl (fun K hK => ?_)
                      refine Eq.mpr (if_pos (wanted_of rfl rfl e44)) ?_
                      go_simp
                      exact hK _ _ ⟨rfl, Below.refl _ _⟩
                    · have e44 : a.tmps[44]?.getD undef = .bool false := F.dep 2 44 (by kernel_rfl) rfl
                      have e54 : a.tmps[54]?.getD undef = .bool true := F.dep 12 54 (by kernel_rfl) rfl
                      refine wpOp_step rfl (fun K hK => ?_)
                      refine Eq.mpr (if_pos (by rfl)) ?_
                      go_simp
                      exact hK _ _ ⟨rfl, Below.refl _ _⟩
                  case fin =>
                    intro V hb
                    simp only [finV, List.set_cons_succ, List.set_cons_zero]
                    have hB2 := tr hBz hb
                    go_wp2
                    go_roundw
                    case rel => exact ⟨k + 1, by omega, by go_num, by rw [HS2.out], by rw [HS2.out], by rw [HN2.out]; try (first | rfl | go_num), hB2⟩
                    case measure => simp [intOf]; omega
            · have HS2 := Lib.hid (show bestTo xs n (k + 1) = (S, L) by rw [HST.out, HB.out, if_neg hLD])
              have hLd : decide (L < N) = false := decide_eq_false hLD
              have hLi : (N : Int) ≤ (L : Int) := by omega
              clear hLD HST HB
              go_wp2
              by_cases h0 : k = 0
              · have HN2 := Lib.hid (show runsTo xs (k + 1) = R + 1 by rw [← HRr.out]; show (if k = 0 ∨ _ then _ else _) = _; rw [if_pos (.inl h0)])
                have hz : ((k : Int) == 0) = true := by rw [h0]; rfl
                clear h0
                refine wp_region_vals follows_mixedB [some 42, some 43, some 44, some 45, some 46, some 47, some 48, some 49, some 50, some 51, some 52, some 53, some 54, some 55] (by kernel_rfl) [(.int .i64 (k : Int)), (.bool true), (.bool true), (undef), (undef), (undef), (undef), (undef), (undef), (undef), (undef), (undef), (undef), (.bool true)] rfl ?step ?fin
                case step =>
                  intro i hi a V F
                  have hi : i < 14 := hi
                  have e : i = 0 ∨ i = 1 ∨ i = 2 ∨ i = 3 ∨ i = 4 ∨ i = 5 ∨ i = 6 ∨ i = 7 ∨ i = 8 ∨ i = 9 ∨ i = 10 ∨ i = 11 ∨ i = 12 ∨ i = 13 := by omega
                  clear hi
                  rcases e with rfl | rfl | rfl | rfl | rfl | rfl | rfl | rfl | rfl | rfl | rfl | rfl | rfl | rfl
                  · have e8 : a.tmps[8]?.getD undef = (.int .i64 (k : Int)) := (F.kept 8 (by kernel_rfl)).trans rfl
                    refine wpOp_step rfl (fun K hK => ?_)
                    refine Eq.mpr (if_pos (by rfl)) ?_
                    go_simp
                    exact hK _ _ ⟨rfl, Below.refl _ _⟩
                  · have e42 : a.tmps[42]?.getD undef = (.int .i64 (k : Int)) := F.dep 0 42 (by kernel_rfl) rfl
                    refine wpOp_step rfl (fun K hK => ?_)
                    refine Eq.mpr (if_pos (by rfl)) ?_
                    go_simp
                    exact hK _ _ ⟨rfl, Below.refl _ _⟩
                  · have e43 : a.tmps[43]?.getD undef = .bool true := F.dep 1 43 (by kernel_rfl) rfl
                    refine wpOp_step rfl (fun K hK => ?_)
                    refine Eq.mpr (if_pos (by rfl)) ?_
                    go_simp
                    exact hK _ _ ⟨rfl, Below.refl _ _⟩
                  · have e0 : a.tmps[0]?.getD undef = (.slice (some ⟨q, o, none⟩) n c) := (F.kept 0 (by kernel_rfl)).trans rfl
                    have e44 : a.tmps[44]?.getD undef = .bool true := F.dep 2 44 (by kernel_rfl) rfl
                    refine wpOp_step rfl (fun K hK => ?_)
                    refine Eq.mpr (if_neg (unwanted_of rfl rfl e44 (by decide))) ?_
                    exact hK _ _ ⟨rfl, Below.refl _ _⟩
                  · have e8 : a.tmps[8]?.getD undef = (.int .i64 (k : Int)) := (F.kept 8 (by kernel_rfl)).trans rfl
                    have e44 : a.tmps[44]?.getD undef = .bool true := F.dep 2 44 (by kernel_rfl) rfl
                    refine wpOp_step rfl (fun K hK => ?_)
                    refine Eq.mpr (if_neg (unwanted_of rfl rfl e44 (by decide))) ?_
                    exact hK _ _ ⟨rfl, Below.refl _ _⟩
                  · have e46 : a.tmps[46]?.getD undef = undef := F.dep 4 46 (by kernel_rfl) rfl
                    have e44 : a.tmps[44]?.getD undef = .bool true := F.dep 2 44 (by kernel_rfl) rfl
                    refine wpOp_step rfl (fun K hK => ?_)
                    refine Eq.mpr (if_neg (unwanted_of rfl rfl e44 (by decide))) ?_
                    exact hK _ _ ⟨rfl, Below.refl _ _⟩
                  · have e45 : a.tmps[45]?.getD undef = undef := F.dep 3 45 (by kernel_rfl) rfl
                    have e47 : a.tmps[47]?.getD undef = undef := F.dep 5 47 (by kernel_rfl) rfl
                    have e44 : a.tmps[44]?.getD undef = .bool true := F.dep 2 44 (by kernel_rfl) rfl
                    refine wpOp_step rfl (fun K hK => ?_)
                    refine Eq.mpr (if_neg (unwanted_of rfl rfl e44 (by decide))) ?_
                    exact hK _ _ ⟨rfl, Below.refl _ _⟩
                  · have e48 : a.tmps[48]?.getD undef = undef := F.dep 6 48 (by kernel_rfl) rfl
                    have e44 : a.tmps[44]?.getD undef = .bool true := F.dep 2 44 (by kernel_rfl) rfl
                    refine wpOp_step rfl (fun K hK => ?_)
                    refine Eq.mpr (if_neg (unwanted_of rfl rfl e44 (by decide))) ?_
                    exact hK _ _ ⟨rfl, Below.refl _ _⟩
                  · have e0 : a.tmps[0]?.getD undef = (.slice (some ⟨q, o, none⟩) n c) := (F.kept 0 (by kernel_rfl)).trans rfl
                    have e44 : a.tmps[44]?.getD undef = .bool true := F.dep 2 44 (by kernel_rfl) rfl
                    refine wpOp_step rfl (fun K hK => ?_)
                    refine Eq.mpr (if_neg (unwanted_of rfl rfl e44 (by decide))) ?_
                    exact hK _ _ ⟨rfl, Below.refl _ _⟩
                  · have e8 : a.tmps[8]?.getD undef = (.int .i64 (k : Int)) := (F.kept 8 (by kernel_rfl)).trans rfl
                    have e44 : a.tmps[44]?.getD undef = .bool true := F.dep 2 44 (by kernel_rfl) rfl
                    refine wpOp_step rfl (fun K hK => ?_)
                    refine Eq.mpr (if_neg (unwanted_of rfl rfl e44 (by decide))) ?_
                    exact hK _ _ ⟨rfl, Below.refl _ _⟩
                  · have e50 : a.tmps[50]?.getD undef = undef := F.dep 8 50 (by kernel_rfl) rfl
                    have e51 : a.tmps[51]?.getD undef = undef := F.dep 9 51 (by kernel_rfl) rfl
                    have e44 : a.tmps[44]?.getD undef = .bool true := F.dep 2 44 (by kernel_rfl) rfl
                    refine wpOp_step rfl (fun K hK => ?_)
                    refine Eq.mpr (if_neg (unwanted_of rfl rfl e44 (by decide))) ?_
                    exact hK _ _ ⟨rfl, Below.refl _ _⟩
                  · have e52 : a.tmps[52]?.getD undef = undef := F.dep 10 52 (by kernel_rfl) rfl
                    have e44 : a.tmps[44]?.getD undef = .bool true := F.dep 2 44 (by kernel_rfl) rfl
                    refine wpOp_step rfl (fun K hK => ?_)
                    refine Eq.mpr (if_neg (unwanted_of rfl rfl e44 (by decide))) ?_
                    exact hK _ _ ⟨rfl, Below.refl _ _⟩
                  · have e49 : a.tmps[49]?.getD undef = undef := F.dep 7 49 (by kernel_rfl) rfl
                    have e53 : a.tmps[53]?.getD undef = undef := F.dep 11 53 (by kernel_rfl) rfl
                    have e44 : a.tmps[44]?.getD undef = .bool true := F.dep 2 44 (by kernel_rfl) rfl
                    refine wpOp_step rfl (fun K hK => ?_)
                    refine Eq.mpr (if_neg (unwanted_of rfl rfl e44 (by decide))) ?_
                    exact hK _ _ ⟨rfl, Below.refl _ _⟩
                  · have e44 : a.tmps[44]?.getD undef = .bool true := F.dep 2 44 (by kernel_rfl) rfl
                    have e54 : a.tmps[54]?.getD undef = undef := F.dep 12 54 (by kernel_rfl) rfl
                    refine wpOp_step rfl (fun K hK => ?_)
                    refine Eq.mpr (if_pos (by rfl)) ?_
                    go_simp
                    exact hK _ _ ⟨rfl, Below.refl _ _⟩
                case fin =>
                  intro V hb
                  simp only [finV, List.set_cons_succ, List.set_cons_zero]
                  have hB2 := tr hBz hb
                  go_wp2
                  go_roundw
                  case rel => exact ⟨k + 1, by omega, by go_num, by rw [HS2.out], by rw [HS2.out], by rw [HN2.out]; try (first | rfl | go_num), hB2⟩
                  case measure => simp [intOf]; omega
              · obtain ⟨i, hi⟩ : ∃ i, k = i + 1 := ⟨k - 1, by omega⟩
                have hix : i < xs.length := by omega
                have hz : ((k : Int) == 0) = false := by simp; omega
                have hw3 : IntKind.i64.wrap ((k : Int) - 1) = (i : Int) := by
                  rw [hi]
                  push_cast
                  rw [Int.add_sub_cancel]
                  exact IntWalk.i64_in _ (by omega)
                have hin : (i : Int) < (n : Int) := by omega
                have hi1 : k - 1 = i := by omega
                by_cases heq : nth xs k = nth xs i
                · have HN2 := Lib.hid (show runsTo xs (k + 1) = R by rw [← HRr.out]; show (if k = 0 ∨ nth xs k ≠ nth xs (k - 1) then _ else _) = _; rw [if_neg]; rw [hi1]; rintro (h | h); omega; exact h heq)
                  have hq2 : (nth xs i != nth xs k) = false := by simp [heq]
                  clear heq h0 hi1 hi
                  refine wp_region_vals follows_mixedB [some 42, some 43, some 44, some 45, some 46, some 47, some 48, some 49, some 50, some 51, some 52, some 53, some 54, some 55] (by kernel_rfl) [(.int .i64 (k : Int)), (.bool false), (.bool false), (.slice (some ⟨q, o, none⟩) n c), (.int .i64 (k : Int)), (.int .i64 (i : Int)), (.pointer (some ⟨q, o + i, none⟩)), (.int .i64 (nth xs i)), (.slice (some ⟨q, o, none⟩) n c), (.int .i64 (k : Int)), (.pointer (some ⟨q, o + k, none⟩)), (.int .i64 (nth xs k)), (.bool false), (.bool false)] rfl ?step ?fin
                  case step =>
                    intro i hi a V F
                    have hi : i < 14 := hi
                    have e : i = 0 ∨ i = 1 ∨ i = 2 ∨ i = 3 ∨ i = 4 ∨ i = 5 ∨ i = 6 ∨ i = 7 ∨ i = 8 ∨ i = 9 ∨ i = 10 ∨ i = 11 ∨ i = 12 ∨ i = 13 := by omega
                    clear hi
                    rcases e with rfl | rfl | rfl | rfl | rfl | rfl | rfl | rfl | rfl | rfl | rfl | rfl | rfl | rfl
                    · have e8 : a.tmps[8]?.getD undef = (.int .i64 (k : Int)) := (F.kept 8 (by kernel_rfl)).trans rfl
                      refine wpOp_step rfl (fun K hK => ?_)
                      refine Eq.mpr (if_pos (by rfl)) ?_
                      go_simp
                      exact hK _ _ ⟨rfl, Below.refl _ _⟩
                    · have e42 : a.tmps[42]?.getD undef = (.int .i64 (k : Int)) := F.dep 0 42 (by kernel_rfl) rfl
                      refine wpOp_step rfl (fun K hK => ?_)
                      refine Eq.mpr (if_pos (by rfl)) ?_
                      go_simp
                      exact hK _ _ ⟨rfl, Below.refl _ _⟩
                    · have e43 : a.tmps[43]?.getD undef = .bool false := F.dep 1 43 (by kernel_rfl) rfl
                      refine wpOp_step rfl (fun K hK => ?_)
                      refine Eq.mpr (if_pos (by rfl)) ?_
                      go_simp
                      exact hK _ _ ⟨rfl, Below.refl _ _⟩
                    · have e0 : a.tmps[0]?.getD undef = (.slice (some ⟨q, o, none⟩) n c) := (F.kept 0 (by kernel_rfl)).trans rfl
                      have e44 : a.tmps[44]?.getD undef = .bool false := F.dep 2 44 (by kernel_rfl) rfl
                      refine wpOp_step rfl (fun K hK => ?_)
                      refine Eq.mpr (if_pos (wanted_of rfl rfl e44)) ?_
                      go_simp
                      exact hK _ _ ⟨rfl, Below.refl _ _⟩
                    · have e8 : a.tmps[8]?.getD undef = (.int .i64 (k : Int)) := (F.kept 8 (by kernel_rfl)).trans rfl
                      have e44 : a.tmps[44]?.getD undef = .bool false := F.dep 2 44 (by kernel_rfl) rfl
                      refine wpOp_step rfl (fun K hK => ?_)
                      refine Eq.mpr (if_pos (wanted_of rfl rfl e44)) ?_
                      go_simp
                      exact hK _ _ ⟨rfl, Below.refl _ _⟩
                    · have e46 : a.tmps[46]?.getD undef = (.int .i64 (k : Int)) := F.dep 4 46 (by kernel_rfl) rfl
                      have e44 : a.tmps[44]?.getD undef = .bool false := F.dep 2 44 (by kernel_rfl) rfl
                      refine wpOp_step rfl (fun K hK => ?_)
                      refine Eq.mpr (if_pos (wanted_of rfl rfl e44)) ?_
                      go_simp
                      exact hK _ _ ⟨rfl, Below.refl _ _⟩
                    · have e45 : a.tmps[45]?.getD undef = (.slice (some ⟨q, o, none⟩) n c) := F.dep 3 45 (by kernel_rfl) rfl
                      have e47 : a.tmps[47]?.getD undef = (.int .i64 (i : Int)) := F.dep 5 47 (by kernel_rfl) rfl
                      have e44 : a.tmps[44]?.getD undef = .bool false := F.dep 2 44 (by kernel_rfl) rfl
                      refine wpOp_step rfl (fun K hK => ?_)
                      refine Eq.mpr (if_pos (wanted_of rfl rfl e44)) ?_
                      go_simp
                      exact hK _ _ ⟨rfl, Below.refl _ _⟩
                    · have e48 : a.tmps[48]?.getD undef = (.pointer (some ⟨q, o + i, none⟩)) := F.dep 6 48 (by kernel_rfl) rfl
                      have e44 : a.tmps[44]?.getD undef = .bool false := F.dep 2 44 (by kernel_rfl) rfl
                      refine wpOp_step rfl (fun K hK => ?_)
                      refine Eq.mpr (if_pos (wanted_of rfl rfl e44)) ?_
                      have hci : V.cell? ⟨q, o + i, none⟩ = some (.int .i64 (nth xs i)) := cell_at (hRw.below F.below (Nat.le_refl _)) hix
                      go_simp
                      exact hK _ _ ⟨rfl, Below.refl _ _⟩
                    · have e0 : a.tmps[0]?.getD undef = (.slice (some ⟨q, o, none⟩) n c) := (F.kept 0 (by kernel_rfl)).trans rfl
                      have e44 : a.tmps[44]?.getD undef = .bool false := F.dep 2 44 (by kernel_rfl) rfl
                      refine wpOp_step rfl (fun K hK => ?_)
                      refine Eq.mpr (if_pos (wanted_of rfl rfl e44)) ?_
                      go_simp
                      exact hK _ _ ⟨rfl, Below.refl _ _⟩
                    · have e8 : a.tmps[8]?.getD undef = (.int .i64 (k : Int)) := (F.kept 8 (by kernel_rfl)).trans rfl
                      have e44 : a.tmps[44]?.getD undef = .bool false := F.dep 2 44 (by kernel_rfl) rfl
                      refine wpOp_step rfl (fun K hK => ?_)
                      refine Eq.mpr (if_pos (wanted_of rfl rfl e44)) ?_
                      go_simp
                      exact hK _ _ ⟨rfl, Below.refl _ _⟩
                    · have e50 : a.tmps[50]?.getD undef = (.slice (some ⟨q, o, none⟩) n c) := F.dep 8 50 (by kernel_rfl) rfl
                      have e51 : a.tmps[51]?.getD undef = (.int .i64 (k : Int)) := F.dep 9 51 (by kernel_rfl) rfl
                      have e44 : a.tmps[44]?.getD undef = .bool false := F.dep 2 44 (by kernel_rfl) rfl
                      refine wpOp_step rfl (fun K hK => ?_)
                      refine Eq.mpr (if_pos (wanted_of rfl rfl e44)) ?_
                      go_simp
                      exact hK _ _ ⟨rfl, Below.refl _ _⟩
                    · have e52 : a.tmps[52]?.getD undef = (.pointer (some ⟨q, o + k, none⟩)) := F.dep 10 52 (by kernel_rfl) rfl
                      have e44 : a.tmps[44]?.getD undef = .bool false := F.dep 2 44 (by kernel_rfl) rfl
                      refine wpOp_step rfl (fun K hK => ?_)
                      refine Eq.mpr (if_pos (wanted_of rfl rfl e44)) ?_
                      have hck : V.cell? ⟨q, o + k, none⟩ = some (.int .i64 (nth xs k)) := cell_at (hRw.below F.below (Nat.le_refl _)) hkx
                      go_simp
                      exact hK _ _ ⟨rfl, Below.refl _ _⟩
                    · have e49 : a.tmps[49]?.getD undef = (.int .i64 (nth xs i)) := F.dep 7 49 (by kernel_rfl) rfl
                      have e53 : a.tmps[53]?.getD undef = (.int .i64 (nth xs k)) := F.dep 11 53 (by kernel_rfl) rfl
                      have e44 : a.tmps[44]?.getD undef = .bool false := F.dep 2 44 (by kernel_rfl) rfl
                      refine wpOp_step rfl (fun K hK => ?_)
                      refine Eq.mpr (if_pos (wanted_of rfl rfl e44)) ?_
                      go_simp
                      exact hK _ _ ⟨rfl, Below.refl _ _⟩
                    · have e44 : a.tmps[44]?.getD undef = .bool false := F.dep 2 44 (by kernel_rfl) rfl
                      have e54 : a.tmps[54]?.getD undef = .bool false := F.dep 12 54 (by kernel_rfl) rfl
                      refine wpOp_step rfl (fun K hK => ?_)
                      refine Eq.mpr (if_pos (by rfl)) ?_
                      go_simp
                      exact hK _ _ ⟨rfl, Below.refl _ _⟩
                  case fin =>
                    intro V hb
                    simp only [finV, List.set_cons_succ, List.set_cons_zero]
                    have hB2 := tr hBz hb
                    go_wp2
                    go_roundw
                    case rel => exact ⟨k + 1, by omega, by go_num, by rw [HS2.out], by rw [HS2.out], by rw [HN2.out]; try (first | rfl | go_num), hB2⟩
                    case measure => simp [intOf]; omega
                · have HN2 := Lib.hid (show runsTo xs (k + 1) = R + 1 by rw [← HRr.out]; show (if k = 0 ∨ nth xs k ≠ nth xs (k - 1) then _ else _) = _; rw [if_pos]; rw [hi1]; exact .inr heq)
                  have hq2 : (nth xs i != nth xs k) = true := by simp [Ne.symm heq]
                  clear heq h0 hi1 hi
                  refine wp_region_vals follows_mixedB [some 42, some 43, some 44, some 45, some 46, some 47, some 48, some 49, some 50, some 51, some 52, some 53, some 54, some 55] (by kernel_rfl) [(.int .i64 (k : Int)), (.bool false), (.bool false), (.slice (some ⟨q, o, none⟩) n c), (.int .i64 (k : Int)), (.int .i64 (i : Int)), (.pointer (some ⟨q, o + i, none⟩)), (.int .i64 (nth xs i)), (.slice (some ⟨q, o, none⟩) n c), (.int .i64 (k : Int)), (.pointer (some ⟨q, o + k, none⟩)), (.int .i64 (nth xs k)), (.bool true), (.bool true)] rfl ?step ?fin
                  case step =>
                    intro i hi a V F
                    have hi : i < 14 := hi
                    have e : i = 0 ∨ i = 1 ∨ i = 2 ∨ i = 3 ∨ i = 4 ∨ i = 5 ∨ i = 6 ∨ i = 7 ∨ i = 8 ∨ i = 9 ∨ i = 10 ∨ i = 11 ∨ i = 12 ∨ i = 13 := by omega
                    clear hi
                    rcases e with rfl | rfl | rfl | rfl | rfl | rfl | rfl | rfl | rfl | rfl | rfl | rfl | rfl | rfl
                    · have e8 : a.tmps[8]?.getD undef = (.int .i64 (k : Int)) := (F.kept 8 (by kernel_rfl)).trans rfl
                      refine wpOp_step rfl (fun K hK => ?_)
                      refine Eq.mpr (if_pos (by rfl)) ?_
                      go_simp
                      exact hK _ _ ⟨rfl, Below.refl _ _⟩
                    · have e42 : a.tmps[42]?.getD undef = (.int .i64 (k : Int)) := F.dep 0 42 (by kernel_rfl) rfl
                      refine wpOp_step rfl (fun K hK => ?_)
                      refine Eq.mpr (if_pos (by rfl)) ?_
                      go_simp
                      exact hK _ _ ⟨rfl, Below.refl _ _⟩
                    · have e43 : a.tmps[43]?.getD undef = .bool false := F.dep 1 43 (by kernel_rfl) rfl
                      refine wpOp_step rfl (fun K hK => ?_)
                      refine Eq.mpr (if_pos (by rfl)) ?_
                      go_simp
                      exact hK _ _ ⟨rfl, Below.refl _ _⟩
                    · have e0 : a.tmps[0]?.getD undef = (.slice (some ⟨q, o, none⟩) n c) := (F.kept 0 (by kernel_rfl)).trans rfl
                      have e44 : a.tmps[44]?.getD undef = .bool false := F.dep 2 44 (by kernel_rfl) rfl
                      refine wpOp_step rfl (fun K hK => ?_)
                      refine Eq.mpr (if_pos (wanted_of rfl rfl e44)) ?_
                      go_simp
                      exact hK _ _ ⟨rfl, Below.refl _ _⟩
                    · have e8 : a.tmps[8]?.getD undef = (.int .i64 (k : Int)) := (F.kept 8 (by kernel_rfl)).trans rfl
                      have e44 : a.tmps[44]?.getD undef = .bool false := F.dep 2 44 (by kernel_rfl) rfl
                      refine wpOp_step rfl (fun K hK => ?_)
                      refine Eq.mpr (if_pos (wanted_of rfl rfl e44)) ?_
                      go_simp
                      exact hK _ _ ⟨rfl, Below.refl _ _⟩
                    · have e46 : a.tmps[46]?.getD undef = (.int .i64 (k : Int)) := F.dep 4 46 (by kernel_rfl) rfl
                      have e44 : a.tmps[44]?.getD undef = .bool false := F.dep 2 44 (by kernel_rfl) rfl
                      refine wpOp_step rfl (fun K hK => ?_)
                      refine Eq.mpr (if_pos (wanted_of rfl rfl e44)) ?_
                      go_simp
                      exact hK _ _ ⟨rfl, Below.refl _ _⟩
                    · have e45 : a.tmps[45]?.getD undef = (.slice (some ⟨q, o, none⟩) n c) := F.dep 3 45 (by kernel_rfl) rfl
                      have e47 : a.tmps[47]?.getD undef = (.int .i64 (i : Int)) := F.dep 5 47 (by kernel_rfl) rfl
                      have e44 : a.tmps[44]?.getD undef = .bool false := F.dep 2 44 (by kernel_rfl) rfl
                      refine wpOp_step rfl (fun K hK => ?_)
                      refine Eq.mpr (if_pos (wanted_of rfl rfl e44)) ?_
                      go_simp
                      exact hK _ _ ⟨rfl, Below.refl _ _⟩
                    · have e48 : a.tmps[48]?.getD undef = (.pointer (some ⟨q, o + i, none⟩)) := F.dep 6 48 (by kernel_rfl) rfl
                      have e44 : a.tmps[44]?.getD undef = .bool false := F.dep 2 44 (by kernel_rfl) rfl
                      refine wpOp_step rfl (fun K hK => ?_)
                      refine Eq.mpr (if_pos (wanted_of rfl rfl e44)) ?_
                      have hci : V.cell? ⟨q, o + i, none⟩ = some (.int .i64 (nth xs i)) := cell_at (hRw.below F.below (Nat.le_refl _)) hix
                      go_simp
                      exact hK _ _ ⟨rfl, Below.refl _ _⟩
                    · have e0 : a.tmps[0]?.getD undef = (.slice (some ⟨q, o, none⟩) n c) := (F.kept 0 (by kernel_rfl)).trans rfl
                      have e44 : a.tmps[44]?.getD undef = .bool false := F.dep 2 44 (by kernel_rfl) rfl
                      refine wpOp_step rfl (fun K hK => ?_)
                      refine Eq.mpr (if_pos (wanted_of rfl rfl e44)) ?_
                      go_simp
                      exact hK _ _ ⟨rfl, Below.refl _ _⟩
                    · have e8 : a.tmps[8]?.getD undef = (.int .i64 (k : Int)) := (F.kept 8 (by kernel_rfl)).trans rfl
                      have e44 : a.tmps[44]?.getD undef = .bool false := F.dep 2 44 (by kernel_rfl) rfl
                      refine wpOp_step rfl (fun K hK => ?_)
                      refine Eq.mpr (if_pos (wanted_of rfl rfl e44)) ?_
                      go_simp
                      exact hK _ _ ⟨rfl, Below.refl _ _⟩
                    · have e50 : a.tmps[50]?.getD undef = (.slice (some ⟨q, o, none⟩) n c) := F.dep 8 50 (by kernel_rfl) rfl
                      have e51 : a.tmps[51]?.getD undef = (.int .i64 (k : Int)) := F.dep 9 51 (by kernel_rfl) rfl
                      have e44 : a.tmps[44]?.getD undef = .bool false := F.dep 2 44 (by kernel_rfl) rfl
                      refine wpOp_step rfl (fun K hK => ?_)
                      refine Eq.mpr (if_pos (wanted_of rfl rfl e44)) ?_
                      go_simp
                      exact hK _ _ ⟨rfl, Below.refl _ _⟩
                    · have e52 : a.tmps[52]?.getD undef = (.pointer (some ⟨q, o + k, none⟩)) := F.dep 10 52 (by kernel_rfl) rfl
                      have e44 : a.tmps[44]?.getD undef = .bool false := F.dep 2 44 (by kernel_rfl) rfl
                      refine wpOp_step rfl (fun K hK => ?_)
                      refine Eq.mpr (if_pos (wanted_of rfl rfl e44)) ?_
                      have hck : V.cell? ⟨q, o + k, none⟩ = some (.int .i64 (nth xs k)) := cell_at (hRw.below F.below (Nat.le_refl _)) hkx
                      go_simp
                      exact hK _ _ ⟨rfl, Below.refl _ _⟩
                    · have e49 : a.tmps[49]?.getD undef = (.int .i64 (nth xs i)) := F.dep 7 49 (by kernel_rfl) rfl
                      have e53 : a.tmps[53]?.getD undef = (.int .i64 (nth xs k)) := F.dep 11 53 (by kernel_rfl) rfl
                      have e44 : a.tmps[44]?.getD undef = .bool false := F.dep 2 44 (by kernel_rfl) rfl
                      refine wpOp_step rfl (fun K hK => ?_)
                      refine Eq.mpr (if_pos (wanted_of rfl rfl e44)) ?_
                      go_simp
                      exact hK _ _ ⟨rfl, Below.refl _ _⟩
                    · have e44 : a.tmps[44]?.getD undef = .bool false := F.dep 2 44 (by kernel_rfl) rfl
                      have e54 : a.tmps[54]?.getD undef = .bool true := F.dep 12 54 (by kernel_rfl) rfl
                      refine wpOp_step rfl (fun K hK => ?_)
                      refine Eq.mpr (if_pos (by rfl)) ?_
                      go_simp
                      exact hK _ _ ⟨rfl, Below.refl _ _⟩
                  case fin =>
                    intro V hb
                    simp only [finV, List.set_cons_succ, List.set_cons_zero]
                    have hB2 := tr hBz hb
                    go_wp2
                    go_roundw
                    case rel => exact ⟨k + 1, by omega, by go_num, by rw [HS2.out], by rw [HS2.out], by rw [HN2.out]; try (first | rfl | go_num), hB2⟩
                    case measure => simp [intOf]; omega
    · obtain rfl : k = n := by omega
      go_wp2
      go_returns
      exact ⟨rfl, hb0⟩
end Go.Proofs.Ytahmhdjoaoldcaa
