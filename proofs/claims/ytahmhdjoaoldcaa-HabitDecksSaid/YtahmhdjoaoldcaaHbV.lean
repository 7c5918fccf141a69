/-
  HabitDecks: check at a register and one model of a deck.
-/
import Derived.Test.YtahmhdjoaoldcaaHbT
namespace Go.Proofs.Ytahmhdjoaoldcaa
open Go Go.RowKit
set_option linter.unusedVariables false
set_option linter.unusedSimpArgs false

set_option maxRecDepth 100000 in
set_option maxHeartbeats 4000000 in
theorem wrong1_any (bv bs pr : Nat) (A : Int) (p : Option Addr) (row : List Int) (n c : Nat) (hx : Hid (row.length = n)) (hn1 : 1 ≤ n) (hn : n ≤ 32) (hO : Hid (anyB (outB 0 1000) row = false)) (hK0 : Hid (chk1 row = 0)) (hA1 : 1 ≤ A) (hA2 : A ≤ lsum row) (w : World)
    (hbv : bv < w.heap.size) (hv : w.cell? ⟨bv, 0, none⟩ = some (.slice (some ⟨bs, 0, none⟩) 1 1)) (hbs : bs < w.heap.size) (hms : ModB w bs pr A) (hpr : pr < w.heap.size) (hp : w.cell? ⟨pr, 0, none⟩ = some (.slice p n c)) (hR : Reads w p row) :
    Calls Try.prog 44 #[.agg #[.int .i64 3, .slice (some ⟨pr, 0, none⟩) 1 1, .int .i64 A], .pointer (some ⟨bv, 0, none⟩)] w fun e w' => e = .returned (.bool false) ∧ Below w.heap.size w w' := by
  have hb0 : Below w.heap.size w (w.alloc (.cells #[.int .i64 3, .slice (some ⟨pr, 0, none⟩) 1 1, .int .i64 A] 46)) := below1 _ _
  have hm : ModB (w.alloc (.cells #[.int .i64 3, .slice (some ⟨pr, 0, none⟩) 1 1, .int .i64 A] 46)) w.heap.size pr A := ⟨by go_simp, by go_simp, by go_simp⟩
  have hbW : w.heap.size < (w.alloc (.cells #[.int .i64 3, .slice (some ⟨pr, 0, none⟩) 1 1, .int .i64 A] 46)).heap.size := by simp
  have hprW : pr < (w.alloc (.cells #[.int .i64 3, .slice (some ⟨pr, 0, none⟩) 1 1, .int .i64 A] 46)).heap.size := by simp; omega
  have hbvW : bv < (w.alloc (.cells #[.int .i64 3, .slice (some ⟨pr, 0, none⟩) 1 1, .int .i64 A] 46)).heap.size := by simp; omega
  have hbsW : bs < (w.alloc (.cells #[.int .i64 3, .slice (some ⟨pr, 0, none⟩) 1 1, .int .i64 A] 46)).heap.size := by simp; omega
  have hpW := (hb0.cell (p := ⟨pr, 0, none⟩) hpr).trans hp
  have hvW := (hb0.cell (p := ⟨bv, 0, none⟩) hbv).trans hv
  have hmsW := hms.below hb0 hbs
  have hRW := hR.below hb0 (Nat.le_refl _)
  go_enter Try.func44, Try.ntmps44
  go_wp2_with fail
  refine wp_region_vals follows_mixed [some 4, some 5, some 6, some 7, some 8, some 9, some 10, some 11, some 12, some 13, some 14, some 15, some 3] (by kernel_rfl) [(.agg #[.int .i64 3, .slice (some ⟨pr, 0, none⟩) 1 1, .int .i64 A]), (.bool true), (.bool false), (.bool false), (.agg #[.int .i64 3, .slice (some ⟨pr, 0, none⟩) 1 1, .int .i64 A]), (.int .i64 (n : Nat)), (.slice (some ⟨bs, 0, none⟩) 1 1), (.pointer (some ⟨bs, 0, none⟩)), (.agg #[.int .i64 3, .slice (some ⟨pr, 0, none⟩) 1 1, .int .i64 A]), (.int .i64 (n : Nat)), (.bool false), (.bool false), (.bool false)] rfl ?step ?fin
  case step =>
    intro i hi a V F
    have hi : i < 13 := hi
    have e : i = 0 ∨ i = 1 ∨ i = 2 ∨ i = 3 ∨ i = 4 ∨ i = 5 ∨ i = 6 ∨ i = 7 ∨ i = 8 ∨ i = 9 ∨ i = 10 ∨ i = 11 ∨ i = 12 := by omega
    clear hi
    rcases e with rfl | rfl | rfl | rfl | rfl | rfl | rfl | rfl | rfl | rfl | rfl | rfl | rfl
    · have e2 : a.tmps[2]?.getD undef = (.pointer (some ⟨w.heap.size, 0, none⟩)) := (F.kept 2 (by kernel_rfl)).trans rfl
      refine wpOp_step rfl (fun K hK => ?_)
      refine Eq.mpr (if_pos (by rfl)) ?_
      obtain ⟨m0, m1, m2⟩ := hm.below F.below hbW
      go_simp
      exact hK _ _ ⟨rfl, Below.refl _ _⟩
    · have e4 : a.tmps[4]?.getD undef = (.agg #[.int .i64 3, .slice (some ⟨pr, 0, none⟩) 1 1, .int .i64 A]) := F.dep 0 4 (by kernel_rfl) rfl
      refine wpOp_step rfl (fun K hK => ?_)
      refine Eq.mpr (if_pos (by rfl)) ?_
      go_simp
      go_wp2_with fail
      refine (valid_any pr A p row n c hx hn1 hn hO hK0 hA1 hA2 V (Nat.lt_of_lt_of_le hprW F.below.size) ((F.below.cell (p := ⟨pr, 0, none⟩) hprW).trans hpW) (hRW.below F.below (Nat.le_refl _))).mono ?_
      rintro e V2 ⟨rfl, hb2⟩
      exact hK _ _ ⟨rfl, hb2⟩
    · have e5 : a.tmps[5]?.getD undef = (.bool true) := F.dep 1 5 (by kernel_rfl) rfl
      refine wpOp_step rfl (fun K hK => ?_)
      refine Eq.mpr (if_pos (by rfl)) ?_
      go_simp
      exact hK _ _ ⟨rfl, Below.refl _ _⟩
    · have e6 : a.tmps[6]?.getD undef = (.bool false) := F.dep 2 6 (by kernel_rfl) rfl
      refine wpOp_step rfl (fun K hK => ?_)
      refine Eq.mpr (if_pos (by rfl)) ?_
      go_simp
      exact hK _ _ ⟨rfl, Below.refl _ _⟩
    · have e2 : a.tmps[2]?.getD undef = (.pointer (some ⟨w.heap.size, 0, none⟩)) := (F.kept 2 (by kernel_rfl)).trans rfl
      have e7 : a.tmps[7]?.getD undef = (.bool false) := F.dep 3 7 (by kernel_rfl) rfl
      refine wpOp_step rfl (fun K hK => ?_)
      refine Eq.mpr (if_pos (wanted_of rfl rfl e7)) ?_
      obtain ⟨m0, m1, m2⟩ := hm.below F.below hbW
      go_simp
      exact hK _ _ ⟨rfl, Below.refl _ _⟩
    · have e8 : a.tmps[8]?.getD undef = (.agg #[.int .i64 3, .slice (some ⟨pr, 0, none⟩) 1 1, .int .i64 A]) := F.dep 4 8 (by kernel_rfl) rfl
      have e7 : a.tmps[7]?.getD undef = (.bool false) := F.dep 3 7 (by kernel_rfl) rfl
      refine wpOp_step rfl (fun K hK => ?_)
      refine Eq.mpr (if_pos (wanted_of rfl rfl e7)) ?_
      go_simp
      go_wp2_with fail
      refine (outcomesH_any pr A p n c V (Nat.lt_of_lt_of_le hprW F.below.size) ((F.below.cell (p := ⟨pr, 0, none⟩) hprW).trans hpW)).mono ?_
      rintro e V2 ⟨rfl, hb2⟩
      exact hK _ _ ⟨rfl, hb2⟩
    · have e1 : a.tmps[1]?.getD undef = (.pointer (some ⟨bv, 0, none⟩)) := (F.kept 1 (by kernel_rfl)).trans rfl
      have e7 : a.tmps[7]?.getD undef = (.bool false) := F.dep 3 7 (by kernel_rfl) rfl
      refine wpOp_step rfl (fun K hK => ?_)
      refine Eq.mpr (if_pos (wanted_of rfl rfl e7)) ?_
      have hvc := (F.below.cell (p := ⟨bv, 0, none⟩) hbvW).trans hvW
      go_simp
      exact hK _ _ ⟨rfl, Below.refl _ _⟩
    · have e10 : a.tmps[10]?.getD undef = (.slice (some ⟨bs, 0, none⟩) 1 1) := F.dep 6 10 (by kernel_rfl) rfl
      have e7 : a.tmps[7]?.getD undef = (.bool false) := F.dep 3 7 (by kernel_rfl) rfl
      refine wpOp_step rfl (fun K hK => ?_)
      refine Eq.mpr (if_pos (wanted_of rfl rfl e7)) ?_
      go_simp
      exact hK _ _ ⟨rfl, Below.refl _ _⟩
    · have e11 : a.tmps[11]?.getD undef = (.pointer (some ⟨bs, 0, none⟩)) := F.dep 7 11 (by kernel_rfl) rfl
      have e7 : a.tmps[7]?.getD undef = (.bool false) := F.dep 3 7 (by kernel_rfl) rfl
      refine wpOp_step rfl (fun K hK => ?_)
      refine Eq.mpr (if_pos (wanted_of rfl rfl e7)) ?_
      obtain ⟨m0, m1, m2⟩ := hmsW.below F.below hbsW
      go_simp
      exact hK _ _ ⟨rfl, Below.refl _ _⟩
    · have e12 : a.tmps[12]?.getD undef = (.agg #[.int .i64 3, .slice (some ⟨pr, 0, none⟩) 1 1, .int .i64 A]) := F.dep 8 12 (by kernel_rfl) rfl
      have e7 : a.tmps[7]?.getD undef = (.bool false) := F.dep 3 7 (by kernel_rfl) rfl
      refine wpOp_step rfl (fun K hK => ?_)
      refine Eq.mpr (if_pos (wanted_of rfl rfl e7)) ?_
      go_simp
      go_wp2_with fail
      refine (outcomesH_any pr A p n c V (Nat.lt_of_lt_of_le hprW F.below.size) ((F.below.cell (p := ⟨pr, 0, none⟩) hprW).trans hpW)).mono ?_
      rintro e V2 ⟨rfl, hb2⟩
      exact hK _ _ ⟨rfl, hb2⟩
    · have e9 : a.tmps[9]?.getD undef = (.int .i64 (n : Nat)) := F.dep 5 9 (by kernel_rfl) rfl
      have e13 : a.tmps[13]?.getD undef = (.int .i64 (n : Nat)) := F.dep 9 13 (by kernel_rfl) rfl
      have e7 : a.tmps[7]?.getD undef = (.bool false) := F.dep 3 7 (by kernel_rfl) rfl
      refine wpOp_step rfl (fun K hK => ?_)
      refine Eq.mpr (if_pos (wanted_of rfl rfl e7)) ?_
      go_simp
      exact hK _ _ ⟨rfl, Below.refl _ _⟩
    · have e7 : a.tmps[7]?.getD undef = (.bool false) := F.dep 3 7 (by kernel_rfl) rfl
      have e14 : a.tmps[14]?.getD undef = (.bool false) := F.dep 10 14 (by kernel_rfl) rfl
      refine wpOp_step rfl (fun K hK => ?_)
      refine Eq.mpr (if_pos (by rfl)) ?_
      go_simp
      exact hK _ _ ⟨rfl, Below.refl _ _⟩
    · have e15 : a.tmps[15]?.getD undef = (.bool false) := F.dep 11 15 (by kernel_rfl) rfl
      refine wpOp_step rfl (fun K hK => ?_)
      refine Eq.mpr (if_pos (by rfl)) ?_
      go_simp
      exact hK _ _ ⟨rfl, Below.refl _ _⟩
  case fin =>
    intro V hb
    simp only [finV, List.set_cons_succ, List.set_cons_zero]
    go_wp2
    go_ret
    exact ⟨rfl, hb0.trans (hb.mono hb0.size)⟩

set_option maxRecDepth 100000 in
set_option maxHeartbeats 4000000 in
theorem indexMod_any (bv bs pr : Nat) (A : Int) (p : Option Addr) (row : List Int) (n c : Nat) (hx : Hid (row.length = n)) (hn1 : 1 ≤ n) (hn : n ≤ 32) (hO : Hid (anyB (outB 0 1000) row = false)) (hK0 : Hid (chk1 row = 0)) (hA1 : 1 ≤ A) (hA2 : A ≤ lsum row) (w : World)
    (hbv : bv < w.heap.size) (hv : w.cell? ⟨bv, 0, none⟩ = some (.slice (some ⟨bs, 0, none⟩) 1 1)) (hbs : bs < w.heap.size) (hms : ModB w bs pr A) (hpr : pr < w.heap.size) (hp : w.cell? ⟨pr, 0, none⟩ = some (.slice p n c)) (hR : Reads w p row) :
    Calls Try.prog 62 #[.slice (some ⟨bs, 0, none⟩) 1 1, .func (.func 44) #[] #[.pointer (some ⟨bv, 0, none⟩)]] w fun e w' => e = .returned (.int .i64 (-1)) ∧ Below w.heap.size w w' := by
  go_enter Try.func62, Try.ntmps62
  go_wp2
  go_loopw [8] (fun i wx => ∃ k : Nat, k ≤ 1 ∧ i = .int .i64 k ∧ Below w.heap.size w wx) (fun i _ => 1 - (intOf i).toNat)
  case atStart => exact ⟨0, by omega, rfl, Below.refl _ _⟩
  case round =>
    obtain ⟨k, hk, rfl, hb⟩ := hrel
    have hsz := hb.size
    by_cases h0 : k = 0
    · subst h0
      have hpx := (hb.cell (p := ⟨pr, 0, none⟩) hpr).trans hp
      have hvx := (hb.cell (p := ⟨bv, 0, none⟩) hbv).trans hv
      have hmx := hms.below hb hbs
      obtain ⟨m0, m1, m2⟩ := hmx
      go_wp2_with fail
      refine (wrong1_any bv bs pr A p row n c hx hn1 hn hO hK0 hA1 hA2 _ (by omega) hvx (by omega) ⟨m0, m1, m2⟩ (by omega) hpx (hR.below hb (Nat.le_refl _))).mono ?_
      rintro e w2 ⟨rfl, hb2⟩
      have hB := hb.trans (hb2.mono hsz)
      clear hb hb2 hpx hvx m0 m1 m2
      go_wp2
      go_round
      case rel => exact ⟨1, by omega, rfl, hB⟩
      case measure => simp [intOf]
    · obtain rfl : k = 1 := by omega
      go_wp2
      go_ret
      exact ⟨rfl, hb⟩

set_option maxRecDepth 100000 in
set_option maxHeartbeats 4000000 in
theorem checkH_any (pl : Option Addr) (xs : List Int) (nl cl : Nat) (hl : Hid (xs.length = nl)) (hnl : nl ≤ 400) (bs pr : Nat) (A : Int) (p : Option Addr) (row : List Int) (n c : Nat) (hx : Hid (row.length = n)) (hn1 : 1 ≤ n) (hn : n ≤ 32) (hO : Hid (anyB (outB 0 1000) row = false)) (hK0 : Hid (chk1 row = 0)) (hA1 : 1 ≤ A) (hA2 : A ≤ lsum row) (hE : Hid (regE xs n = 0)) (w : World) (hbs : bs < w.heap.size) (hms : ModB w bs pr A) (hpr : pr < w.heap.size) (hp : w.cell? ⟨pr, 0, none⟩ = some (.slice p n c)) (hR : Reads w p row) (hRl : Reads w pl xs) :
    Calls Try.prog 27 #[.slice pl nl cl, .slice (some ⟨bs, 0, none⟩) 1 1] w fun e w' => e = .returned (.int .i64 0) ∧ Below w.heap.size w w' := by
  have hb0 : Below w.heap.size w (w.alloc (.cells #[.slice (some ⟨bs, 0, none⟩) 1 1] 85)) := below1 _ _
  have hv : (w.alloc (.cells #[.slice (some ⟨bs, 0, none⟩) 1 1] 85)).cell? ⟨w.heap.size, 0, none⟩ = some (.slice (some ⟨bs, 0, none⟩) 1 1) := by go_simp
  have hgw : w.heap.size < (w.alloc (.cells #[.slice (some ⟨bs, 0, none⟩) 1 1] 85)).heap.size := by simp
  have hms1 := hms.below hb0 hbs
  have hp1 := (hb0.cell (p := ⟨pr, 0, none⟩) hpr).trans hp
  have hR1 := hR.below hb0 (Nat.le_refl _)
  have hRl1 := hRl.below hb0 (Nat.le_refl _)
  have hCt : Calls Try.prog 47 #[.slice (some ⟨bs, 0, none⟩) 1 1, .func (.func 44) #[] #[.pointer (some ⟨w.heap.size, 0, none⟩)]] (w.alloc (.cells #[.slice (some ⟨bs, 0, none⟩) 1 1] 85)) fun e w' => e = .returned (.bool false) ∧ Below (w.heap.size + 1) (w.alloc (.cells #[.slice (some ⟨bs, 0, none⟩) 1 1] 85)) w' := by
    have hI := indexMod_any w.heap.size bs pr A p row n c hx hn1 hn hO hK0 hA1 hA2 _ hgw hv (by simp; omega) hms1 (by simp; omega) hp1 hR1
    have hgs : (w.alloc (.cells #[.slice (some ⟨bs, 0, none⟩) 1 1] 85)).heap.size = w.heap.size + 1 := by simp
    rw [hgs] at hI
    clear hgs
    generalize w.alloc (.cells #[.slice (some ⟨bs, 0, none⟩) 1 1] 85) = W at hI ⊢
    go_enter Try.func47, Try.ntmps47
    go_wp2_with fail
    refine hI.mono ?_
    rintro e w2 ⟨rfl, hb2⟩
    go_wp2
    go_ret
    exact ⟨rfl, hb2⟩
  go_enter Try.func27, Try.ntmps27
  go_wp2_with fail
  refine hCt.mono ?_
  rintro e w2 ⟨rfl, hb2⟩
  clear hCt
  have hv2 := (hb2.cell (p := ⟨w.heap.size, 0, none⟩) (by simp)).trans hv
  obtain ⟨m0, m1, m2⟩ := hms1.below hb2 (by omega)
  have hp2 := (hb2.cell (p := ⟨pr, 0, none⟩) (by simp; omega)).trans hp1
  have hs2 := hb2.size
  have hB2 : Below w.heap.size w w2 := hb0.trans (hb2.mono (by omega))
  have hRl2 := hRl1.below hb2 (by simp)
  have hs0 := hB2.size
  clear hb2 hv hms1 hp1 hR1 hRl1
  go_wp2_with fail
  refine (outcomesH_any pr A p n c _ (by omega) hp2).mono ?_
  rintro e w3 ⟨rfl, hb3⟩
  have hB3 := tr hB2 hb3
  have hRl3 := hRl2.below hb3 (Nat.le_refl _)
  clear hv2 m0 m1 m2 hp2 hb3 hB2 hRl2
  go_wp2_with fail
  refine (checkRegister_any pl xs nl cl hl (by omega) n ⟨by omega, by omega⟩ _ hRl3).mono ?_
  rintro e w4 ⟨rfl, hb4⟩
  rw [hE.out]
  have hB4 := tr hB3 hb4
  go_wp2
  go_ret
  exact ⟨rfl, hB4⟩
end Go.Proofs.Ytahmhdjoaoldcaa
