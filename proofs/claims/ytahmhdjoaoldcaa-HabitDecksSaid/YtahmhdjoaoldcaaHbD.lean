/-
  The reference's Tally.
-/
import Derived.Test.YtahmhdjoaoldcaaHbC

import Derived.StillTailTactics
namespace Go.Proofs.Ytahmhdjoaoldcaa
open Go Go.RowKit
set_option linter.unusedVariables false
set_option linter.unusedSimpArgs false
theorem follows_mixedB : Try.prog.follows .mixedOrders = true := by kernel_rfl

theorem wp_makeI {o : Oper} {a : Act} {V : World} {K : Act → World → Prop} {Q : Exit → Act → World → Prop} (B n : Nat) {l c : Operand} (hop : o.op = Op.makeSlice 22 l c) (hl : a.eval l = .int .i64 (n : Int)) (hc : a.eval c = .int .i64 (n : Int)) (hn : n ≤ 1000000) (hB : B ≤ V.heap.size)
    (hK : ∀ w', Row w' B V.heap.size n (List.replicate n 0) → V.grownBy w' none → K (a.put o.dst (.slice (some ⟨V.heap.size, 0, none⟩) n n)) w') : Oper.wp Try.prog o a V K Q := by
  obtain ⟨i0, hi, hz0, hz1, hz2⟩ := info_parts info_intH
  obtain ⟨w', hrun, r1, r2⟩ := run_make_full (P := Try.prog) V B 22 3 i0 (.int .i64 0) 1 Try.underlying22 hi hz0 hz1 .i64 .i64 n (by rw [hz2]; omega) (by unfold maxLen; omega) hB
  unfold Oper.wp
  simp [execOp, hop, hl, hc, hrun, Result.andThen]
  rw [Nat.mul_one] at r1
  exact hK w' (Row.made r1) r2
theorem Row.grown {w w' : World} {B g n : Nat} {xs : List Int} (h : Row w B g n xs) (hg : w.grownBy w' none) : Row w' B g n xs :=
  h.kept (B' := w.heap.size) (⟨hg.os, hg.tape, hg.output, hg.size, fun k hk => hg.block k hk (fun e => by cases e)⟩) h.lt.2

theorem row_other {w : World} {B g g' n' : Nat} {xs : List Int} (h : Row w B g' n' xs) (hne : g ≠ g') (j : Nat) (u : Int) : Row (w.setCell ⟨g, j, none⟩ (.int .i64 u)) B g' n' xs := by
  refine ⟨h.1, h.2.1, ?_⟩
  rcases h.2.2 with h' | ⟨b, cap, cur, e, h1, h2, h3⟩
  · exact .inl h'
  · refine .inr ⟨b, cap, cur, e, h1, ?_, h3⟩
    have : g' = b := (by simpa using e : g' = b ∧ n' = cap).1
    subst this
    rw [Below.heap_setCell _ _ _ _ (Ne.symm hne)]; exact h2
/-- What holds in the region where both rows are made. -/
structure TwoRows (w : World) (m M : Nat) (b : Nat) (v : Nat → Value) (V : World) : Prop where
  below : Below w.heap.size w V
  r1 : b.testBit 1 = true → ∃ g, v 1 = .slice (some ⟨g, 0, none⟩) m m ∧ Row V w.heap.size g m (List.replicate m 0)
  r5 : b.testBit 5 = true → ∃ g, v 5 = .slice (some ⟨g, 0, none⟩) M M ∧ Row V w.heap.size g M (List.replicate M 0)
  ne : b.testBit 1 = true → b.testBit 5 = true → ∀ g g' n n' c c', v 1 = .slice (some ⟨g, 0, none⟩) n c → v 5 = .slice (some ⟨g', 0, none⟩) n' c' → g ≠ g'
  v0 : b.testBit 0 = true → v 0 = .int .i64 (m : Int)
  v2 : b.testBit 2 = true → v 2 = .int .i64 (m : Int)
  v3 : b.testBit 3 = true → v 3 = .int .i64 (m : Int)
  v4 : b.testBit 4 = true → v 4 = .int .i64 (M : Int)
  v6 : b.testBit 6 = true → b.testBit 1 = true ∧ v 6 = v 1
  v7 : b.testBit 7 = true → b.testBit 5 = true ∧ v 7 = v 5
theorem bit_or_ne {b i j : Nat} (h : j ≠ i) : (b ||| 2 ^ i).testBit j = b.testBit j := by
  rw [Nat.testBit_or, Nat.testBit_two_pow]; simp [Ne.symm h]
theorem bit_or_eq (b i : Nat) : (b ||| 2 ^ i).testBit i = true := by
  rw [Nat.testBit_or, Nat.testBit_two_pow]; simp
theorem TwoRows.plain {w : World} {m M b : Nat} {v : Nat → Value} {V : World} (h : TwoRows w m M b v V) {i : Nat} (h1 : i ≠ 1) (h5 : i ≠ 5) (x : Value)
    (hx0 : i = 0 → x = .int .i64 (m : Int)) (hx2 : i = 2 → x = .int .i64 (m : Int)) (hx3 : i = 3 → x = .int .i64 (m : Int)) (hx4 : i = 4 → x = .int .i64 (M : Int)) (hx6 : i = 6 → b.testBit 1 = true ∧ x = v 1) (hx7 : i = 7 → b.testBit 5 = true ∧ x = v 5) :
    TwoRows w m M (b ||| 2 ^ i) (fun j => if j = i then x else v j) V := by
  have g : ∀ j, j ≠ i → (b ||| 2 ^ i).testBit j = true → b.testBit j = true := fun j hj hb => by rwa [bit_or_ne hj] at hb
  refine ⟨h.below, fun hb => ?_, fun hb => ?_, fun hb hb' => ?_, fun hb => ?_, fun hb => ?_, fun hb => ?_, fun hb => ?_, fun hb => ?_, fun hb => ?_⟩
  · rw [if_neg (Ne.symm h1)]; exact h.r1 (g 1 (Ne.symm h1) hb)
  · rw [if_neg (Ne.symm h5)]; exact h.r5 (g 5 (Ne.symm h5) hb)
  · rw [if_neg (Ne.symm h1), if_neg (Ne.symm h5)]; exact h.ne (g 1 (Ne.symm h1) hb) (g 5 (Ne.symm h5) hb')
  · by_cases e : i = 0
    · rw [if_pos e.symm]; exact hx0 e
    · rw [if_neg (Ne.symm e)]; exact h.v0 (g 0 (Ne.symm e) hb)
  · by_cases e : i = 2
    · rw [if_pos e.symm]; exact hx2 e
    · rw [if_neg (Ne.symm e)]; exact h.v2 (g 2 (Ne.symm e) hb)
  · by_cases e : i = 3
    · rw [if_pos e.symm]; exact hx3 e
    · rw [if_neg (Ne.symm e)]; exact h.v3 (g 3 (Ne.symm e) hb)
  · by_cases e : i = 4
    · rw [if_pos e.symm]; exact hx4 e
    · rw [if_neg (Ne.symm e)]; exact h.v4 (g 4 (Ne.symm e) hb)
  · rw [if_neg (Ne.symm h1)]
    by_cases e : i = 6
    · rw [if_pos e.symm, bit_or_ne (Ne.symm h1)]; exact hx6 e
    · rw [if_neg (Ne.symm e), bit_or_ne (Ne.symm h1)]; exact h.v6 (g 6 (Ne.symm e) hb)
  · rw [if_neg (Ne.symm h5)]
    by_cases e : i = 7
    · rw [if_pos e.symm, bit_or_ne (Ne.symm h5)]; exact hx7 e
    · rw [if_neg (Ne.symm e), bit_or_ne (Ne.symm h5)]; exact h.v7 (g 7 (Ne.symm e) hb)

set_option maxRecDepth 100000 in
set_option maxHeartbeats 2000000 in
theorem refTally_any (p : Option Addr) (xs : List Int) (n c : Nat) (hx : Hid (xs.length = n)) (hn : n ≤ 1000) (m : Nat) (hm : m ≤ 32) (hr : Hid (InReg xs m)) (w : World) (hR : Reads w p xs) :
    Calls Try.prog 14 #[.slice p n c, .int .i64 m] w fun e w' => (∃ g1 g5, e = .returned (.tuple #[.slice (some ⟨g1, 0, none⟩) m m, .slice (some ⟨g5, 0, none⟩) (m * m) (m * m)]) ∧ Row w' w.heap.size g1 m (cntTo xs m n) ∧ Row w' w.heap.size g5 (m * m) (pairTo xs m n)) ∧ Below w.heap.size w w' := by
  obtain ⟨M, hM⟩ : ∃ M, m * m = M := ⟨_, rfl⟩
  have HM := Lib.hid hM
  have hM1 : M ≤ 1024 := by rw [← hM]; exact Nat.le_trans (Nat.mul_le_mul hm hm) (by decide)
  have hwM : IntKind.i64.wrap ((m : Int) * (m : Int)) = (M : Int) := by
    rw [← hM, ← Int.natCast_mul]
    exact IntWalk.i64_in _ (by omega)
  rw [hM]
  clear hM
  go_enter Try.func14, Try.ntmps14
  go_wp2_with fail
  refine wp_region_gen follows_mixedB [some 9, some 10, some 11, some 12, some 13, some 14, some 6, some 7] (by kernel_rfl) (TwoRows w m M) ⟨(Below.refl _ _).drew, fun h => by simp at h, fun h => by simp at h, fun h => by simp at h, fun h => by simp at h, fun h => by simp at h, fun h => by simp at h, fun h => by simp at h, fun h => by simp at h, fun h => by simp at h⟩ ?step ?fin
  case step =>
    intro i hi a V b v hI hbi F
    have hi : i < 8 := hi
    have e : i = 0 ∨ i = 1 ∨ i = 2 ∨ i = 3 ∨ i = 4 ∨ i = 5 ∨ i = 6 ∨ i = 7 := by omega
    clear hi
    rcases e with rfl | rfl | rfl | rfl | rfl | rfl | rfl | rfl
    · have e1 : a.tmps[1]?.getD undef = .int .i64 (m : Int) := (F.kept 1 (by kernel_rfl)).trans rfl
      refine wpOp_step rfl (fun K hK => ?_)
      refine Eq.mpr (if_pos (by rfl)) ?_
      go_simp
      exact hK _ _ ⟨_, rfl, hI.plain (by decide) (by decide) _ (fun _ => rfl) (fun h => by cases h) (fun h => by cases h) (fun h => by cases h) (fun h => by cases h) (fun h => by cases h)⟩
    · have e9 : a.tmps[9]?.getD undef = .int .i64 (m : Int) := (F.dep 0 9 (by kernel_rfl) rfl).trans (hI.v0 (F.bits 0 (by kernel_rfl)))
      refine wpOp_step rfl (fun K hK => ?_)
      refine Eq.mpr (if_pos (by rfl)) ?_
      refine wp_makeI w.heap.size m rfl (eval_tmp e9) (eval_tmp e9) (by omega) hI.below.size ?_
      intro w' hrow hgr
      have g : ∀ j, j ≠ 1 → (b ||| 2 ^ 1).testBit j = true → b.testBit j = true := fun j hj hb => by rwa [bit_or_ne hj] at hb
      refine hK _ _ ⟨_, rfl, hI.below.grown hgr hI.below.size (fun k e => by cases e), fun hb => ⟨_, rfl, hrow⟩, fun hb => ?_, fun hb hb' g1 g2 n1 n2 c1 c2 h1 h2 => ?_, fun hb => hI.v0 (g 0 (by decide) hb), fun hb => hI.v2 (g 2 (by decide) hb), fun hb => hI.v3 (g 3 (by decide) hb), fun hb => hI.v4 (g 4 (by decide) hb), fun hb => ?_, fun hb => ?_⟩
      · obtain ⟨g5, h5, hr5⟩ := hI.r5 (g 5 (by decide) hb)
        exact ⟨g5, h5, hr5.grown hgr⟩
      · obtain ⟨g5, h5, hr5⟩ := hI.r5 (g 5 (by decide) hb')
        have h2 : v 5 = _ := h2
        rw [h5] at h2
        cases h2
        cases h1
        have := hr5.lt.2
        omega
      · have := (hI.v6 (g 6 (by decide) hb)).1
        rw [this] at hbi
        cases hbi
      · have := hI.v7 (g 7 (by decide) hb)
        exact ⟨by rw [bit_or_ne (by decide)]; exact this.1, this.2⟩
    · have e1 : a.tmps[1]?.getD undef = .int .i64 (m : Int) := (F.kept 1 (by kernel_rfl)).trans rfl
      refine wpOp_step rfl (fun K hK => ?_)
      refine Eq.mpr (if_pos (by rfl)) ?_
      go_simp
      exact hK _ _ ⟨_, rfl, hI.plain (by decide) (by decide) _ (fun h => by cases h) (fun _ => rfl) (fun h => by cases h) (fun h => by cases h) (fun h => by cases h) (fun h => by cases h)⟩
    · have e1 : a.tmps[1]?.getD undef = .int .i64 (m : Int) := (F.kept 1 (by kernel_rfl)).trans rfl
      refine wpOp_step rfl (fun K hK => ?_)
      refine Eq.mpr (if_pos (by rfl)) ?_
      go_simp
      exact hK _ _ ⟨_, rfl, hI.plain (by decide) (by decide) _ (fun h => by cases h) (fun h => by cases h) (fun _ => rfl) (fun h => by cases h) (fun h => by cases h) (fun h => by cases h)⟩
    · have e11 : a.tmps[11]?.getD undef = .int .i64 (m : Int) := (F.dep 2 11 (by kernel_rfl) rfl).trans (hI.v2 (F.bits 2 (by kernel_rfl)))
      have e12 : a.tmps[12]?.getD undef = .int .i64 (m : Int) := (F.dep 3 12 (by kernel_rfl) rfl).trans (hI.v3 (F.bits 3 (by kernel_rfl)))
      refine wpOp_step rfl (fun K hK => ?_)
      refine Eq.mpr (if_pos (by rfl)) ?_
      go_simp
      exact hK _ _ ⟨_, rfl, hI.plain (by decide) (by decide) _ (fun h => by cases h) (fun h => by cases h) (fun h => by cases h) (fun _ => rfl) (fun h => by cases h) (fun h => by cases h)⟩
    · have e13 : a.tmps[13]?.getD undef = .int .i64 (M : Int) := (F.dep 4 13 (by kernel_rfl) rfl).trans (hI.v4 (F.bits 4 (by kernel_rfl)))
      refine wpOp_step rfl (fun K hK => ?_)
      refine Eq.mpr (if_pos (by rfl)) ?_
      refine wp_makeI w.heap.size M rfl (eval_tmp e13) (eval_tmp e13) (by omega) hI.below.size ?_
      intro w' hrow hgr
      have g : ∀ j, j ≠ 5 → (b ||| 2 ^ 5).testBit j = true → b.testBit j = true := fun j hj hb => by rwa [bit_or_ne hj] at hb
      refine hK _ _ ⟨_, rfl, hI.below.grown hgr hI.below.size (fun k e => by cases e), fun hb => ?_, fun hb => ⟨_, rfl, hrow⟩, fun hb hb' g1 g2 n1 n2 c1 c2 h1 h2 => ?_, fun hb => hI.v0 (g 0 (by decide) hb), fun hb => hI.v2 (g 2 (by decide) hb), fun hb => hI.v3 (g 3 (by decide) hb), fun hb => hI.v4 (g 4 (by decide) hb), fun hb => ?_, fun hb => ?_⟩
      · obtain ⟨g1, h1, hr1⟩ := hI.r1 (g 1 (by decide) hb)
        exact ⟨g1, h1, hr1.grown hgr⟩
      · obtain ⟨g1', h1', hr1⟩ := hI.r1 (g 1 (by decide) hb)
        have h1 : v 1 = _ := h1
        rw [h1'] at h1
        cases h1
        cases h2
        have := hr1.lt.2
        omega
      · have := hI.v6 (g 6 (by decide) hb)
        exact ⟨by rw [bit_or_ne (by decide)]; exact this.1, this.2⟩
      · have := (hI.v7 (g 7 (by decide) hb)).1
        rw [this] at hbi
        cases hbi
    · have e10 : a.tmps[10]?.getD undef = v 1 := F.dep 1 10 (by kernel_rfl) rfl
      refine wpOp_step rfl (fun K hK => ?_)
      refine Eq.mpr (if_pos (by rfl)) ?_
      go_simp
      exact hK _ _ ⟨_, rfl, hI.plain (by decide) (by decide) _ (fun h => by cases h) (fun h => by cases h) (fun h => by cases h) (fun h => by cases h) (fun _ => ⟨F.bits 1 (by kernel_rfl), rfl⟩) (fun h => by cases h)⟩
    · have e14 : a.tmps[14]?.getD undef = v 5 := F.dep 5 14 (by kernel_rfl) rfl
      refine wpOp_step rfl (fun K hK => ?_)
      refine Eq.mpr (if_pos (by rfl)) ?_
      go_simp
      exact hK _ _ ⟨_, rfl, hI.plain (by decide) (by decide) _ (fun h => by cases h) (fun h => by cases h) (fun h => by cases h) (fun h => by cases h) (fun h => by cases h) (fun _ => ⟨F.bits 5 (by kernel_rfl), rfl⟩)⟩
  case fin =>
    intro v V hI
    obtain ⟨g1, h1, hr1⟩ := hI.r1 (by decide)
    obtain ⟨g5, h5, hr5⟩ := hI.r5 (by decide)
    have hne := hI.ne (by decide) (by decide) _ _ _ _ _ _ h1 h5
    have h6 := (hI.v6 (by decide)).2.trans h1
    have h7 := (hI.v7 (by decide)).2.trans h5
    have hB := hI.below
    simp only [finD, List.set_cons_succ, List.set_cons_zero, h1, h5, h6, h7, hI.v0 (by decide), hI.v2 (by decide), hI.v3 (by decide), hI.v4 (by decide)]
    clear hI h1 h5 h6 h7
    have hrow1 : Row V w.heap.size g1 m (cntTo xs m 0) := hr1
    have hrow5 : Row V w.heap.size g5 M (pairTo xs m 0) := by rw [pairTo, HM.out]; exact hr5
    clear hr1 hr5
    have HN := Lib.hid hne
    clear hne
    go_wp2
    go_loopw [8] (fun i wr => ∃ k : Nat, k ≤ n ∧ i = .int .i64 k ∧ Row wr w.heap.size g1 m (cntTo xs m k) ∧ Row wr w.heap.size g5 M (pairTo xs m k) ∧ Below w.heap.size w wr) (fun i _ => n - (intOf i).toNat)
    case atStart => exact ⟨0, Nat.zero_le _, rfl, hrow1, hrow5, hB⟩
    case round =>
      obtain ⟨k, hk, rfl, hrw, hrw5, hb⟩ := hrel
      by_cases hlt : k < n
      · have hkx : k < xs.length := by rw [hx.out]; exact hlt
        obtain ⟨q, o, rfl, hcell⟩ := hR.below hb (Nat.le_refl _) k hkx
        obtain ⟨b, hbb⟩ := Int.eq_ofNat_of_zero_le (hr.out k hkx).1
        have hbl : b < m := by have := (hr.out k hkx).2; omega
        rw [hbb] at hcell
        obtain ⟨v1, hv1⟩ : ∃ v1, nth (cntTo xs m k) b = v1 := ⟨_, rfl⟩
        have hbd1 := cntTo_bd xs m k b
        rw [hv1] at hbd1
        obtain ⟨hv10, hv11⟩ := hbd1
        have hset := hrw.set b (v1 + 1)
        have hkeep : Row (wr.setCell ⟨g1, b, none⟩ (.int .i64 (v1 + 1))) w.heap.size g5 M (pairTo xs m k) := row_other hrw5 HN.out _ _
        have hbs : Below w.heap.size w (wr.setCell ⟨g1, b, none⟩ (.int .i64 (v1 + 1))) := hb.setCell (p := ⟨g1, b, none⟩) hrw.lt.1 _
        have Hc1 : Hid (cntTo xs m (k + 1) = (cntTo xs m k).set b (v1 + 1)) := by show _ = _; rw [cntTo, incL, hbb]; simp [hv1]
        have hc3 := hrw.cell hbl
        rw [hv1] at hc3
        have hf3 := hrw.frozen b
        have hb1 : (b : Int) < (m : Int) := by omega
        have Hset := Lib.hid hset
        have Hkeep := Lib.hid hkeep
        have Hbs := Lib.hid hbs
        clear hset hkeep hbs hv1
        by_cases h0 : k = 0
        · have HP := Lib.hid (show pairTo xs m (k + 1) = pairTo xs m k by rw [h0]; rfl)
          have hk0 : (k : Int) ≤ 0 := by omega
          have hk0' : decide ((0 : Int) < (k : Int)) = false := decide_eq_false (by omega)
          have hk0n : decide (0 < k) = false := decide_eq_false (by omega)
          clear hbb hkx h0
          go_wp2
          go_roundw
          case rel => exact ⟨k + 1, by omega, by go_num, by rw [Hc1.out]; exact Hset.out, by rw [HP.out]; exact Hkeep.out, Hbs.out⟩
          case measure => simp [intOf]; omega
        · obtain ⟨j, hj⟩ : ∃ j, k = j + 1 := ⟨k - 1, by omega⟩
          have hjx : j < xs.length := by omega
          obtain ⟨q', o', he', hcell'⟩ := hR.below Hbs.out (Nat.le_refl _) j hjx
          cases he'
          obtain ⟨q', o', he', hcell2⟩ := hR.below Hbs.out (Nat.le_refl _) k hkx
          cases he'
          rw [hbb] at hcell2
          obtain ⟨a, ha⟩ := Int.eq_ofNat_of_zero_le (hr.out j hjx).1
          have hal : a < m := by have := (hr.out j hjx).2; omega
          rw [ha] at hcell'
          obtain ⟨P, hP⟩ : ∃ P, a * m = P := ⟨_, rfl⟩
          obtain ⟨I, hI⟩ : ∃ I, P + b = I := ⟨_, rfl⟩
          have hIl : I < M := by rw [← hI, ← hP, ← HM.out]; exact ix_lt hal hbl
          have hw1 : IntKind.i64.wrap ((a : Int) * (m : Int)) = (P : Int) := by
            rw [← hP, ← Int.natCast_mul]
            exact IntWalk.i64_in _ (by omega)
          have hw2 : IntKind.i64.wrap ((P : Int) + (b : Int)) = (I : Int) := by
            rw [← hI, ← Int.natCast_add]
            exact IntWalk.i64_in _ (by omega)
          have hw3 : IntKind.i64.wrap ((k : Int) - 1) = (j : Int) := by
            rw [hj]
            push_cast
            rw [Int.add_sub_cancel]
            exact IntWalk.i64_in _ (by omega)
          obtain ⟨v, hv⟩ : ∃ v, nth (pairTo xs m k) I = v := ⟨_, rfl⟩
          have hbd := pairTo_bd xs m I k
          rw [hv] at hbd
          obtain ⟨hv0, hv1⟩ := hbd
          have hw4 : IntKind.i64.wrap (v + 1) = v + 1 := IntWalk.i64_in _ (by omega)
          have Hset5 := Lib.hid (Hkeep.out.set I (v + 1))
          have Hset1 := Lib.hid (row_other (w := wr.setCell ⟨g1, b, none⟩ (.int .i64 (v1 + 1))) Hset.out (Ne.symm HN.out) I (v + 1))
          have Hj : Hid (pairTo xs m (k + 1) = (pairTo xs m k).set I (v + 1)) := by
            show _ = _
            rw [← hv, hj, pairTo_succ, ← hj, ha, hbb]
            show incL _ (a * m + b) = _
            rw [hP, hI]
            rfl
          have hc5 := Hkeep.out.cell hIl
          rw [hv] at hc5
          have hf5 := Hkeep.out.frozen I
          have hI1 : (I : Int) < (M : Int) := by omega
          have hjn : (j : Int) < (n : Int) := by omega
          have hk0 : (0 : Int) < (k : Int) := by omega
          have hk0' : decide ((0 : Int) < (k : Int)) = true := decide_eq_true hk0
          have hk0n : decide (0 < k) = true := decide_eq_true (by omega)
          clear hP hI hj ha hbb hv hkx hjx h0 hwM
          go_wp2
          generalize wr.setCell ⟨g1, b, none⟩ (.int .i64 (v1 + 1)) = W2 at hcell' hcell2 hc5 hf5 Hset Hkeep Hbs Hset1 Hset5 ⊢
          go_still_tail 17, (by kernel_rfl)
          go_wp2
          go_roundw
          case rel => exact ⟨k + 1, by omega, by go_num, by rw [Hc1.out]; exact Hset1.out, by rw [Hj.out]; exact Hset5.out, (Hbs.out.setCell (p := ⟨g5, I, none⟩) Hkeep.out.lt.1 _).drew⟩
          case measure => simp [intOf]; omega
      · obtain rfl : k = n := by omega
        go_wp2
        first | go_ret2 | go_returns
        exact ⟨⟨_, _, rfl, hrw, hrw5⟩, hb⟩
end Go.Proofs.Ytahmhdjoaoldcaa
