/-
  Package habit: Tally.
-/
import Derived.Test.YtahmhdjoaoldcaaHbB
namespace Go.Proofs.Ytahmhdjoaoldcaa
open Go Go.RowKit
set_option linter.unusedVariables false
set_option linter.unusedSimpArgs false

theorem pairTo_succ (xs : List Int) (m j : Nat) : pairTo xs m (j + 1 + 1) = incL (pairTo xs m (j + 1)) ((nth xs j).toNat * m + (nth xs (j + 1)).toNat) := rfl

set_option maxRecDepth 100000 in
set_option maxHeartbeats 2000000 in
theorem tally_ok (p : Option Addr) (xs : List Int) (n c : Nat) (hx : Hid (xs.length = n)) (hn : n ≤ 1000) (m : Nat) (h1m : 1 ≤ m) (hm : m ≤ 32) (hr : Hid (regE xs m = 0)) (w : World) (hR : Reads w p xs) :
    Calls Try.prog 7 #[.slice p n c, .int .i64 m] w fun e w' => (∃ p1 c1 p2 c2, e = .returned (.tuple #[.slice p1 m c1, .slice p2 (m * m) c2, .int .i64 0]) ∧ Reads w' p1 (cntTo xs m n) ∧ Reads w' p2 (pairTo xs m n)) ∧ Below w.heap.size w w' := by
  obtain ⟨i0, hi, hz0, hz1, hz2⟩ := info_parts info_intH
  have HI := Lib.hid (inReg_of hr.out).1
  have HO := Lib.hid (show outB 1 32 (m : Int) = false by simp [outB]; omega)
  obtain ⟨M, hM⟩ : ∃ M, m * m = M := ⟨_, rfl⟩
  have HM := Lib.hid hM
  have hM1 : M ≤ 1024 := by rw [← hM]; exact Nat.le_trans (Nat.mul_le_mul hm hm) (by decide)
  have hwM : IntKind.i64.wrap ((m : Int) * (m : Int)) = (M : Int) := by
    rw [← hM, ← Int.natCast_mul]
    exact IntWalk.i64_in _ (by omega)
  rw [hM]
  clear hM
  go_enter Try.func7, Try.ntmps7
  go_wp2_with fail
  refine (outside_anyI 1 32 _).mono ?_
  rintro e w1 ⟨rfl, rfl⟩
  have hb1 : Below w.heap.size w ((w.alloc (.cells #[.int .i64 1] 3)).alloc (.cells #[.int .i64 32] 3)) := ((Below.refl _ _).alloc (Nat.le_refl _) _).alloc (by simp) _
  have hc0 : ((w.alloc (.cells #[.int .i64 1] 3)).alloc (.cells #[.int .i64 32] 3)).cell? ⟨w.heap.size, 0, none⟩ = some (.int .i64 1) := cells_two0 _ _ _ _
  have hc1 : ((w.alloc (.cells #[.int .i64 1] 3)).alloc (.cells #[.int .i64 32] 3)).cell? ⟨w.heap.size + 1, 0, none⟩ = some (.int .i64 32) := cells_two1 _ _ _ _
  have hC := outside1_anyI (m : Int) 1 32 ⟨w.heap.size, 0, none⟩ ⟨w.heap.size + 1, 0, none⟩ _ hc0 hc1
  rw [HO.out] at hC
  have hR1 := hR.below hb1 (Nat.le_refl _)
  generalize (w.alloc (.cells #[.int .i64 1] 3)).alloc (.cells #[.int .i64 32] 3) = W1 at hb1 hC hR1 hc0 hc1 ⊢
  clear hc0 hc1
  go_wp2_with fail
  refine hC.mono ?_
  rintro e w2 ⟨rfl, rfl⟩
  go_wp2_with fail
  refine (checkRegister_any p xs n c hx (by omega) m ⟨by omega, by omega⟩ _ hR1).mono ?_
  rintro e w2 ⟨rfl, hb2⟩
  rw [hr.out]
  have hB2 := hb1.trans (hb2.mono hb1.size)
  clear hC hb1 hb2 hR1
  go_wp2_with (at_make; refine wpList_make_full _ rfl _ _ 22 rfl w2.heap.size 3 i0 (.int .i64 0) 1 Try.underlying22 hi hz0 hz1 .i64 .i64 _ _ M rfl rfl rfl rfl ?c1 ?c2 ?c3 ?_)
  case c1 => rw [hz2]; omega
  case c2 => unfold maxLen; omega
  case c3 => exact Nat.le_refl _
  intro w3 hown hgr
  have hrow := Row.made hown
  have hB3 : Below w.heap.size w w3 := hB2.grown hgr hB2.size (fun k e => by cases e)
  obtain ⟨G, hG⟩ : ∃ G, w2.heap.size = G := ⟨_, rfl⟩
  have hGw : w.heap.size ≤ G := by rw [← hG]; exact hB2.size
  rw [hG] at hrow ⊢
  clear hown hgr hG hB2
  go_wp2
  go_loopw [8, 9, 25] (fun _ _ i wr => ∃ k : Nat, k ≤ n ∧ i = .int .i64 k ∧ Row wr G G M (pairTo xs m k) ∧ Below w.heap.size w wr) (fun _ _ i _ => n - (intOf i).toNat)
  case atStart => exact ⟨0, Nat.zero_le _, rfl, by rw [pairTo, HM.out]; exact hrow, hB3⟩
  case round =>
    obtain ⟨k, hk, rfl, hrw, hb⟩ := hrel
    by_cases hlt : k < n
    · have hkx : k < xs.length := by rw [hx.out]; exact hlt
      obtain ⟨q, o, rfl, hcell⟩ := hR.below hb (Nat.le_refl _) k hkx
      obtain ⟨b, hbb⟩ := Int.eq_ofNat_of_zero_le (HI.out k hkx).1
      have hbl : b < m := by have := (HI.out k hkx).2; omega
      rw [hbb] at hcell
      by_cases h0 : k = 0
      · have HP := Lib.hid (show pairTo xs m (k + 1) = pairTo xs m k by rw [h0]; rfl)
        have hk0 : (k : Int) ≤ 0 := by omega
        have hk0' : decide ((0 : Int) < (k : Int)) = false := decide_eq_false (by omega)
        have hk0n : decide (0 < k) = false := decide_eq_false (by omega)
        clear hbb hkx h0
        go_wp2
        go_roundw
        case rel => exact ⟨k + 1, by omega, by go_num, by rw [HP.out]; exact hrw, hb⟩
        case measure => simp [intOf]; omega
      · obtain ⟨j, hj⟩ : ∃ j, k = j + 1 := ⟨k - 1, by omega⟩
        have hjx : j < xs.length := by omega
        obtain ⟨q', o', he', hcell'⟩ := hR.below hb (Nat.le_refl _) j hjx
        cases he'
        obtain ⟨a, ha⟩ := Int.eq_ofNat_of_zero_le (HI.out j hjx).1
        have hal : a < m := by have := (HI.out j hjx).2; omega
        rw [ha] at hcell'
        obtain ⟨P, hP⟩ : ∃ P, a * m = P := ⟨_, rfl⟩
        obtain ⟨I, hI⟩ : ∃ I, P + b = I := ⟨_, rfl⟩
        have hIl : I < M := by rw [← hI, ← hP, ← HM.out]; exact ix_lt hal hbl
        have hw1 : IntKind.i64.wrap ((a : Int) * (m : Int)) = (P : Int) := by
          rw [← hP, ← Int.natCast_mul]
          exact IntWalk.i64_in _ (by omega)
        have hw2 : IntKind.i64.wrap ((P : Int) + (b : Int)) = (I : Int) := by
          rw [← hI, ← Int.natCast_add]
          exact IntWalk.i64_in _ (by omega)
        have hw3 : IntKind.i64.wrap ((k : Int) - 1) = (j : Int) := by
          rw [hj]
          push_cast
          rw [Int.add_sub_cancel]
          exact IntWalk.i64_in _ (by omega)
        obtain ⟨v, hv⟩ : ∃ v, nth (pairTo xs m k) I = v := ⟨_, rfl⟩
        have hbd := pairTo_bd xs m I k
        rw [hv] at hbd
        obtain ⟨hv0, hv1⟩ := hbd
        have Hset := Lib.hid (hrw.set I (v + 1))
        have Hj : Hid (pairTo xs m (k + 1) = (pairTo xs m k).set I (v + 1)) := by
          show _ = _
          rw [← hv, hj, pairTo_succ, ← hj, ha, hbb]
          show incL _ (a * m + b) = _
          rw [hP, hI]
          rfl
        have hc3 := hrw.cell hIl
        rw [hv] at hc3
        have hf3 := hrw.frozen I
        have hI1 : (I : Int) < (M : Int) := by omega
        have hjn : (j : Int) < (n : Int) := by omega
        have hk0 : (0 : Int) < (k : Int) := by omega
        have hk0' : decide ((0 : Int) < (k : Int)) = true := decide_eq_true hk0
        have hk0n : decide (0 < k) = true := decide_eq_true (by omega)
        have HJ := Lib.hid hj
        clear hP hI hj ha hbb hv hkx hjx h0 hwM
        go_wp2
        go_roundw
        case rel => exact ⟨k + 1, by omega, by go_num, by rw [Hj.out]; exact Hset.out, hb.setCell (p := ⟨G, I, none⟩) hGw _⟩
        case measure => simp [intOf]; omega
    · obtain rfl : k = n := by omega
      go_wp2_with fail
      refine (counted_any p xs k c hx hn m (by omega) (Lib.hid HI.out) _ (hR.below hb (Nat.le_refl _))).mono ?_
      rintro e w5 ⟨g, rfl, hrow5, hb5⟩
      have hr2 := hrw.reads.below hb5 (Nat.le_refl _)
      have hr1 := hrow5.reads
      go_wp2
      first | go_ret2 | go_returns
      exact ⟨⟨_, _, _, _, rfl, hr1, hr2⟩, tr hb hb5⟩
end Go.Proofs.Ytahmhdjoaoldcaa
