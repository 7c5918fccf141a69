/-
  What Check, Total, Over, Sum and Repeat of the reference return, for every list and number.
-/
import Derived.Test.YtagodfaclohkmaaE
import Derived.StillTailTactics
namespace Go.Proofs.Ytagodfaclohkmaa
open Go.RowKit

theorem psum_part {xs : List Int} {k : Nat} (hk : k ≤ xs.length) (h : noneB (outB 0 1000000000000000) xs k) : 0 ≤ psum xs k ∧ psum xs k ≤ k * 1000000000000000 := by
  induction k with
  | zero => simp [psum]
  | succ k ih =>
    have h1 := ih (by omega) (fun i hi => h i (by omega))
    have h2 := h k (by omega)
    simp [outB] at h2
    rw [psum_succ (by omega)]
    omega

set_option maxHeartbeats 1000000 in
theorem refCheck_any (p : Option Addr) (xs : List Int) (c : Nat) (w : World) (hl : xs.length ≤ 9223372036854775807) (hR : Reads w p xs) :
    Calls Try.prog 23 #[.slice p xs.length c] w fun e w' => e = .returned (.int .i64 (chk1 xs)) ∧ Below w.heap.size w w' := by
  by_cases h1 : 4096 < xs.length
  · have Hs : Hid (chk1 xs = 5) := by show _ = _; unfold chk1; rw [if_pos h1]
    go_enter Try.func23, Try.ntmps23
    go_wp2
    go_returns
    exact ⟨by rw [Hs.out]; rfl, Below.refl _ _⟩
  · obtain ⟨D, hD⟩ : ∃ D, chk1 xs = D := ⟨_, rfl⟩
    have Hs : Hid (D = if anyB (outB 0 1000000000000000) xs = true ∨ outB 1 1000000000000000 (lsum xs) = true then 2 else 0) := by show _ = _; rw [← hD]; unfold chk1; rw [if_neg h1]
    rw [hD]
    clear hD
    go_enter Try.func23, Try.ntmps23
    go_wp2
    go_loopw [3, 4] (fun s i wr => ∃ k : Nat, k ≤ xs.length ∧ s = .int .i64 (psum xs k) ∧ i = .int .i64 k ∧ Hid (noneB (outB 0 1000000000000000) xs k) ∧ Below w.heap.size w wr) (fun _ i _ => xs.length - (intOf i).toNat)
    case atStart => exact ⟨0, Nat.zero_le _, by rw [psum_zero], rfl, (fun i hi => by omega), Below.refl _ _⟩
    case round =>
      obtain ⟨k, hk, rfl, rfl, Hn, hb⟩ := hrel
      obtain ⟨b1, b2⟩ := psum_part hk Hn.out
      by_cases hlt : k < xs.length
      · obtain ⟨q, o, rfl, hcell⟩ := hR.below hb (Nat.le_refl _) k hlt
        have hki : (k : Int) < (xs.length : Int) := by omega
        by_cases x1 : nth xs k < 0
        · have Hd : Hid (D = 2) := by show _ = _; rw [Hs.out, if_pos (Or.inl (anyB_true hlt (by simp [outB]; omega)))]
          go_wp2
          go_returns
          exact ⟨by rw [Hd.out]; rfl, hb⟩
        · by_cases x2 : 1000000000000000 < nth xs k
          · have Hd : Hid (D = 2) := by show _ = _; rw [Hs.out, if_pos (Or.inl (anyB_true hlt (by simp [outB]; omega)))]
            go_wp2
            go_returns
            exact ⟨by rw [Hd.out]; rfl, hb⟩
          · have hps := Lib.hid (psum_succ hlt)
            go_wp2
            go_roundw
            case rel => exact ⟨k + 1, by omega, by rw [hps.out], by go_num, noneB_succ Hn.out (by simp [outB]; omega), hb⟩
            case measure => simp [intOf]; omega
      · obtain rfl : k = xs.length := by omega
        have hall : anyB (outB 0 1000000000000000) xs = false := anyB_false Hn.out
        have hps := psum_all xs
        rw [hps] at b1 b2 ⊢
        have Hd : Hid (D = if outB 1 1000000000000000 (lsum xs) = true then 2 else 0) := by show _ = _; rw [Hs.out]; simp [hall]
        clear hps hall
        by_cases x1 : lsum xs < 1
        · have Hd2 : Hid (D = 2) := by show _ = _; rw [Hd.out, if_pos (by simp [outB]; omega)]
          go_wp2
          go_returns
          exact ⟨by rw [Hd2.out]; rfl, hb⟩
        · by_cases x2 : 1000000000000000 < lsum xs
          · have Hd2 : Hid (D = 2) := by show _ = _; rw [Hd.out, if_pos (by simp [outB]; omega)]
            go_wp2
            go_returns
            exact ⟨by rw [Hd2.out]; rfl, hb⟩
          · have Hd2 : Hid (D = 0) := by show _ = _; rw [Hd.out, if_neg (by simp [outB]; omega)]
            go_wp2
            go_returns
            exact ⟨by rw [Hd2.out]; rfl, hb⟩

set_option maxHeartbeats 1000000 in
theorem refTotal_any (p : Option Addr) (xs : List Int) (c : Nat) (w : World) (hl : xs.length ≤ 4096) (hs : Small xs) (hR : Reads w p xs) :
    Calls Try.prog 27 #[.slice p xs.length c] w fun e w' => e = .returned (.int .i64 (lsum xs)) ∧ Below w.heap.size w w' := by
  go_enter Try.func27, Try.ntmps27
  go_wp2
  go_loopw [3, 4] (fun s i wr => ∃ k : Nat, k ≤ xs.length ∧ s = .int .i64 (psum xs k) ∧ i = .int .i64 k ∧ Below w.heap.size w wr) (fun _ i _ => xs.length - (intOf i).toNat)
  case atStart => exact ⟨0, Nat.zero_le _, by rw [psum_zero], rfl, Below.refl _ _⟩
  case round =>
    obtain ⟨k, hk, rfl, rfl, hb⟩ := hrel
    obtain ⟨b1, b2⟩ := psum_bd hs hk
    by_cases hlt : k < xs.length
    · obtain ⟨q, o, rfl, hcell⟩ := hR.below hb (Nat.le_refl _) k hlt
      have hki : (k : Int) < (xs.length : Int) := by omega
      obtain ⟨x1, x2⟩ := hs k hlt
      have hps := Lib.hid (psum_succ hlt)
      go_wp2
      go_roundw
      case rel => exact ⟨k + 1, by omega, by rw [hps.out], by go_num, hb⟩
      case measure => simp [intOf]; omega
    · obtain rfl : k = xs.length := by omega
      have hps := psum_all xs
      rw [hps] at b1 b2 ⊢
      clear hps
      go_wp2
      go_returns
      exact ⟨rfl, hb⟩

set_option maxHeartbeats 1000000 in
/-- Over: for numbers from 0 on. -/
theorem refOver_any (a b : Int) (w : World) (ha : 0 ≤ a) (ha2 : a ≤ 9223372036854775807) :
    Calls Try.prog 77 #[.int .i64 a, .int .i64 b] w fun e w' => e = .returned (.bool (decide (1000000000000000 < a * b))) ∧ Below w.heap.size w w' := by
  by_cases h0 : 0 < a
  · have hw : IntKind.i64.wrap ((1000000000000000 : Int).tdiv a) = 1000000000000000 / a := by
      have h1 : (1000000000000000 : Int).tdiv a = 1000000000000000 / a := Int.tdiv_eq_ediv_of_nonneg (by omega)
      have h2 := Int.ediv_nonneg (a := 1000000000000000) (b := a) (by omega) (by omega)
      have h3 := Int.ediv_le_self (a := 1000000000000000) a (by omega)
      rw [h1]
      exact IntWalk.i64_in _ (by omega)
    have hz : (a == 0) = false := by simp; omega
    have hd : b ≤ 1000000000000000 / a ↔ b * a ≤ 1000000000000000 := le_div (by omega)
    rw [Int.mul_comm b a] at hd
    by_cases h1 : b ≤ 1000000000000000 / a
    · have Hd : Hid (decide (1000000000000000 < a * b) = false) := by
        have := hd.1 h1
        show _ = _; simp; omega
      have h1' : ¬ 1000000000000000 / a < b := by omega
      go_enter Try.func77, Try.ntmps77
      go_wp2
      go_returns
      exact ⟨by rw [Hd.out]; simp, Below.refl _ _⟩
    · have Hd : Hid (decide (1000000000000000 < a * b) = true) := by
        have : ¬ a * b ≤ 1000000000000000 := fun h => h1 (hd.2 h)
        show _ = _; simp; omega
      have h1' : 1000000000000000 / a < b := by omega
      go_enter Try.func77, Try.ntmps77
      go_wp2
      go_returns
      exact ⟨by rw [Hd.out]; rfl, Below.refl _ _⟩
  · obtain rfl : a = 0 := by omega
    go_enter Try.func77, Try.ntmps77
    go_wp2
    go_returns
    exact ⟨by simp, Below.refl _ _⟩

/-- What Sum of the reference returns: an error. -/
def Err2 (x : Int) (e : Ending) : Prop := e = .returned (.tuple #[.slice none 0 0, .int .i64 x])

theorem chkP_first {a b : List Int} {n : Int} (h : chk1 a ≠ 0) : chkP a b n = chk1 a := by
  have h2 : chkL [a, b] = chk1 a := chkL_at (ls := [a, b]) (k := 0) (by simp) (fun i hi => by omega) h
  unfold chkP
  rw [if_pos (by rw [h2]; exact h), h2]
theorem chkP_second {a b : List Int} {n : Int} (h0 : chk1 a = 0) (h : chk1 b ≠ 0) : chkP a b n = chk1 b := by
  have h2 : chkL [a, b] = chk1 b := chkL_at (ls := [a, b]) (k := 1) (by simp) (fun i hi => by obtain rfl : i = 0 := by omega
                                                                                              exact h0) h
  unfold chkP
  rw [if_pos (by rw [h2]; exact h), h2]
theorem chkP_rest {a b : List Int} {n : Int} (h0 : chk1 a = 0) (h : chk1 b = 0) : chkP a b n = if 4096 < n then 5 else if 1000000000000000 / lsum b < lsum a then 10 else 0 := by
  have h2 : chkL [a, b] = 0 := chkL_all (ls := [a, b]) (fun k hk => by
    rcases k with _ | _ | k
    · exact h0
    · exact h
    · simp at hk; omega)
  unfold chkP
  rw [if_neg (by rw [h2]; simp)]

set_option maxRecDepth 100000 in
set_option maxHeartbeats 4000000 in
theorem refSum_ok (pa : Option Addr) (a : List Int) (ca : Nat) (pb : Option Addr) (b : List Int) (cb : Nat) (w : World) (a1 : a.length ≤ 4096) (a2 : Small a) (a3 : 1 ≤ lsum a) (a4 : lsum a ≤ 1000000000000000) (b1 : b.length ≤ 4096) (b2 : Small b) (_b3 : 1 ≤ lsum b) (_b4 : lsum b ≤ 1000000000000000)
    (hla : 1 ≤ a.length) (hlb : 1 ≤ b.length) (h3 : ¬ 4096 < (a.length : Int) + b.length - 1) (hle : lsum a * lsum b ≤ 1000000000000000) (K1 : Hid (chk1 a = 0)) (K2 : Hid (chk1 b = 0)) (Hs : Hid (sSum a b = (conv a b, 0))) (Ho : Hid (decide (1000000000000000 < lsum a * lsum b) = false)) (hRa : Reads w pa a) (hRb : Reads w pb b) :
    Calls Try.prog 47 #[.slice pa a.length ca, .slice pb b.length cb] w fun e w' => ∃ p c, e = .returned (.tuple #[.slice p (sSum a b).1.length c, .int .i64 (sSum a b).2]) ∧ Reads w' p (sSum a b).1 ∧ Below w.heap.size w w' := by
  obtain ⟨i0, hi, hz0, hz1, hz2⟩ := info_parts (show (Try.prog.info? 3).map (fun i => (i.zero, i.size, i.bytes)) = some (some (.int .i64 0), 1, 8) by kernel_rfl)
  obtain ⟨n, hnn⟩ : ∃ n : Nat, n + 1 = a.length + b.length := ⟨a.length + b.length - 1, by omega⟩
  have hn1 : a.length + b.length - 1 = n := by omega
  have hn2 : (a.length + b.length - 1 : Int) = (n : Int) := by omega
  have hn : n ≤ 4096 := by omega
  have hle' : a.length + b.length ≤ n + 1 := by omega
  have Hc : Hid (conv a b = sumTo n a b a.length) := by show _ = _; unfold conv; rw [hn1]
  have Hst := Lib.hid (fun i j (hi : i < a.length) (hj : j < b.length) => conv_step a2.pos b2.pos hle' hle hi hj)
  have Hn2 := Lib.hid hn2
  clear hn2 hn1 hnn hle
  go_enter Try.func47, Try.ntmps47
  go_wp2_with fail
  go_call (refCheck_any pa a ca w (by omega) hRa) as e w1 ⟨rfl, hb1⟩
  rw [K1.out]
  go_wp2_with fail
  go_call (refCheck_any pb b cb w1 (by omega) (hRb.below hb1 (Nat.le_refl _))) as e w2 ⟨rfl, hb2⟩
  rw [K2.out]
  have hB2 := tr hb1 hb2
  clear hb1 hb2
  go_wp2_with fail
  go_call (refTotal_any pa a ca w2 a1 a2 (hRa.below hB2 (Nat.le_refl _))) as e w3 ⟨rfl, hb3⟩
  have hB3 := tr hB2 hb3
  clear hB2 hb3
  go_wp2_with fail
  go_call (refTotal_any pb b cb w3 b1 b2 (hRb.below hB3 (Nat.le_refl _))) as e w4 ⟨rfl, hb4⟩
  have hB4 := tr hB3 hb4
  clear hB3 hb4
  go_wp2_with fail
  go_call (refOver_any (lsum a) (lsum b) w4 (by omega) (by omega)) as e w5 ⟨rfl, hb5⟩
  rw [Ho.out]
  have hB5 := tr hB4 hb5
  clear hB4 hb5
  go_wp2_with (at_make; refine wpList_make_full _ rfl _ _ 22 rfl w.heap.size 3 i0 (.int .i64 0) 1 Try.underlying22 hi hz0 hz1 .i64 .i64 _ _ n rfl rfl ?d1 ?d2 ?c1 ?c2 ?c3 ?_)
  case d1 => exact Hn2.out
  case d2 => exact Hn2.out
  case c1 => rw [hz2]; omega
  case c2 => unfold maxLen; omega
  case c3 => exact hB5.size
  intro w6 hown hgr
  have hrow := Row.made hown
  have hb2 : Below w.heap.size w w6 := hB5.grown hgr hB5.size (fun k e => by cases e)
  have hgB := hB5.size
  clear hown hgr
  obtain ⟨g, hg⟩ : ∃ g, w5.heap.size = g := ⟨_, rfl⟩
  rw [hg] at hrow hgB ⊢
  clear hg
  go_wp2
  go_loopw [9] (fun i wr => ∃ k : Nat, k ≤ a.length ∧ i = .int .i64 k ∧ Row wr w.heap.size g n (sumTo n a b k) ∧ Below w.heap.size w wr) (fun i _ => a.length - (intOf i).toNat)
  case atStart => exact ⟨0, Nat.zero_le _, rfl, hrow, hb2⟩
  case round =>
    obtain ⟨k, hk, rfl, hrw, hb⟩ := hrel
    by_cases hlt : k < a.length
    · obtain ⟨q, o, rfl, hcell0⟩ := hRa.below hb (Nat.le_refl _) k hlt
      clear hcell0
      have hki : (k : Int) < (a.length : Int) := by omega
      go_wp2
      obtain ⟨wo, rfl⟩ : ∃ wo : World, wo = wr := ⟨_, rfl⟩
      go_loopw [10] (fun j wr => ∃ m : Nat, m ≤ b.length ∧ j = .int .i64 m ∧ Row wr w.heap.size g n (addRow (sumTo n a b k) k (nth a k) b m) ∧ Below w.heap.size w wr) (fun j _ => b.length - (intOf j).toNat)
      case atStart => exact ⟨0, Nat.zero_le _, rfl, hrw, hb⟩
      case round =>
        obtain ⟨m, hm, rfl, hrm, hbm⟩ := hrel
        by_cases hmt : m < b.length
        · obtain ⟨q1, o1, hqq, hcell⟩ := hRa.below hbm (Nat.le_refl _) k hlt
          cases hqq
          obtain ⟨q2, o2, rfl, hcell2⟩ := hRb.below hbm (Nat.le_refl _) m hmt
          obtain ⟨s1, s2, s3⟩ := Hst.out k m hlt hmt
          have hmi : (m : Int) < (b.length : Int) := by omega
          have hc3 := hrm.cell (k := k + m) (by omega)
          have hf3 := hrm.frozen (k + m)
          have ht : ((k : Int) + (m : Int)).toNat = k + m := by omega
          have e1 : IntKind.i64.wrap ((k : Int) + (m : Int)) = (k : Int) + (m : Int) := IntWalk.i64_in _ (by omega)
          have e2 : IntKind.i64.wrap (nth a k * nth b m) = nth a k * nth b m := IntWalk.i64_in _ (by omega)
          have e3 : IntKind.i64.wrap (nth (addRow (sumTo n a b k) k (nth a k) b m) (k + m) + nth a k * nth b m) = nth (addRow (sumTo n a b k) k (nth a k) b m) (k + m) + nth a k * nth b m := IntWalk.i64_in _ (by omega)
          have hkm : (k : Int) + (m : Int) < (n : Int) := by omega
          have hkm0 : 0 ≤ (k : Int) + (m : Int) := by omega
          have E := Lib.hid (And.intro e1 (And.intro e2 e3))
          clear e1 e2 e3
          go_wp2
          obtain ⟨e1, e2, e3⟩ := E.out
          go_still_tail 17, (by kernel_rfl)
          clear e1 e2 e3
          go_wp2
          go_roundw
          case rel => exact ⟨m + 1, by omega, by go_num, (by exact hrm.set (k + m) (nth (addRow (sumTo n a b k) k (nth a k) b m) (k + m) + nth a k * nth b m)), (hbm.setCell (p := ⟨g, k + m, none⟩) hgB _).drew⟩
          case measure => simp [intOf]; omega
        · obtain rfl : m = b.length := by omega
          go_wp2
          go_roundw
          case rel => exact ⟨k + 1, by omega, by go_num, hrm, hbm⟩
          case measure => simp [intOf]; omega
    · obtain rfl : k = a.length := by omega
      go_wp2
      go_ret2
      have hl := hrw.1
      refine ⟨some ⟨g, 0, none⟩, n, ?_, ?_, hb⟩
      · rw [Hs.out, Hc.out, hl]; rfl
      · rw [Hs.out, Hc.out]; exact hrw.reads

set_option maxHeartbeats 2000000 in
theorem refSum_any (pa : Option Addr) (a : List Int) (ca : Nat) (pb : Option Addr) (b : List Int) (cb : Nat) (w : World) (hxa : a.length ≤ 1000000000000000) (hxb : b.length ≤ 1000000000000000) (hRa : Reads w pa a) (hRb : Reads w pb b) :
    Calls Try.prog 47 #[.slice pa a.length ca, .slice pb b.length cb] w fun e w' => ∃ p c, e = .returned (.tuple #[.slice p (sSum a b).1.length c, .int .i64 (sSum a b).2]) ∧ Reads w' p (sSum a b).1 ∧ Below w.heap.size w w' := by
  by_cases k1 : chk1 a = 0
  · by_cases k2 : chk1 b = 0
    · obtain ⟨a1, a2, a3, a4⟩ := chk1_ok k1
      obtain ⟨b1, b2, b3, b4⟩ := chk1_ok k2
      have hla : 1 ≤ a.length := by
        rcases a with _ | ⟨x, r⟩
        · simp [lsum] at a3
        · simp
      have hlb : 1 ≤ b.length := by
        rcases b with _ | ⟨x, r⟩
        · simp [lsum] at b3
        · simp
      have K1 := Lib.hid k1
      have K2 := Lib.hid k2
      have hr := chkP_rest (n := a.length + b.length - 1) k1 k2
      clear k1 k2
      by_cases h3 : 4096 < (a.length : Int) + b.length - 1
      · have Hs : Hid (sSum a b = ([], 5)) := by show _ = _; unfold sSum; rw [hr, if_pos h3]; rfl
        clear hr
        go_enter Try.func47, Try.ntmps47
        go_wp2_with fail
        go_call (refCheck_any pa a ca w (by omega) hRa) as e w1 ⟨rfl, hb1⟩
        rw [K1.out]
        go_wp2_with fail
        go_call (refCheck_any pb b cb w1 (by omega) (hRb.below hb1 (Nat.le_refl _))) as e w2 ⟨rfl, hb2⟩
        rw [K2.out]
        go_wp2
        go_ret2
        exact ⟨none, 0, by rw [Hs.out]; rfl, by rw [Hs.out]; exact Reads.nil _ _, tr hb1 hb2⟩
      · have hd : lsum a ≤ 1000000000000000 / lsum b ↔ lsum a * lsum b ≤ 1000000000000000 := le_div (by omega)
        rw [if_neg h3] at hr
        by_cases h4 : 1000000000000000 < lsum a * lsum b
        · have hn : ¬ lsum a * lsum b ≤ 1000000000000000 := by omega
          have hov : decide (1000000000000000 < lsum a * lsum b) = true := by simp [h4]
          rw [if_pos (by have := mt hd.1 hn; omega)] at hr
          have Hs : Hid (sSum a b = ([], 10)) := by show _ = _; unfold sSum; rw [hr]; rfl
          have Ho := Lib.hid hov
          clear hr hd hn hov
          go_enter Try.func47, Try.ntmps47
          go_wp2_with fail
          go_call (refCheck_any pa a ca w (by omega) hRa) as e w1 ⟨rfl, hb1⟩
          rw [K1.out]
          go_wp2_with fail
          go_call (refCheck_any pb b cb w1 (by omega) (hRb.below hb1 (Nat.le_refl _))) as e w2 ⟨rfl, hb2⟩
          rw [K2.out]
          have hB2 := tr hb1 hb2
          clear hb1 hb2
          go_wp2_with fail
          go_call (refTotal_any pa a ca w2 a1 a2 (hRa.below hB2 (Nat.le_refl _))) as e w3 ⟨rfl, hb3⟩
          have hB3 := tr hB2 hb3
          clear hB2 hb3
          go_wp2_with fail
          go_call (refTotal_any pb b cb w3 b1 b2 (hRb.below hB3 (Nat.le_refl _))) as e w4 ⟨rfl, hb4⟩
          have hB4 := tr hB3 hb4
          clear hB3 hb4
          go_wp2_with fail
          go_call (refOver_any (lsum a) (lsum b) w4 (by omega) (by omega)) as e w5 ⟨rfl, hb5⟩
          rw [Ho.out]
          go_wp2
          go_ret2
          exact ⟨none, 0, by rw [Hs.out]; rfl, by rw [Hs.out]; exact Reads.nil _ _, tr hB4 hb5⟩
        · have hle : lsum a * lsum b ≤ 1000000000000000 := by omega
          have hov : decide (1000000000000000 < lsum a * lsum b) = false := by simp; omega
          rw [if_neg (by have := hd.2 hle; omega)] at hr
          have Hs : Hid (sSum a b = (conv a b, 0)) := by show _ = _; unfold sSum; rw [hr]; rfl
          have Ho := Lib.hid hov
          clear hr hd hov
          exact refSum_ok pa a ca pb b cb w a1 a2 a3 a4 b1 b2 b3 b4 hla hlb h3 hle K1 K2 Hs Ho hRa hRb
    · have hr := chkP_second (n := a.length + b.length - 1) k1 k2
      have K1 := Lib.hid k1
      obtain ⟨x, hx⟩ : ∃ x, chk1 b = x := ⟨_, rfl⟩
      rw [hx] at hr k2
      have Hx := Lib.hid hx
      have hs : sSum a b = ([], x) := by unfold sSum; rw [hr, if_neg k2]
      have Hs := Lib.hid hs
      have hb' : (x != 0) = true := by simpa using k2
      clear k1 k2 hx hr hs
      go_enter Try.func47, Try.ntmps47
      go_wp2_with fail
      go_call (refCheck_any pa a ca w (by omega) hRa) as e w1 ⟨rfl, hb1⟩
      rw [K1.out]
      go_wp2_with fail
      go_call (refCheck_any pb b cb w1 (by omega) (hRb.below hb1 (Nat.le_refl _))) as e w2 ⟨rfl, hb2⟩
      rw [Hx.out]
      go_wp2
      go_ret2
      exact ⟨none, 0, by rw [Hs.out]; rfl, by rw [Hs.out]; exact Reads.nil _ _, tr hb1 hb2⟩
  · have hr := chkP_first (b := b) (n := a.length + b.length - 1) k1
    obtain ⟨x, hx⟩ : ∃ x, chk1 a = x := ⟨_, rfl⟩
    rw [hx] at hr k1
    have Hx := Lib.hid hx
    have hs : sSum a b = ([], x) := by unfold sSum; rw [hr, if_neg k1]
    have Hs := Lib.hid hs
    have hb' : (x != 0) = true := by simpa using k1
    clear k1 hx hr hs
    go_enter Try.func47, Try.ntmps47
    go_wp2_with fail
    go_call (refCheck_any pa a ca w (by omega) hRa) as e w1 ⟨rfl, hb1⟩
    rw [Hx.out]
    go_wp2
    go_ret2
    exact ⟨none, 0, by rw [Hs.out]; rfl, by rw [Hs.out]; exact Reads.nil _ _, hb1⟩

set_option maxRecDepth 100000 in
set_option maxHeartbeats 4000000 in
theorem refRepeat_ok (p : Option Addr) (xs : List Int) (c : Nat) (t : Nat) (w : World) (hR : Reads w p xs) (hk0 : chk1 xs = 0) (ht : t ≤ 64) (hn : ¬ 4096 < (t : Int) * (xs.length - 1) + 1) :
    Calls Try.prog 50 #[.slice p xs.length c, .int .i64 t] w fun e w' => ∃ p' c', e = .returned (.tuple #[.slice p' (repRes xs t).1.length c', .int .i64 (repRes xs t).2]) ∧ Reads w' p' (repRes xs t).1 ∧ Below w.heap.size w w' := by
  obtain ⟨a1, a2, a3, a4⟩ := chk1_ok hk0
  have hl1 : 1 ≤ xs.length := by
    rcases xs with _ | ⟨x, r⟩
    · simp [lsum] at a3
    · simp
  have hm0 : 0 ≤ (t : Int) * (xs.length - 1) := Int.mul_nonneg (by omega) (by omega)
  have He := Lib.hid hk0
  clear hk0
  go_enter Try.func50, Try.ntmps50
  go_wp2_with fail
  go_call (refCheck_any p xs c w (by omega) hR) as e w1 ⟨rfl, hb1⟩
  rw [He.out]
  go_wp2
  go_loopw [7, 8] (fun v i wr => ∃ k : Nat, k ≤ t ∧ i = .int .i64 k ∧ Hid ((repRes xs k).2 = 0) ∧ (∃ p' c', v = .slice p' (repRes xs k).1.length c' ∧ Reads wr p' (repRes xs k).1) ∧ Below w.heap.size w wr) (fun _ i _ => t - (intOf i).toNat)
  case atStart => exact ⟨0, Nat.zero_le _, rfl, by show _ = _; simp [repRes], ⟨_, 1, rfl, fun k hk => ⟨w1.heap.size, 0, rfl, by
    obtain rfl : k = 0 := by simp [repRes] at hk; omega
    rw [World.cell?_alloc_at _ _ _ _ rfl]; simp [repRes, nth]⟩⟩, hb1.alloc hb1.size _⟩
  case round =>
    obtain ⟨k, hk, rfl, Hz, ⟨p', c', rfl, hR'⟩, hbr⟩ := hrel
    by_cases hlt : k < t
    · have hlen := repRes_length xs k
      have hki : (k : Int) < (t : Int) := by omega
      have Hs : Hid (repRes xs (k + 1) = sSum (repRes xs k).1 xs) := by show _ = _; rw [repRes, if_pos Hz.out]
      go_wp2_with fail
      go_call (refSum_any p' (repRes xs k).1 c' p xs c wr (by omega) (by omega) hR' (hR.below hbr (Nat.le_refl _))) as e w4 ⟨p2, c2, rfl, hR4, hB4⟩
      rw [← Hs.out] at hR4 ⊢
      by_cases hz : (repRes xs (k + 1)).2 = 0
      · have Hz1 := Lib.hid hz
        rw [hz]
        clear hz
        go_wp2
        go_roundw
        case rel => exact ⟨k + 1, by omega, by go_num, Hz1, ⟨p2, c2, rfl, hR4⟩, hbr.trans (hB4.mono hbr.size)⟩
        case measure => simp [intOf]; omega
      · have Hst := Lib.hid (repRes_stop (show k + 1 ≤ t by omega) hz)
        have Hnil := Lib.hid (repRes_nil hz)
        obtain ⟨x, hx⟩ : ∃ x, (repRes xs (k + 1)).2 = x := ⟨_, rfl⟩
        rw [hx] at hz ⊢
        have hb : (x == 0) = false := by simpa using hz
        have hb' : (x != 0) = true := by simpa using hz
        have Hx := Lib.hid hx
        clear hx hz
        go_wp2
        go_ret2
        exact ⟨none, 0, by rw [Hst.out, Hnil.out, Hx.out]; rfl, by rw [Hst.out, Hnil.out]; exact Reads.nil _ _, hbr.trans (hB4.mono hbr.size)⟩
    · obtain rfl : k = t := by omega
      go_wp2
      go_ret2
      exact ⟨p', c', by rw [Hz.out]; rfl, hR', hbr⟩

set_option maxHeartbeats 1000000 in
theorem refRepeat_any (p : Option Addr) (xs : List Int) (c : Nat) (t : Int) (w : World) (hl : xs.length ≤ 1000000000000000) (hR : Reads w p xs) :
    Calls Try.prog 50 #[.slice p xs.length c, .int .i64 t] w fun e w' => ∃ p' c', e = .returned (.tuple #[.slice p' (sRep xs t).1.length c', .int .i64 (sRep xs t).2]) ∧ Reads w' p' (sRep xs t).1 ∧ Below w.heap.size w w' := by
  by_cases h0 : chk1 xs = 0
  · obtain ⟨a1, a2, a3, a4⟩ := chk1_ok h0
    have He := Lib.hid h0
    by_cases x1 : t < 0
    · have Hs : Hid (sRep xs t = ([], 3)) := by show _ = _; simp [sRep, h0, x1]
      clear h0
      go_enter Try.func50, Try.ntmps50
      go_wp2_with fail
      go_call (refCheck_any p xs c w (by omega) hR) as e w1 ⟨rfl, hb1⟩
      rw [He.out]
      go_wp2
      go_ret2
      exact ⟨none, 0, by rw [Hs.out]; rfl, by rw [Hs.out]; exact Reads.nil _ _, hb1⟩
    · by_cases x2 : 64 < t
      · have Hs : Hid (sRep xs t = ([], 3)) := by show _ = _; simp [sRep, h0, x2]
        clear h0
        go_enter Try.func50, Try.ntmps50
        go_wp2_with fail
        go_call (refCheck_any p xs c w (by omega) hR) as e w1 ⟨rfl, hb1⟩
        rw [He.out]
        go_wp2
        go_ret2
        exact ⟨none, 0, by rw [Hs.out]; rfl, by rw [Hs.out]; exact Reads.nil _ _, hb1⟩
      · obtain ⟨n, rfl⟩ := Int.eq_ofNat_of_zero_le (show 0 ≤ t by omega)
        by_cases h2 : 4096 < (n : Int) * (xs.length - 1) + 1
        · have Hs : Hid (sRep xs n = ([], 5)) := by show _ = _; simp only [sRep]; rw [if_neg (by simpa using h0), if_neg (by omega), if_pos h2]
          have hl1 : 1 ≤ xs.length := by
            rcases xs with _ | ⟨x, r⟩
            · simp [lsum] at a3
            · simp
          have hm0 : 0 ≤ (n : Int) * (xs.length - 1) := Int.mul_nonneg (by omega) (by omega)
          have hm1 : (n : Int) * (xs.length - 1) ≤ 64 * (xs.length - 1) := Int.mul_le_mul_of_nonneg_right (by omega) (by omega)
          clear h0
          go_enter Try.func50, Try.ntmps50
          go_wp2_with fail
          go_call (refCheck_any p xs c w (by omega) hR) as e w1 ⟨rfl, hb1⟩
          rw [He.out]
          go_wp2
          go_ret2
          exact ⟨none, 0, by rw [Hs.out]; rfl, by rw [Hs.out]; exact Reads.nil _ _, hb1⟩
        · have Hs : sRep xs n = repRes xs n := by simp only [sRep]; rw [if_neg (by simpa using h0), if_neg (by omega), if_neg h2, Int.toNat_natCast]
          rw [Hs]
          exact refRepeat_ok p xs c n w hR h0 (by omega) h2
  · obtain ⟨x, hx⟩ : ∃ x, chk1 xs = x := ⟨_, rfl⟩
    have Hs : Hid (sRep xs t = ([], x)) := by show _ = _; simp only [sRep]; rw [if_pos h0, hx]
    rw [hx] at h0
    have hb : (x == 0) = false := by simpa using h0
    have hb' : (x != 0) = true := by simpa using h0
    have Hx := Lib.hid hx
    clear hx h0
    go_enter Try.func50, Try.ntmps50
    go_wp2_with fail
    go_call (refCheck_any p xs c w (by omega) hR) as e w1 ⟨rfl, hb1⟩
    rw [Hx.out]
    go_wp2
    go_ret2
    exact ⟨none, 0, by rw [Hs.out]; rfl, by rw [Hs.out]; exact Reads.nil _ _, hb1⟩
end Go.Proofs.Ytagodfaclohkmaa
