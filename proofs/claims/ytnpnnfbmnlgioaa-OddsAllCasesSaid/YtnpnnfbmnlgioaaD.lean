/-
  What checkPair, Sum and Repeat of package odds do, for every list and number.
-/
import Derived.Test.YtnpnnfbmnlgioaaC
namespace Go.Proofs.Ytnpnnfbmnlgioaa
open Go.RowKit

theorem nthL_zero (x : List Int) (r : List (List Int)) : nthL (x :: r) 0 = x := rfl
theorem nthL_one (x y : List Int) (r : List (List Int)) : nthL (x :: y :: r) 1 = y := rfl

/-- check of one list that stands in new memory. -/
theorem check1 (p : Option Addr) (xs : List Int) (c q : Nat) (w : World) (hx : xs.length ≤ 9223372036854775807) (h0 : w.cell? ⟨q, 0, none⟩ = some (.slice p xs.length c)) (hR : Reads w p xs) :
    Calls Try.prog 47 #[.slice (some ⟨q, 0, none⟩) 1 1] w fun e w' => e = .returned (.int .i64 (chk1 xs)) ∧ Below w.heap.size w w' :=
  (check_any (some ⟨q, 0, none⟩) [xs] 1 w (by simp) (fun k hk => by
      obtain rfl : k = 0 := by simp at hk; omega
      exact hx) (fun k hk => by
      obtain rfl : k = 0 := by simp at hk; omega
      exact ⟨q, 0, rfl, p, c, h0, hR⟩)).mono fun e w' ⟨he, hb⟩ => ⟨by rw [he]; unfold chkL; split <;> simp_all [chkL], hb⟩

/-- check of two. -/
theorem check2 (pa : Option Addr) (a : List Int) (ca : Nat) (pb : Option Addr) (b : List Int) (cb q : Nat) (w : World) (hxa : a.length ≤ 9223372036854775807) (hxb : b.length ≤ 9223372036854775807)
    (h0 : w.cell? ⟨q, 0, none⟩ = some (.slice pa a.length ca)) (h1 : w.cell? ⟨q, 1, none⟩ = some (.slice pb b.length cb)) (hRa : Reads w pa a) (hRb : Reads w pb b) :
    Calls Try.prog 47 #[.slice (some ⟨q, 0, none⟩) 2 2] w fun e w' => e = .returned (.int .i64 (chkL [a, b])) ∧ Below w.heap.size w w' :=
  check_any (some ⟨q, 0, none⟩) [a, b] 2 w (by simp) (fun k hk => by
      rcases k with _ | _ | k
      · exact hxa
      · exact hxb
      · simp at hk; omega) (fun k hk => by
      rcases k with _ | _ | k
      · exact ⟨q, 0, rfl, pa, ca, h0, hRa⟩
      · exact ⟨q, 0, rfl, pb, cb, h1, hRb⟩
      · simp at hk; omega)

theorem chk2_ok {a b : List Int} (h : chkL [a, b] = 0) : chk1 a = 0 ∧ chk1 b = 0 := by
  unfold chkL at h
  split at h
  · rename_i ha
    refine ⟨ha, ?_⟩
    unfold chkL at h
    split at h
    · assumption
    · exact h
  · exact absurd h (by assumption)

/-- The error of two lists of which one with n outcomes is made. -/
def chkP (a b : List Int) (n : Int) : Int := if chkL [a, b] ≠ 0 then chkL [a, b] else if 4096 < n then 5 else if 1000000000000000 / lsum b < lsum a then 10 else 0

set_option maxHeartbeats 1000000 in
theorem checkPair_any (pa : Option Addr) (a : List Int) (ca : Nat) (pb : Option Addr) (b : List Int) (cb : Nat) (n : Int) (w : World) (hxa : a.length ≤ 9223372036854775807) (hxb : b.length ≤ 9223372036854775807) (hRa : Reads w pa a) (hRb : Reads w pb b) :
    Calls Try.prog 72 #[.slice pa a.length ca, .slice pb b.length cb, .int .i64 n] w fun e w' => e = .returned (.int .i64 (chkP a b n)) ∧ Below w.heap.size w w' := by
  by_cases he : chkL [a, b] = 0
  · obtain ⟨ka, kb⟩ := chk2_ok he
    obtain ⟨a1, a2, a3, a4⟩ := chk1_ok ka
    obtain ⟨b1, b2, b3, b4⟩ := chk1_ok kb
    have He := Lib.hid he
    clear he ka kb
    by_cases hn : 4096 < n
    · go_enter Try.func72, Try.ntmps72
      go_wp2_with fail
      go_call (check2 pa a ca pb b cb w.heap.size _ hxa hxb (by go_simp) (by go_simp) (hRa.below (Below.alloc (Below.refl _ _) (Nat.le_refl _) _) (Nat.le_refl _)) (hRb.below (Below.alloc (Below.refl _ _) (Nat.le_refl _) _) (Nat.le_refl _))) as e w1 ⟨rfl, hb1⟩
      rw [He.out]
      go_wp2
      go_ret
      exact ⟨ret_int (by simp [chkP, He.out, hn]), (Below.alloc (Below.refl _ _) (Nat.le_refl _) _).trans (hb1.mono (by simp))⟩
    · go_enter Try.func72, Try.ntmps72
      go_wp2_with fail
      go_call (check2 pa a ca pb b cb w.heap.size _ hxa hxb (by go_simp) (by go_simp) (hRa.below (Below.alloc (Below.refl _ _) (Nat.le_refl _) _) (Nat.le_refl _)) (hRb.below (Below.alloc (Below.refl _ _) (Nat.le_refl _) _) (Nat.le_refl _))) as e w1 ⟨rfl, hb1⟩
      rw [He.out]
      have hB1 : Below w.heap.size w w1 := (Below.alloc (Below.refl _ _) (Nat.le_refl _) _).trans (hb1.mono (by simp))
      clear hb1
      go_wp2_with fail
      go_call (total_any pa a ca w1 a1 a2 (hRa.below hB1 (Nat.le_refl _))) as e w2 ⟨rfl, hb2⟩
      go_wp2_with fail
      go_call (total_any pb b cb w2 b1 b2 (hRb.below (tr hB1 hb2) (Nat.le_refl _))) as e w3 ⟨rfl, hb3⟩
      by_cases ho : lsum a ≤ 1000000000000000 / lsum b
      · go_wp2_with fail
        go_call (product_ok (lsum a) (lsum b) w3 (by omega) (by omega) ho) as e w' ⟨rfl, rfl⟩
        go_wp2
        go_ret
        exact ⟨ret_int (by simp [chkP, He.out]; omega), tr hB1 (tr hb2 hb3)⟩
      · go_wp2_with fail
        go_call (product_over (lsum a) (lsum b) w3 (by omega) (by omega) (by omega)) as e w' ⟨rfl, rfl⟩
        go_wp2
        go_ret
        exact ⟨ret_int (by simp [chkP, He.out]; omega), tr hB1 (tr hb2 hb3)⟩
  · obtain ⟨x, hx⟩ : ∃ x, chkL [a, b] = x := ⟨_, rfl⟩
    rw [hx] at he
    have hb : (x == 0) = false := by simpa using he
    have hb' : (x != 0) = true := by simpa using he
    have Hp : Hid (chkP a b n = x) := by show _ = _; unfold chkP; rw [hx, if_pos he]
    have Hx := Lib.hid hx
    clear hx he
    go_enter Try.func72, Try.ntmps72
    go_wp2_with fail
    go_call (check2 pa a ca pb b cb w.heap.size _ hxa hxb (by go_simp) (by go_simp) (hRa.below (Below.alloc (Below.refl _ _) (Nat.le_refl _) _) (Nat.le_refl _)) (hRb.below (Below.alloc (Below.refl _ _) (Nat.le_refl _) _) (Nat.le_refl _))) as e w1 ⟨rfl, hb1⟩
    rw [Hx.out]
    go_wp2
    go_ret
    exact ⟨ret_int Hp.out.symm, (Below.alloc (Below.refl _ _) (Nat.le_refl _) _).trans (hb1.mono (by simp))⟩

/-- What Sum returns: the weights, and the error. -/
def sSum (a b : List Int) : List Int × Int := if chkP a b (a.length + b.length - 1) = 0 then (conv a b, 0) else ([], chkP a b (a.length + b.length - 1))

theorem chkP_ok {a b : List Int} {n : Int} (h : chkP a b n = 0) : chk1 a = 0 ∧ chk1 b = 0 ∧ n ≤ 4096 ∧ lsum a * lsum b ≤ 1000000000000000 := by
  unfold chkP at h
  by_cases h1 : chkL [a, b] = 0
  · rw [if_neg (by simpa using h1)] at h
    obtain ⟨ka, kb⟩ := chk2_ok h1
    have hb := (chk1_ok kb).2.2.1
    split at h
    · simp at h
    · split at h
      · simp at h
      · exact ⟨ka, kb, by omega, (le_div hb).1 (by omega)⟩
  · rw [if_pos h1] at h; exact absurd h h1

set_option maxHeartbeats 2000000 in
theorem sum_ok (pa : Option Addr) (a : List Int) (ca : Nat) (pb : Option Addr) (b : List Int) (cb : Nat) (w : World) (hxa : a.length ≤ 1000000000000000) (hxb : b.length ≤ 1000000000000000) (hRa : Reads w pa a) (hRb : Reads w pb b) (he : chkP a b (a.length + b.length - 1) = 0) :
    Calls Try.prog 59 #[.slice pa a.length ca, .slice pb b.length cb] w fun e w' => ∃ g, e = .returned (.tuple #[.slice (some ⟨g, 0, none⟩) (a.length + b.length - 1) (a.length + b.length - 1), .int .i64 0]) ∧ Row w' w.heap.size g (a.length + b.length - 1) (conv a b) ∧ Below w.heap.size w w' := by
  obtain ⟨i0, hi, hz0, hz1, hz2⟩ := info_parts (show (Try.prog.info? 3).map (fun i => (i.zero, i.size, i.bytes)) = some (some (.int .i64 0), 1, 8) by kernel_rfl)
  obtain ⟨ka, kb, hn, hle⟩ := chkP_ok he
  obtain ⟨a1, a2, a3, a4⟩ := chk1_ok ka
  obtain ⟨b1, b2, b3, b4⟩ := chk1_ok kb
  have hla : 1 ≤ a.length := by
    rcases a with _ | ⟨x, r⟩
    · simp [lsum] at a3
    · simp
  have hlb : 1 ≤ b.length := by
    rcases b with _ | ⟨x, r⟩
    · simp [lsum] at b3
    · simp
  clear ka kb
  obtain ⟨n, hnn⟩ : ∃ n : Nat, n + 1 = a.length + b.length := ⟨a.length + b.length - 1, by omega⟩
  have hn1 : a.length + b.length - 1 = n := by omega
  have hn2 : (a.length + b.length - 1 : Int) = (n : Int) := by omega
  rw [hn2] at he hn
  rw [hn1]
  have hle' : a.length + b.length ≤ n + 1 := by omega
  have Hc : Hid (conv a b = sumTo n a b a.length) := by show _ = _; unfold conv; rw [hn1]
  have He := Lib.hid he
  have Hst := Lib.hid (fun i j (hi : i < a.length) (hj : j < b.length) => conv_step a2.pos b2.pos hle' hle hi hj)
  have Hn2 := Lib.hid hn2
  clear he hn2 hn1 hnn
  go_enter Try.func59, Try.ntmps59
  go_wp2_with fail
  rw [Hn2.out]
  go_call (checkPair_any pa a ca pb b cb n w (by omega) (by omega) hRa hRb) as e w1 ⟨rfl, hb1⟩
  rw [He.out]
  go_wp2_with (at_make; refine wpList_make_full _ rfl _ _ 34 rfl w.heap.size 3 i0 (.int .i64 0) 1 Try.underlying34 hi hz0 hz1 .i64 .i64 _ _ n rfl rfl ?d1 ?d2 ?c1 ?c2 ?c3 ?_)
  case d1 => exact Hn2.out
  case d2 => exact Hn2.out
  case c1 => rw [hz2]; omega
  case c2 => unfold maxLen; omega
  case c3 => exact hb1.size
  intro w2 hown hgr
  have hrow := Row.made hown
  have hb2 : Below w.heap.size w w2 := hb1.grown hgr hb1.size (fun k e => by cases e)
  have hgB := hb1.size
  clear hown hgr
  obtain ⟨g, hg⟩ : ∃ g, w1.heap.size = g := ⟨_, rfl⟩
  rw [hg] at hrow hgB ⊢
  clear hg
  go_wp2
  go_loopw [33] (fun i wr => ∃ k : Nat, k ≤ a.length ∧ i = .int .i64 k ∧ Row wr w.heap.size g n (sumTo n a b k) ∧ Below w.heap.size w wr) (fun i _ => a.length - (intOf i).toNat)
  case atStart => exact ⟨0, Nat.zero_le _, rfl, hrow, hb2⟩
  case round =>
    obtain ⟨k, hk, rfl, hrw, hb⟩ := hrel
    by_cases hlt : k < a.length
    · obtain ⟨q, o, rfl, hcell⟩ := hRa.below hb (Nat.le_refl _) k hlt
      go_wp2
      obtain ⟨wo, rfl⟩ : ∃ wo : World, wo = wr := ⟨_, rfl⟩
      go_loopw [40] (fun j wr => ∃ m : Nat, m ≤ b.length ∧ j = .int .i64 m ∧ Row wr w.heap.size g n (addRow (sumTo n a b k) k (nth a k) b m) ∧ Below w.heap.size w wr) (fun j _ => b.length - (intOf j).toNat)
      case atStart => exact ⟨0, Nat.zero_le _, rfl, hrw, hb⟩
      case round =>
        obtain ⟨m, hm, rfl, hrm, hbm⟩ := hrel
        by_cases hmt : m < b.length
        · obtain ⟨q2, o2, rfl, hcell2⟩ := hRb.below hbm (Nat.le_refl _) m hmt
          obtain ⟨s1, s2, s3⟩ := Hst.out k m hlt hmt
          have hc3 := hrm.cell (k := k + m) (by omega)
          have hf3 := hrm.frozen (k + m)
          have ht : ((k : Int) + (m : Int)).toNat = k + m := by omega
          go_wp2
          go_roundw
          case rel => exact ⟨m + 1, by omega, by go_num, by exact hrm.set (k + m) (nth (addRow (sumTo n a b k) k (nth a k) b m) (k + m) + nth a k * nth b m), hbm.setCell (p := ⟨g, k + m, none⟩) hgB _⟩
          case measure => simp [intOf]; omega
        · obtain rfl : m = b.length := by omega
          go_wp2
          go_roundw
          case rel => exact ⟨k + 1, by omega, by go_num, hrm, hbm⟩
          case measure => simp [intOf]; omega
    · obtain rfl : k = a.length := by omega
      go_wp2
      go_ret2
      exact ⟨_, rfl, by rw [Hc.out]; exact hrw, hb⟩
end Go.Proofs.Ytnpnnfbmnlgioaa
