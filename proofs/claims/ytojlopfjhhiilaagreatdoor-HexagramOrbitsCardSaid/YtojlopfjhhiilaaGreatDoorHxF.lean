/-
  Package hexagram: the weights of lines, and of pairs of hexagrams; numbers without a common divisor.
-/
import Derived.Test.YtojlopfjhhiilaaGreatDoorHxE
import Derived.OwnWalk
import Derived.Laws.MakeOwn
namespace Go.Proofs.YtojlopfjhhiilaaGreatDoor
open Go Go.RowKit
set_option linter.unusedVariables false

/-- All numbers are from 0 to 5 * 10^18. -/
def Mid (xs : List Int) : Prop := ∀ k, k < xs.length → 0 ≤ nth xs k ∧ nth xs k ≤ 5000000000000000000
set_option maxHeartbeats 1000000 in
theorem divisor_any (p : Option Addr) (xs : List Int) (c : Nat) (w : World) (hl : xs.length ≤ 9223372036854775807) (h0 : ∀ k, k < xs.length → 0 ≤ nth xs k) (hR : Reads w p xs) :
    Calls Tryz.prog 90 #[.slice p xs.length c] w fun e w' => e = .returned (.int .i64 (gcdl xs)) ∧ Below w.heap.size w w' := by
  go_enter Tryz.func90, Tryz.ntmps90
  go_wp2
  go_loopw [3, 8] (fun g i wr => ∃ k : Nat, k ≤ xs.length ∧ i = .int .i64 k ∧ g = .int .i64 (gcdTo xs k) ∧ 0 ≤ gcdTo xs k ∧ Below w.heap.size w wr) (fun _ i _ => xs.length - (intOf i).toNat)
  case atStart => exact ⟨0, Nat.zero_le _, rfl, by rw [gcdTo_zero], by rw [gcdTo_zero]; omega, Below.refl _ _⟩
  case round =>
    obtain ⟨k, hk, rfl, rfl, hg, hb⟩ := hrel
    by_cases hlt : k < xs.length
    · obtain ⟨q, o, rfl, hcell⟩ := hR.below hb (Nat.le_refl _) k hlt
      have hnk := h0 k hlt
      have Hs := Lib.hid (gcdTo_succ hlt)
      go_wp2
      obtain ⟨wo, rfl⟩ : ∃ wo : World, wo = wr := ⟨_, rfl⟩
      go_loopw [3, 5] (fun g n wr => ∃ a b : Int, 0 ≤ a ∧ 0 ≤ b ∧ g = .int .i64 a ∧ n = .int .i64 b ∧ Hid ((Int.gcd a b : Int) = gcdTo xs (k + 1)) ∧ Below w.heap.size w wr) (fun _ n _ => (intOf n).toNat)
      case atStart => exact ⟨_, _, hg, hnk, rfl, rfl, Hs.out.symm, hb⟩
      case round =>
        obtain ⟨a, b, ha, hb0, rfl, rfl, Hg, hbr⟩ := hrel
        by_cases hz : b = 0
        · subst hz
          go_wp2
          go_roundw
          case rel => exact ⟨k + 1, by omega, by go_num, by rw [← Hg.out, gcd_zero a ha], by rw [← Hg.out, gcd_zero a ha]; exact ha, hbr⟩
          case measure => simp [intOf]; omega
        · have hbp : 1 ≤ b := by omega
          have hbn : (b == 0) = false := by simp; omega
          have hbm : (b != 0) = true := by simp; omega
          go_wp2
          go_quiet (fail)
          go_wp2
          go_roundw
          case rel => exact ⟨b, a % b, by omega, Int.emod_nonneg _ (by omega), rfl, rfl, by show _ = _; rw [gcd_step a b ha (by omega)]; exact Hg.out, below_drewN hbr _⟩
          case measure => simp [intOf]; have := Int.emod_lt_of_pos a (show 0 < b by omega); have := Int.emod_nonneg a (show b ≠ 0 by omega); omega
    · obtain rfl : k = xs.length := by omega
      go_wp2
      go_ret
      exact ⟨ret_int (gcdTo_all xs), hb⟩
set_option maxHeartbeats 1000000 in
theorem lowest_any (p : Option Addr) (xs : List Int) (c : Nat) (w : World) (hl : xs.length ≤ 4096) (hs : Mid xs) (hg : 1 ≤ gcdl xs) (hR : Reads w p xs) :
    Calls Tryz.prog 73 #[.slice p xs.length c] w fun e w' => ∃ g, e = .returned (.slice (some ⟨g, 0, none⟩) xs.length xs.length) ∧ Row w' w.heap.size g xs.length (xs.map (· / gcdl xs)) ∧ Below w.heap.size w w' := by
  obtain ⟨i0, hi, hz0, hz1, hz2⟩ := info_parts (show (Tryz.prog.info? 3).map (fun i => (i.zero, i.size, i.bytes)) = some (some (.int .i64 0), 1, 8) by kernel_rfl)
  go_enter Tryz.func73, Tryz.ntmps73
  go_wp2_with fail
  go_call (divisor_any p xs c w (by omega) (fun k hk => (hs k hk).1) hR) as e w1 ⟨rfl, hb1⟩
  have Hd : ∃ d, d = gcdl xs := ⟨_, rfl⟩
  obtain ⟨d, hd⟩ := Hd
  rw [← hd] at hg ⊢
  have Hd := Lib.hid hd
  clear hd
  go_wp2_with (at_make; refine wpList_make_full _ rfl _ _ 22 rfl w.heap.size 3 i0 (.int .i64 0) 1 Tryz.underlying22 hi hz0 hz1 .i64 .i64 _ _ xs.length rfl rfl rfl rfl ?c1 ?c2 ?c3 ?_)
  case c1 => rw [hz2]; omega
  case c2 => unfold maxLen; omega
  case c3 => exact hb1.size
  intro w2 hown hgr
  have hrow := Row.made hown
  have hb2 : Below w.heap.size w w2 := hb1.grown hgr hb1.size (fun k e => by cases e)
  clear hown hgr
  go_wp2
  have hR2 := hR.below hb2 (Nat.le_refl _)
  go_loopw [14] (fun i wr => ∃ k : Nat, k ≤ xs.length ∧ i = .int .i64 k ∧ Row wr w.heap.size w1.heap.size xs.length (fillTo (fun j => nth xs j / d) xs.length k) ∧ Below w.heap.size w wr) (fun i _ => xs.length - (intOf i).toNat)
  case atStart => exact ⟨0, Nat.zero_le _, rfl, by rw [fillTo_zero]; exact hrow, hb2⟩
  case round =>
    obtain ⟨k, hk, rfl, hrw, hb⟩ := hrel
    by_cases hlt : k < xs.length
    · obtain ⟨q, o, rfl, hcell⟩ := hR.below hb (Nat.le_refl _) k hlt
      have hx := hs k hlt
      have hc2 := hrw.cell hlt
      have hf2 := hrw.frozen k
      go_wp2
      go_roundw
      case rel => exact ⟨k + 1, by omega, by go_num, by have := hrw.set k (nth xs k / d); rwa [fillTo_succ] at this, hb.setCell (p := ⟨w1.heap.size, k, none⟩) hb1.size _⟩
      case measure => simp [intOf]; omega
    · obtain rfl : k = xs.length := by omega
      go_wp2
      go_ret
      refine ⟨_, rfl, ?_, hb⟩
      have := fill_map (· / d) xs
      rw [fillTo_all, this, Hd.out] at hrw
      exact hrw

/-- How many lines of a hexagram are firm. -/
def onesH (x : Int) : Int := (if bitB x 0 = true then 1 else 0) + (if bitB x 1 = true then 1 else 0) + (if bitB x 2 = true then 1 else 0) + (if bitB x 3 = true then 1 else 0) + (if bitB x 4 = true then 1 else 0) + (if bitB x 5 = true then 1 else 0)
set_option maxHeartbeats 1000000 in
theorem ones64_any (x : Int) (hx : Hex x) (w : World) :
    Calls Tryz.prog 75 #[.int .u64 x] w fun e w' => e = .returned (.int .i64 (onesH x)) ∧ w = w' := by
  obtain ⟨h0, h1⟩ := hx
  go_enter Tryz.func75, Tryz.ntmps75
  go_wp2
  go_ret
  refine ⟨?_, rfl⟩
  refine congrArg (fun v => Ending.returned (Value.int .i64 v)) ?_
  obtain ⟨n, rfl⟩ := Int.eq_ofNat_of_zero_le h0
  have hn : n < 64 := by omega
  clear h0 h1
  revert hn
  revert n
  decide +kernel
set_option maxHeartbeats 1000000 in
theorem ones_any (x : Int) (hx : Hex x) (w : World) :
    Calls Tryz.prog 45 #[.int .u64 x] w fun e w' => e = .returned (.int .i64 (onesH x)) ∧ w = w' := by
  have hx2 := hx
  obtain ⟨h0, h1⟩ := hx2
  go_enter Tryz.func45, Tryz.ntmps45
  go_wp2_with fail
  refine (ones64_any x hx _).mono ?_
  rintro e w' ⟨rfl, rfl⟩
  go_wp2
  go_ret
  exact ⟨rfl, rfl⟩

def negB (x : Int) : Bool := decide (x < 0)
def someB (x : Int) : Bool := x != 0
set_option maxHeartbeats 400000 in
theorem neg_any (x : Int) (w : World) : Calls Tryz.prog 87 #[.int .i64 x] w fun e w' => e = .returned (.bool (negB x)) ∧ w = w' := by
  go_enter Tryz.func87, Tryz.ntmps87
  go_wp2
  go_ret
  exact ⟨rfl, rfl⟩
set_option maxHeartbeats 400000 in
theorem some_any (x : Int) (w : World) : Calls Tryz.prog 88 #[.int .i64 x] w fun e w' => e = .returned (.bool (someB x)) ∧ w = w' := by
  go_enter Tryz.func88, Tryz.ntmps88
  go_wp2
  go_ret
  exact ⟨rfl, rfl⟩

set_option maxHeartbeats 400000 in
theorem index_neg (p : Option Addr) (xs : List Int) (n c : Nat) (w : World) (hn : Hid (xs.length = n)) (hl : n ≤ 1000000) (hR : Reads w p xs) :
    Calls Tryz.prog 54 #[.slice p n c, .func (.func 87) #[] #[]] w fun e w' => (∃ n : Int, e = .returned (.int .i64 n) ∧ -1 ≤ n ∧ (decide (0 ≤ n) = anyB negB xs)) ∧ w = w' := by
  go_enter Tryz.func54, Tryz.ntmps54
  go_wp2
  go_loop [8] (fun i => ∃ k : Nat, k ≤ n ∧ i = .int .i64 k ∧ Hid (noneB negB xs k)) (fun i => n - (intOf i).toNat)
  case atStart => exact ⟨0, Nat.zero_le _, rfl, fun i hi => by omega⟩
  case round =>
    obtain ⟨k, hk, rfl, Hn⟩ := hrel
    by_cases hlt : k < n
    · obtain ⟨q, o, rfl, hcell⟩ := hR k (by have := hn.out; omega)
      obtain ⟨v, hv⟩ : ∃ v, nth xs k = v := ⟨_, rfl⟩
      rw [hv] at hcell
      have HV := Lib.hid hv
      clear hv
      cases ho : negB v
      · have Ho := Lib.hid ho
        clear ho
        go_wp2_with (go_at_call 87; refine (neg_any v _).mono ?_; rintro e w' ⟨rfl, rfl⟩; rw [Ho.out])
        go_round
        case rel => exact ⟨k + 1, by omega, by go_num, noneB_succ Hn.out (by rw [HV.out]; exact Ho.out)⟩
        case measure => simp [intOf]; omega
      · have Ho := Lib.hid ho
        clear ho
        go_wp2_with (go_at_call 87; refine (neg_any v _).mono ?_; rintro e w' ⟨rfl, rfl⟩; rw [Ho.out])
        go_ret
        exact ⟨⟨k, rfl, by omega, by rw [anyB_true (k := k) (by have := hn.out; omega) (by rw [HV.out]; exact Ho.out)]; simp⟩, rfl⟩
    · go_wp2
      go_ret
      exact ⟨⟨-1, rfl, by omega, by rw [anyB_false]; rfl; intro i hi; exact Hn.out i (by have := hn.out; omega)⟩, rfl⟩
set_option maxHeartbeats 400000 in
theorem contains_neg (p : Option Addr) (xs : List Int) (n c : Nat) (w : World) (hx : Hid (xs.length = n)) (hl : n ≤ 1000000) (hR : Reads w p xs) :
    Calls Tryz.prog 30 #[.slice p n c, .func (.func 87) #[] #[]] w fun e w' => e = .returned (.bool (anyB negB xs)) ∧ w = w' := by
  go_enter Tryz.func30, Tryz.ntmps30
  go_wp2_with fail
  refine (index_neg p xs n c w hx hl hR).mono ?_
  rintro e w' ⟨⟨n, rfl, hn, hq⟩, rfl⟩
  have Hq := Lib.hid hq
  clear hq
  go_wp2
  go_ret
  exact ⟨by rw [← Hq.out]; rfl, rfl⟩

set_option maxHeartbeats 400000 in
theorem index_some (p : Option Addr) (xs : List Int) (n c : Nat) (w : World) (hn : Hid (xs.length = n)) (hl : n ≤ 1000000) (hR : Reads w p xs) :
    Calls Tryz.prog 54 #[.slice p n c, .func (.func 88) #[] #[]] w fun e w' => (∃ n : Int, e = .returned (.int .i64 n) ∧ -1 ≤ n ∧ (decide (0 ≤ n) = anyB someB xs)) ∧ w = w' := by
  go_enter Tryz.func54, Tryz.ntmps54
  go_wp2
  go_loop [8] (fun i => ∃ k : Nat, k ≤ n ∧ i = .int .i64 k ∧ Hid (noneB someB xs k)) (fun i => n - (intOf i).toNat)
  case atStart => exact ⟨0, Nat.zero_le _, rfl, fun i hi => by omega⟩
  case round =>
    obtain ⟨k, hk, rfl, Hn⟩ := hrel
    by_cases hlt : k < n
    · obtain ⟨q, o, rfl, hcell⟩ := hR k (by have := hn.out; omega)
      obtain ⟨v, hv⟩ : ∃ v, nth xs k = v := ⟨_, rfl⟩
      rw [hv] at hcell
      have HV := Lib.hid hv
      clear hv
      cases ho : someB v
      · have Ho := Lib.hid ho
        clear ho
        go_wp2_with (go_at_call 88; refine (some_any v _).mono ?_; rintro e w' ⟨rfl, rfl⟩; rw [Ho.out])
        go_round
        case rel => exact ⟨k + 1, by omega, by go_num, noneB_succ Hn.out (by rw [HV.out]; exact Ho.out)⟩
        case measure => simp [intOf]; omega
      · have Ho := Lib.hid ho
        clear ho
        go_wp2_with (go_at_call 88; refine (some_any v _).mono ?_; rintro e w' ⟨rfl, rfl⟩; rw [Ho.out])
        go_ret
        exact ⟨⟨k, rfl, by omega, by rw [anyB_true (k := k) (by have := hn.out; omega) (by rw [HV.out]; exact Ho.out)]; simp⟩, rfl⟩
    · go_wp2
      go_ret
      exact ⟨⟨-1, rfl, by omega, by rw [anyB_false]; rfl; intro i hi; exact Hn.out i (by have := hn.out; omega)⟩, rfl⟩
set_option maxHeartbeats 400000 in
theorem contains_some (p : Option Addr) (xs : List Int) (n c : Nat) (w : World) (hx : Hid (xs.length = n)) (hl : n ≤ 1000000) (hR : Reads w p xs) :
    Calls Tryz.prog 30 #[.slice p n c, .func (.func 88) #[] #[]] w fun e w' => e = .returned (.bool (anyB someB xs)) ∧ w = w' := by
  go_enter Tryz.func30, Tryz.ntmps30
  go_wp2_with fail
  refine (index_some p xs n c w hx hl hR).mono ?_
  rintro e w' ⟨⟨n, rfl, hn, hq⟩, rfl⟩
  have Hq := Lib.hid hq
  clear hq
  go_wp2
  go_ret
  exact ⟨by rw [← Hq.out]; rfl, rfl⟩

end Go.Proofs.YtojlopfjhhiilaaGreatDoor
