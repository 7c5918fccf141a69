/-
  What Join of the reference returns: for any two lists.
-/
import Derived.Test.YtagodfaclohkmaaVk
import Derived.Test.YtagodfaclohkmaaV
import Derived.Deep.RegionHeldLaw
import Derived.Deep.AppendLies
namespace Go.Proofs.Ytagodfaclohkmaa
open Go.RowKit

theorem Reads.at0' {w : World} {q o : Nat} {xs : List Int} (h : Reads w (some ⟨q, o, none⟩) xs) {k : Nat} (hk : k < xs.length) : w.cell? ⟨q, o + k, none⟩ = some (.int .i64 (nth xs k)) := by
  obtain ⟨q1, o1, h1, hc⟩ := h k hk
  cases h1
  exact hc

set_option maxRecDepth 100000 in
set_option maxHeartbeats 4000000 in
theorem refJoin_ok (pa : Option Addr) (a : List Int) (ca : Nat) (pb : Option Addr) (b : List Int) (cb : Nat) (w : World) (a1 : a.length ≤ 4096) (a2 : Small a) (a3 : 1 ≤ lsum a) (a4 : lsum a ≤ 1000000000000000) (b1 : b.length ≤ 4096) (b2 : Small b)
    (n : Nat) (Hnn : Hid (a.length * b.length = n)) (h3 : n ≤ 4096) (Hbd : Hid (∀ k m, 0 ≤ nth a k * nth b m ∧ nth a k * nth b m ≤ 1000000000000000)) (K1 : Hid (chk1 a = 0)) (K2 : Hid (chk1 b = 0)) (Ho : Hid (decide (1000000000000000 < lsum a * lsum b) = false)) (hRa : Reads w pa a) (hRb : Reads w pb b) :
    Calls Try.prog 46 #[.slice pa a.length ca, .slice pb b.length cb] w fun e w' => (∃ p c, e = .returned (.tuple #[.slice p (joinL a b).length c, .int .i64 0]) ∧ Reads w' p (joinL a b)) ∧ Below w.heap.size w w' := by
  obtain ⟨i0, hi, hz0, hz1, hz2⟩ := info_parts info_int
  have hwr : IntKind.i64.wrap ((a.length : Int) * (b.length : Int)) = (n : Int) := by
    have : ((a.length : Int) * (b.length : Int)) = (n : Int) := by rw [← Hnn.out]; simp
    rw [this]; exact IntWalk.i64_in _ (by omega)
  have Hj : Hid (joinL a b = upto (jf a b) n) := by show _ = _; unfold joinL; rw [Hnn.out]
  have Hl : Hid ((joinL a b).length = n) := by show _ = _; rw [joinL_length, Hnn.out]
  have Hstep : Hid (∀ k m, k < a.length → m < b.length → k * b.length + m < n) := fun k m hk hm => by
    rw [← Hnn.out]
    have := Nat.mul_le_mul_right b.length (show k + 1 ≤ a.length by omega)
    rw [Nat.add_mul] at this
    omega
  go_enter Try.func46, Try.ntmps46
  go_wp2_with fail
  go_call (refCheck_any pa a ca w (by omega) hRa) as e w1 ⟨rfl, hb1⟩
  rw [K1.out]
  go_wp2_with fail
  go_call (refCheck_any pb b cb w1 (by omega) (hRb.below hb1 (Nat.le_refl _))) as e w2 ⟨rfl, hb2⟩
  rw [K2.out]
  have hB2 := tr hb1 hb2
  clear hb1 hb2
  go_wp2_with fail
  go_call (refTotal_any pa a ca w2 a1 a2 (hRa.below hB2 (Nat.le_refl _))) as e w3 ⟨rfl, hb3⟩
  have hB3 := tr hB2 hb3
  clear hB2 hb3
  go_wp2_with fail
  go_call (refTotal_any pb b cb w3 b1 b2 (hRb.below hB3 (Nat.le_refl _))) as e w4 ⟨rfl, hb4⟩
  have hB4 := tr hB3 hb4
  clear hB3 hb4
  go_wp2_with fail
  go_call (refOver_any (lsum a) (lsum b) w4 (by omega) (by omega)) as e w5 ⟨rfl, hb5⟩
  rw [Ho.out]
  have hB5 := tr hB4 hb5
  clear hB4 hb5 hwr
  have hO := empty_owns w5
  have hB6 := hB5.alloc hB5.size (.cells #[] 3)
  have hbs5 := hB5.size
  have hO' : (w5.alloc (.cells #[] 3)).ownsRow w.heap.size 3 1 (.slice (some ⟨w5.heap.size, 0, none⟩) 0 0) 0 [] := by
    obtain ⟨h1, h2⟩ := hO
    refine ⟨h1, ?_⟩
    rcases h2 with ⟨h, _⟩ | ⟨g, cap, cur, h, hg, rest⟩
    · cases h
    · exact Or.inr ⟨g, cap, cur, h, by omega, rest⟩
  clear hO
  go_wp2
  go_loopw [8, 9] (fun v i wr => ∃ k : Nat, k ≤ a.length ∧ i = .int .i64 k ∧ wr.ownsRow w.heap.size 3 1 v (k * b.length) ((upto (jf a b) (k * b.length)).map (Value.int .i64)) ∧ Below w.heap.size w wr) (fun _ i _ => a.length - (intOf i).toNat)
  case atStart => exact ⟨0, Nat.zero_le _, rfl, by rw [Nat.zero_mul]; exact hO', hB6⟩
  case round =>
    obtain ⟨k, hk, rfl, hrw, hb⟩ := hrel
    by_cases hlt : k < a.length
    · obtain ⟨q, o, rfl, hcell0⟩ := hRa.below hb (Nat.le_refl _) k hlt
      clear hcell0
      have hki : (k : Int) < (a.length : Int) := by omega
      go_wp2
      obtain ⟨wo, rfl⟩ : ∃ wo : World, wo = wr := ⟨_, rfl⟩
      go_loopw [8, 10] (fun v j wr => ∃ m : Nat, m ≤ b.length ∧ j = .int .i64 m ∧ wr.ownsRow w.heap.size 3 1 v (k * b.length + m) ((upto (jf a b) (k * b.length + m)).map (Value.int .i64)) ∧ Below w.heap.size w wr) (fun _ j _ => b.length - (intOf j).toNat)
      case atStart => exact ⟨0, Nat.zero_le _, rfl, hrw, hb⟩
      case round =>
        obtain ⟨m, hm, rfl, hrm, hbm⟩ := hrel
        by_cases hmt : m < b.length
        · obtain ⟨q1, o1, hqq, hcell⟩ := hRa.below hbm (Nat.le_refl _) k hlt
          cases hqq
          obtain ⟨q2, o2, rfl, hcell2⟩ := hRb.below hbm (Nat.le_refl _) m hmt
          have hmi : (m : Int) < (b.length : Int) := by omega
          obtain ⟨s1, s2⟩ := Hbd.out k m
          have hwm : IntKind.i64.wrap (nth a k * nth b m) = nth a k * nth b m := IntWalk.i64_in _ (by omega)
          have hbs := hbm.size
          have hin := Hstep.out k m hlt hmt
          go_wp2_with fail
          have hnq : u8.ownBlock ≠ some q := fun e => by
            have h9 := (hrm.lt q e)
            have h8 : q < w.heap.size := World.block_lt_of_cell? w _ (hRa.at0' hlt)
            omega
          have hnq2 : u8.ownBlock ≠ some q2 := fun e => by
            have h9 := (hrm.lt q2 e)
            have h8 : q2 < w.heap.size := World.block_lt_of_cell? w _ (hRb.at0' hmt)
            omega
          have g1 : q < wr.heap.size := World.block_lt_of_cell? wr _ hcell
          have g2 : q2 < wr.heap.size := World.block_lt_of_cell? wr _ hcell2
          go_region_held_law (fun w' => w'.cell? ⟨q, o + k, none⟩ = some (.int .i64 (nth a k)) ∧ w'.cell? ⟨q2, o2 + m, none⟩ = some (.int .i64 (nth b m)))
            (first
              | go_keep
              | (go_split_ands
                 refine ⟨?_, ?_⟩
                 · (rw [hgrow.cell_far _ (by simp; omega) (Ne.symm hnq)]; assumption)
                 · (rw [hgrow.cell_far _ (by simp; omega) (Ne.symm hnq2)]; assumption)))
            ((refine step_append_lies _ (by rfl) _ _ _ (by rfl) w.heap.size 3 i0 _ 1 8 Try.underlying22 hi hz0 hz1 hz2 rfl (by omega) u8 (k * b.length + m) ((upto (jf a b) (k * b.length + m)).map (Value.int .i64)) (by rfl) ((hrm.alloc _).drew)
                ⟨wr.heap.size, 0, none⟩ 1 1 [.int .i64 (nth a k * nth b m)] (by rfl) (by rfl) (World.news_of_block (cs := #[.int .i64 (nth a k * nth b m)]) (t := 3) (fr := (0, 0)) (heap_alloc_new wr _)) (by simp [Value.oneCell'])
                (by omega) (by unfold maxLen; omega) (by omega) (by simp; omega) (wr.heap.size + 1) (by simp) ?_; intro gg cap w7 hown' hgrow hat hlt))
          clear hwm
          go_wp2
          go_roundw
          case rel =>
            refine ⟨m + 1, by omega, by go_num, ?_, ?_⟩
            · rw [← Nat.add_assoc, upto_succ, jf_at hmt, List.map_append]; exact hown'
            · exact ((hbm.alloc hbm.size _).drew).grown hgrow (by simp; omega) (fun k e => by
                have h9 := (hrm.lt k e)
                omega)
          case measure => simp [intOf]; omega
        · obtain rfl : m = b.length := by omega
          go_wp2
          go_roundw
          case rel => exact ⟨k + 1, by omega, by go_num, by rw [Nat.add_mul, Nat.one_mul]; exact hrm, hbm⟩
          case measure => simp [intOf]; omega
    · obtain rfl : k = a.length := by omega
      rw [Hnn.out] at hrw
      have hG : Got wr _ _ := Got.of_owns hrw
      obtain ⟨p', c', rfl, hr⟩ := hG
      rw [upto_length] at *
      go_wp2
      go_ret2
      exact ⟨⟨p', c', by rw [Hl.out]; rfl, by rw [Hj.out]; exact hr⟩, hb⟩

set_option maxRecDepth 100000 in
set_option maxHeartbeats 2000000 in
theorem refJoin_any (pa : Option Addr) (a : List Int) (ca : Nat) (pb : Option Addr) (b : List Int) (cb : Nat) (w : World) (hxa : a.length ≤ 1000000) (hxb : b.length ≤ 1000000) (hRa : Reads w pa a) (hRb : Reads w pb b) :
    Calls Try.prog 46 #[.slice pa a.length ca, .slice pb b.length cb] w fun e w' => (∃ p c, e = .returned (.tuple #[.slice p (sJoin a b).1.length c, .int .i64 (sJoin a b).2]) ∧ Reads w' p (sJoin a b).1) ∧ Below w.heap.size w w' := by
  by_cases k1 : chk1 a = 0
  · by_cases k2 : chk1 b = 0
    · obtain ⟨a1, a2, a3, a4⟩ := chk1_ok k1
      obtain ⟨b1, b2, b3, b4⟩ := chk1_ok k2
      have K1 := Lib.hid k1
      have K2 := Lib.hid k2
      have hr := chkP_rest (n := a.length * b.length) k1 k2
      clear k1 k2
      have hm : a.length * b.length ≤ 4096 * 4096 := Nat.mul_le_mul a1 b1
      have hm2 : ((a.length : Int) * (b.length : Int)) = ((a.length * b.length : Nat) : Int) := by simp
      obtain ⟨n, hn⟩ : ∃ n, a.length * b.length = n := ⟨_, rfl⟩
      have hwr : IntKind.i64.wrap ((a.length : Int) * (b.length : Int)) = (n : Int) := by rw [hm2, hn]; exact IntWalk.i64_in _ (by omega)
      rw [hm2, hn] at hr
      rw [hn] at hm
      have Hn := Lib.hid hn
      have Hm2 := Lib.hid hm2
      clear hm2 hn
      by_cases h3 : 4096 < (n : Int)
      · have Hs : Hid (sJoin a b = ([], 5)) := by show _ = _; unfold sJoin; rw [Hm2.out, Hn.out, hr, if_pos h3]; rfl
        clear hr
        go_enter Try.func46, Try.ntmps46
        go_wp2_with fail
        go_call (refCheck_any pa a ca w (by omega) hRa) as e w1 ⟨rfl, hb1⟩
        rw [K1.out]
        go_wp2_with fail
        go_call (refCheck_any pb b cb w1 (by omega) (hRb.below hb1 (Nat.le_refl _))) as e w2 ⟨rfl, hb2⟩
        rw [K2.out]
        go_wp2
        go_ret2
        exact ⟨⟨none, 0, by rw [Hs.out]; rfl, by rw [Hs.out]; exact Reads.nil _ _⟩, tr hb1 hb2⟩
      · have hd : lsum a ≤ 1000000000000000 / lsum b ↔ lsum a * lsum b ≤ 1000000000000000 := le_div (by omega)
        rw [if_neg h3] at hr
        by_cases h4 : 1000000000000000 < lsum a * lsum b
        · have hnn : ¬ lsum a * lsum b ≤ 1000000000000000 := by omega
          have hov : decide (1000000000000000 < lsum a * lsum b) = true := by simp [h4]
          rw [if_pos (by have := mt hd.1 hnn; omega)] at hr
          have Hs : Hid (sJoin a b = ([], 10)) := by show _ = _; unfold sJoin; rw [Hm2.out, Hn.out, hr]; rfl
          have Ho := Lib.hid hov
          clear hr hd hnn hov
          go_enter Try.func46, Try.ntmps46
          go_wp2_with fail
          go_call (refCheck_any pa a ca w (by omega) hRa) as e w1 ⟨rfl, hb1⟩
          rw [K1.out]
          go_wp2_with fail
          go_call (refCheck_any pb b cb w1 (by omega) (hRb.below hb1 (Nat.le_refl _))) as e w2 ⟨rfl, hb2⟩
          rw [K2.out]
          have hB2 := tr hb1 hb2
          clear hb1 hb2
          go_wp2_with fail
          go_call (refTotal_any pa a ca w2 a1 a2 (hRa.below hB2 (Nat.le_refl _))) as e w3 ⟨rfl, hb3⟩
          have hB3 := tr hB2 hb3
          clear hB2 hb3
          go_wp2_with fail
          go_call (refTotal_any pb b cb w3 b1 b2 (hRb.below hB3 (Nat.le_refl _))) as e w4 ⟨rfl, hb4⟩
          have hB4 := tr hB3 hb4
          clear hB3 hb4
          go_wp2_with fail
          go_call (refOver_any (lsum a) (lsum b) w4 (by omega) (by omega)) as e w5 ⟨rfl, hb5⟩
          rw [Ho.out]
          go_wp2
          go_ret2
          exact ⟨⟨none, 0, by rw [Hs.out]; rfl, by rw [Hs.out]; exact Reads.nil _ _⟩, tr hB4 hb5⟩
        · have hle : lsum a * lsum b ≤ 1000000000000000 := by omega
          rw [if_neg (by have := hd.2 hle; omega)] at hr
          have Hs : sJoin a b = (joinL a b, 0) := by unfold sJoin; rw [Hm2.out, Hn.out, if_pos hr]
          rw [Hs]
          exact refJoin_ok pa a ca pb b cb w a1 a2 a3 a4 b1 b2 n Hn (by omega) (Lib.hid (mul_bd a2.pos b2.pos hle)) K1 K2 (Lib.hid (by simp; omega)) hRa hRb
    · obtain ⟨x, hx⟩ : ∃ x, chk1 b = x := ⟨_, rfl⟩
      have Hs : Hid (sJoin a b = ([], x)) := by show _ = _; unfold sJoin; rw [chkP_second k1 k2, hx, if_neg (by rw [hx] at k2; exact k2)]
      rw [hx] at k2
      have hb' : (x != 0) = true := by simpa using k2
      have K1 := Lib.hid k1
      have Hx := Lib.hid hx
      clear hx k2 k1
      go_enter Try.func46, Try.ntmps46
      go_wp2_with fail
      go_call (refCheck_any pa a ca w (by omega) hRa) as e w1 ⟨rfl, hb1⟩
      rw [K1.out]
      go_wp2_with fail
      go_call (refCheck_any pb b cb w1 (by omega) (hRb.below hb1 (Nat.le_refl _))) as e w2 ⟨rfl, hb2⟩
      rw [Hx.out]
      go_wp2
      go_ret2
      exact ⟨⟨none, 0, by rw [Hs.out]; rfl, by rw [Hs.out]; exact Reads.nil _ _⟩, tr hb1 hb2⟩
  · obtain ⟨x, hx⟩ : ∃ x, chk1 a = x := ⟨_, rfl⟩
    have Hs : Hid (sJoin a b = ([], x)) := by show _ = _; unfold sJoin; rw [chkP_first k1, hx, if_neg (by rw [hx] at k1; exact k1)]
    rw [hx] at k1
    have hb' : (x != 0) = true := by simpa using k1
    have Hx := Lib.hid hx
    clear hx k1
    go_enter Try.func46, Try.ntmps46
    go_wp2_with fail
    go_call (refCheck_any pa a ca w (by omega) hRa) as e w1 ⟨rfl, hb1⟩
    rw [Hx.out]
    go_wp2
    go_ret2
    exact ⟨⟨none, 0, by rw [Hs.out]; rfl, by rw [Hs.out]; exact Reads.nil _ _⟩, hb1⟩
end Go.Proofs.Ytagodfaclohkmaa
