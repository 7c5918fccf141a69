/-
  What divided of the reference returns: a number times another one, divided by a third one, and the rest.
-/
import Derived.Test.YtnpnnfbmnlgioaaCa
import Derived.Test.YtnpnnfbmnlgioaaT
import Derived.Test.YtnpnnfbmnlgioaaE
namespace Go.Proofs.Ytnpnnfbmnlgioaa
open Go.RowKit
set_option linter.unusedVariables false

theorem one_owns (w : World) (x : Int) : (w.alloc (.cells #[.int .i64 x] 3)).ownsRow w.heap.size 3 1 (.slice (some ⟨w.heap.size, 0, none⟩) 1 1) 1 [.int .i64 x] :=
  ⟨rfl, Or.inr ⟨w.heap.size, 1, #[.int .i64 x], rfl, Nat.le_refl _, heap_alloc_new w _, Nat.le_refl _, by simp [maxLen], rfl, rfl⟩⟩
theorem pow_small {B k : Nat} (hB : B ≤ 1000000000000000) (h : 0 < B / 2 ^ k) : k < 50 := by
  have h1 : 2 ^ k ≤ B := by
    by_cases h2 : 2 ^ k ≤ B
    · exact h2
    · rw [Nat.div_eq_of_lt (by omega)] at h; omega
  by_cases h3 : k < 50
  · exact h3
  · have : 2 ^ 50 ≤ 2 ^ k := Nat.pow_le_pow_right (by omega) (by omega)
    omega

set_option maxRecDepth 100000 in
set_option maxHeartbeats 4000000 in
theorem refDivided_any (a c : Int) (B : Nat) (w : World) (ha : 0 ≤ a) (hc : 1 ≤ c) (ha2 : a ≤ 1000000000000000) (hb2 : B ≤ 1000000000000000) (hc2 : c ≤ 1000000000000000) (Hq : Hid (a * B ≤ 1000000000000000 * c)) :
    Calls Try.prog 32 #[.int .i64 a, .int .i64 (B : Int), .int .i64 c] w fun e w' => e = .returned (.tuple #[.int .i64 (a * B / c), .int .i64 (a * B % c)]) ∧ Below w.heap.size w w' := by
  obtain ⟨i0, hi, hz0, hz1, hz2⟩ := info_parts info_int
  have HB : Hid (B ≤ 1000000000000000) := hb2
  obtain ⟨b, hb⟩ : ∃ b : Int, (B : Int) = b := ⟨_, rfl⟩
  have HBb : Hid ((B : Int) = b) := hb
  rw [hb]
  rw [hb] at Hq
  clear hb hb2
  go_enter Try.func32, Try.ntmps32
  go_wp2
  go_loopw [10, 11] (fun v n wr => ∃ k : Nat, ∃ m : Int, ∃ g o cc : Nat, k ≤ 50 ∧ n = .int .i64 m ∧ v = .slice (some ⟨g, o, none⟩) k cc ∧ 0 ≤ m ∧ m ≤ 1000000000000000 ∧ Hid (m = ((B / 2 ^ k : Nat) : Int)) ∧ Reads wr (some ⟨g, o, none⟩) (bitsL B k) ∧ Below w.heap.size w wr) (fun _ n _ => (intOf n).toNat)
  case atStart =>
    refine ⟨0, b, w.heap.size, 0, 0, by omega, rfl, rfl, by have := HBb.out; omega, by have := HB.out; have := HBb.out; omega, ?_, fun k hk => by simp [bitsL] at hk, below1 _ _⟩
    show b = _
    rw [← HBb.out]; simp
  case round =>
    obtain ⟨k, m, g, o, cc, hk50, rfl, rfl, m0, m1, Hm, hR, hbr⟩ := hrel
    by_cases hlt : 0 < m
    · have hk : k < 50 := pow_small HB.out (by have := Hm.out; omega)
      have hO := one_owns wr (m % 2)
      have hBw : Below wr.heap.size wr (wr.alloc (.cells #[.int .i64 (m % 2)] 3)) := below1 _ _
      have hR1 := hR.below hBw (Nat.le_refl _)
      have hcells : ∀ j u, ((bitsL B k).map (Value.int .i64))[j]? = some u → (wr.alloc (.cells #[.int .i64 (m % 2)] 3)).cell? ((⟨g, o, none⟩ : Addr).add j) = some u := fun j u hj => by
        rw [List.getElem?_map] at hj
        by_cases hlt : j < (bitsL B k).length
        · obtain ⟨q, o, hq, hc⟩ := hR1 j hlt
          cases hq
          rw [List.getElem?_eq_getElem hlt] at hj
          cases hj
          rw [Go.WideShapes.add_plain, hc, nth_eq hlt]
        · rw [List.getElem?_eq_none (by omega)] at hj
          cases hj
      have hone : ∀ u ∈ (bitsL B k).map (Value.int .i64), u.oneCell' = true := fun u hu => by
        obtain ⟨x, _, rfl⟩ := List.mem_map.1 hu
        rfl
      have Hc := Lib.hid hcells
      have Ho := Lib.hid hone
      have hbit : (m % 2) :: bitsL B k = bitsL B (k + 1) := by
        rw [Hm.out]; simp [bitsL]
      have hm2 : m / 2 = ((B / 2 ^ (k + 1) : Nat) : Int) := by
        rw [Hm.out, Nat.pow_succ, ← Nat.div_div_eq_div_mul]; omega
      have Hb := Lib.hid (And.intro hbit hm2)
      clear hcells hone hR hR1 hbit hm2
      go_wp2_with (at_builtin; refine wpList_append_own _ rfl _ _ 34 rfl wr.heap.size 3 i0 (.int .i64 0) 1 8 Try.underlying34 hi hz0 hz1 hz2 rfl (by decide) _ 1 [.int .i64 (m % 2)] rfl hO ⟨g, o, none⟩ k cc ((bitsL B k).map (Value.int .i64)) rfl (by simp [bitsL_length]) Hc.out Ho.out (by unfold maxLen; omega) (by omega) (by simp) ?_)
      intro v' w1 hO1 hg _
      have hO1' : w1.ownsRow wr.heap.size 3 1 v' (k + 1) ((bitsL B (k + 1)).map (Value.int .i64)) := by
        rw [← Hb.out.1, List.map_cons]
        have e : 1 + k = k + 1 := by omega
        rw [← e]
        simpa [bitsL_length] using hO1
      have hb1 : Below w.heap.size w w1 := (hbr.alloc hbr.size _).grown hg (by have := hbr.size; simp; omega) (fun k hk => by have := hbr.size; simp [Value.ownBlock] at hk; omega)
      obtain ⟨p', c', rfl, hr⟩ := Got.of_owns hO1'
      obtain ⟨g', o', rfl, _⟩ := hr 0 (by rw [bitsL_length]; omega)
      rw [bitsL_length]
      clear hO1 hO1' hg hO
      go_wp2
      go_roundw
      case rel => exact ⟨k + 1, m / 2, g', o', c', by omega, rfl, rfl, by omega, by omega, Hb.out.2, hr, hb1⟩
      case measure => simp [intOf]; omega
    · obtain rfl : m = 0 := by omega
      have hz : Hid (B / 2 ^ k = 0) := by show _ = _; have := Hm.out; omega
      have h0 : headN B k 0 = 0 := headN_zero hz.out
      have Hd0 : Hid ((0 : Int) * c + 0 = a * headN B k 0) := by show _ = _; rw [h0]; simp
      have Hall : Hid (headN B k k = b) := by show _ = _; rw [headN_all]; exact HBb.out
      have Hbnd : ∀ (j : Nat) (W R : Int), Hid (W * c + R = a * headN B k j) → 0 ≤ R → W ≤ 1000000000000000 := fun j W R h h0 => quo_le hc h.out h0 (quo_mono ha (by rw [← HBb.out]; exact (headN_le B k j).2) Hq.out)
      clear m0 m1 Hm hlt h0 hz
      go_wp2
      go_loopw [8, 9, 12] (fun x y i wr => ∃ j : Nat, ∃ W R : Int, j ≤ k ∧ i = .int .i64 j ∧ x = .int .i64 W ∧ y = .int .i64 R ∧ 0 ≤ W ∧ W ≤ 1000000000000000 ∧ 0 ≤ R ∧ R < c ∧ Hid (W * c + R = a * headN B k j) ∧ Reads wr (some ⟨g, o, none⟩) (bitsL B k) ∧ Below w.heap.size w wr) (fun _ _ i _ => k - (intOf i).toNat)
      case atStart => exact ⟨0, 0, 0, by omega, rfl, rfl, rfl, by omega, by omega, by omega, by omega, Hd0, hR, hbr⟩
      case round =>
        obtain ⟨j, W, R, hj, rfl, rfl, rfl, W0, W1, R0, R1, HE, hRr, hbr2⟩ := hrel
        by_cases hlt : j < k
        · have hji : (j : Int) < (k : Int) := by omega
          obtain ⟨q, o2, hq, hcell⟩ := hRr j (by rw [bitsL_length]; exact hlt)
          cases hq
          have hlen := bitsL_length B k
          have hstep := headN_succ B hlt
          rcases bit_01 B hlt with hbit | hbit
          · rw [hbit] at hcell hstep
            have HS : Hid (2 * W * c + 2 * R = a * headN B k (j + 1)) := by show _ = _; rw [hstep]; exact digit_0 HE.out
            have BB := hbr2
            have RR := hRr
            clear hstep hbit HE
            go_wp2
            go_loopw [8, 9] (fun x y wr => ∃ W R : Int, x = .int .i64 W ∧ y = .int .i64 R ∧ 0 ≤ W ∧ 0 ≤ R ∧ R ≤ 4000000000000000 ∧ Hid (W * c + R = a * headN B k (j + 1)) ∧ Below w.heap.size w wr ∧ Reads wr (some ⟨g, o, none⟩) (bitsL B k)) (fun _ y _ => (intOf y).toNat)
            case atStart => exact ⟨_, _, rfl, rfl, by omega, by omega, by omega, HS, BB, RR⟩
            case round =>
              obtain ⟨W', R', rfl, rfl, W0', R0', R1', HE', hbr3, hRr3⟩ := hrel
              have W1' := Hbnd _ _ _ HE' R0'
              by_cases hge : c ≤ R'
              · go_wp2
                go_roundw
                case rel => exact ⟨W' + 1, R' - c, rfl, rfl, by omega, by omega, by omega, take_1 HE'.out, hbr3, hRr3⟩
                case measure => simp [intOf]; omega
              · go_wp2
                go_roundw
                case rel => exact ⟨j + 1, W', R', by omega, by go_num, rfl, rfl, W0', W1', R0', by omega, HE', hRr3, hbr3⟩
                case measure => simp [intOf]; omega
          · rw [hbit] at hcell hstep
            have q0 : 0 ≤ a / c := Int.ediv_nonneg ha (by omega)
            have q1 : a / c ≤ a := Int.ediv_le_self _ ha
            have r0 : 0 ≤ a % c := Int.emod_nonneg _ (by omega)
            have r1 : a % c < c := Int.emod_lt_of_pos _ (by omega)
            have e1 : IntKind.i64.wrap (a.tdiv c) = a / c := wdiv ha (by omega) hc
            have e2 : IntKind.i64.wrap (a.tmod c) = a % c := by rw [Int.tmod_eq_emod_of_nonneg ha]; exact IntWalk.i64_in _ (by omega)
            have HS : Hid ((2 * W + a / c) * c + (2 * R + a % c) = a * headN B k (j + 1)) := by show _ = _; rw [hstep]; exact digit_1 HE.out
            have hz : ¬ c = 0 := by omega
            clear hstep hbit HE
            go_wp2
            go_quiet (fail)
            have BB := below_drewN hbr2 nq
            have RR := hRr.below (below_drewN (Below.refl wr.heap.size wr) nq) (Nat.le_refl _)
            clear e1 e2
            go_wp2
            go_loopw [8, 9] (fun x y wr => ∃ W R : Int, x = .int .i64 W ∧ y = .int .i64 R ∧ 0 ≤ W ∧ 0 ≤ R ∧ R ≤ 4000000000000000 ∧ Hid (W * c + R = a * headN B k (j + 1)) ∧ Below w.heap.size w wr ∧ Reads wr (some ⟨g, o, none⟩) (bitsL B k)) (fun _ y _ => (intOf y).toNat)
            case atStart => exact ⟨_, _, rfl, rfl, by omega, by omega, by omega, HS, BB, RR⟩
            case round =>
              obtain ⟨W', R', rfl, rfl, W0', R0', R1', HE', hbr3, hRr3⟩ := hrel
              have W1' := Hbnd _ _ _ HE' R0'
              by_cases hge : c ≤ R'
              · go_wp2
                go_roundw
                case rel => exact ⟨W' + 1, R' - c, rfl, rfl, by omega, by omega, by omega, take_1 HE'.out, hbr3, hRr3⟩
                case measure => simp [intOf]; omega
              · go_wp2
                go_roundw
                case rel => exact ⟨j + 1, W', R', by omega, by go_num, rfl, rfl, W0', W1', R0', by omega, HE', hRr3, hbr3⟩
                case measure => simp [intOf]; omega
        · obtain rfl : j = k := by omega
          have HF : Hid (a * b / c = W ∧ a * b % c = R) := by
            have := HE.out
            rw [Hall.out] at this
            exact quo_is hc this R0 R1
          clear HE hRr
          go_wp2
          go_returns
          exact ⟨by rw [HF.out.1, HF.out.2]; rfl, hbr2⟩
end Go.Proofs.Ytnpnnfbmnlgioaa
