/-
  What Map of package odds returns, for every lists and number.
-/
import Derived.Test.YtnpnnfbmnlgioaaVb
namespace Go.Proofs.Ytnpnnfbmnlgioaa
open Go.RowKit

set_option maxRecDepth 100000 in
set_option maxHeartbeats 4000000 in
theorem map_any (p : Option Addr) (xs : List Int) (c : Nat) (pt : Option Addr) (ts : List Int) (ct : Nat) (n : Int) (w : World) (hl : xs.length ≤ 1000000000000000) (hlt : ts.length ≤ 1000000000000000) (hR : Reads w p xs) (hRt : Reads w pt ts) :
    Calls Try.prog 19 #[.slice p xs.length c, .slice pt ts.length ct, .int .i64 n] w fun e w' => (∃ p' c', e = .returned (.tuple #[.slice p' (sMap xs ts n).1.length c', .int .i64 (sMap xs ts n).2]) ∧ Reads w' p' (sMap xs ts n).1) ∧ Below w.heap.size w w' := by
  obtain ⟨D, hD⟩ : ∃ D, sMap xs ts n = D := ⟨_, rfl⟩
  rw [hD]
  have hck := check1 p xs c w.heap.size (w.alloc (.cells #[.slice p xs.length c] 34)) (by omega) (by go_simp) (hR.below (below1 _ _) (Nat.le_refl _))
  by_cases h0 : chk1 xs = 0
  · obtain ⟨a1, a2, a3, a4⟩ := chk1_ok h0
    have He := Lib.hid h0
    cases x1 : outB 1 4096 n with
    | true =>
      have hx : n < 1 ∨ 4096 < n := by simp [outB] at x1; omega
      have Hs : Hid (D = ([], 3)) := by show _ = _; rw [← hD]; simp [sMap, h0, hx]
      have X1 := Lib.hid x1
      clear h0 hD x1
      go_enter Try.func19, Try.ntmps19
      go_wp2_with fail
      go_call hck as e w1 ⟨rfl, hb1⟩
      rw [He.out]
      have hB1 : Below w.heap.size w w1 := (below1 _ _).trans (hb1.mono (by simp))
      clear hb1
      go_wp2_with fail
      go_call (outside_c 1 4096 w1) as e w2 ⟨a, b, rfl, ha, hb, hB2⟩
      go_wp2_with fail
      go_call (outside1_any n 1 4096 a b w2 ha hb) as e w3 ⟨rfl, rfl⟩
      rw [X1.out]
      go_wp2
      go_ret2
      exact ⟨⟨none, 0, by rw [Hs.out]; rfl, by rw [Hs.out]; exact Reads.nil _ _⟩, tr hB1 hB2⟩
    | false =>
      have hx : 1 ≤ n ∧ n ≤ 4096 := by simp [outB] at x1; omega
      obtain ⟨m, rfl⟩ := Int.eq_ofNat_of_zero_le (show 0 ≤ n by omega)
      have X1 := Lib.hid x1
      have hD2 : D = if ts.length ≠ xs.length ∨ anyB (outB 0 ((m : Int) - 1)) ts = true then ([], 2) else (mapTo xs ts m xs.length, 0) := by
        rw [← hD]; unfold sMap; rw [if_neg (by simpa using h0), if_neg (by omega), Int.toNat_natCast]
      by_cases x3 : ts.length = xs.length
      · have hne : ((ts.length : Int) != (xs.length : Int)) = false := by simp [x3]
        cases x4 : anyB (outB 0 ((m : Int) - 1)) ts with
        | true =>
          have Hs : Hid (D = ([], 2)) := by show _ = _; rw [hD2, if_pos (Or.inr x4)]
          have X4 := Lib.hid x4
          clear h0 hD x1 x4 hD2 x3
          go_enter Try.func19, Try.ntmps19
          go_wp2_with fail
          go_call hck as e w1 ⟨rfl, hb1⟩
          rw [He.out]
          have hB1 : Below w.heap.size w w1 := (below1 _ _).trans (hb1.mono (by simp))
          clear hb1
          go_wp2_with fail
          go_call (outside_c 1 4096 w1) as e w2 ⟨a, b, rfl, ha, hb, hB2⟩
          go_wp2_with fail
          go_call (outside1_any (m : Int) 1 4096 a b w2 ha hb) as e w3 ⟨rfl, rfl⟩
          rw [X1.out]
          have hB2' := tr hB1 hB2
          clear ha hb hB1 hB2
          go_wp2_with fail
          go_call (outside_c 0 ((m : Int) - 1) w2) as e w4 ⟨a4, b4, rfl, ha4, hb4, hB4⟩
          go_wp2_with fail
          go_call (containsFunc_outside 0 ((m : Int) - 1) a4 b4 w4 ha4 hb4 pt ts ct (by omega) (hRt.below (tr hB2' hB4) (Nat.le_refl _))) as e w5 ⟨rfl, rfl⟩
          rw [X4.out]
          go_wp2
          go_ret2
          exact ⟨⟨none, 0, by rw [Hs.out]; rfl, by rw [Hs.out]; exact Reads.nil _ _⟩, tr hB2' hB4⟩
        | false =>
          obtain ⟨i0, hi, hz0, hz1, hz2⟩ := info_parts (show (Try.prog.info? 3).map (fun i => (i.zero, i.size, i.bytes)) = some (some (.int .i64 0), 1, 8) by kernel_rfl)
          have Hs : Hid (D = (mapTo xs ts m xs.length, 0)) := by show _ = _; rw [hD2]; simp [x3, x4]
          have X4 := Lib.hid x4
          have X3 := Lib.hid x3
          have ht0 : ∀ k, k < ts.length → 0 ≤ nth ts k ∧ nth ts k < m := fun k hk => by
            by_cases h : 0 ≤ nth ts k ∧ nth ts k < m
            · exact h
            · rw [anyB_true hk (by simp [outB]; omega)] at x4; simp at x4
          have Ht := Lib.hid ht0
          have Hst := Lib.hid (fun k j (hk : k < xs.length) => mapTo_step (n := m) (j := j) a2.pos hk (fun i hi => ht0 i (by omega)) a4)
          clear h0 hD x1 x4 hD2 x3 ht0
          go_enter Try.func19, Try.ntmps19
          go_wp2_with fail
          go_call hck as e w1 ⟨rfl, hb1⟩
          rw [He.out]
          have hB1 : Below w.heap.size w w1 := (below1 _ _).trans (hb1.mono (by simp))
          clear hb1
          go_wp2_with fail
          go_call (outside_c 1 4096 w1) as e w2 ⟨a, b, rfl, ha, hb, hB2⟩
          go_wp2_with fail
          go_call (outside1_any (m : Int) 1 4096 a b w2 ha hb) as e w3 ⟨rfl, rfl⟩
          rw [X1.out]
          have hB2' := tr hB1 hB2
          clear ha hb hB1 hB2
          go_wp2_with fail
          go_call (outside_c 0 ((m : Int) - 1) w2) as e w4 ⟨a4, b4, rfl, ha4, hb4, hB4⟩
          go_wp2_with fail
          go_call (containsFunc_outside 0 ((m : Int) - 1) a4 b4 w4 ha4 hb4 pt ts ct (by omega) (hRt.below (tr hB2' hB4) (Nat.le_refl _))) as e w5 ⟨rfl, rfl⟩
          rw [X4.out]
          have hB5 := tr hB2' hB4
          clear ha4 hb4 hB2' hB4
          go_wp2_with (at_make; refine wpList_make_full _ rfl _ _ 34 rfl w.heap.size 3 i0 (.int .i64 0) 1 Try.underlying34 hi hz0 hz1 .i64 .i64 _ _ m rfl rfl rfl rfl ?c1 ?c2 ?c3 ?_)
          case c1 => rw [hz2]; omega
          case c2 => unfold maxLen; omega
          case c3 => exact hB5.size
          intro w6 hown hgr
          have hrow := Row.made hown
          have hb2 : Below w.heap.size w w6 := hB5.grown hgr hB5.size (fun k e => by cases e)
          have hgB := hB5.size
          clear hown hgr
          obtain ⟨g, hg⟩ : ∃ g, w4.heap.size = g := ⟨_, rfl⟩
          rw [hg] at hrow hgB ⊢
          clear hg hB5
          go_wp2
          go_loopw [37] (fun i wr => ∃ k : Nat, k ≤ xs.length ∧ i = .int .i64 k ∧ Row wr w.heap.size g m (mapTo xs ts m k) ∧ Below w.heap.size w wr) (fun i _ => xs.length - (intOf i).toNat)
          case atStart => exact ⟨0, Nat.zero_le _, rfl, hrow, hb2⟩
          case round =>
            obtain ⟨k, hk, rfl, hrw, hb⟩ := hrel
            by_cases hkx : k < xs.length
            · have hkt : k < ts.length := by have := X3.out; omega
              obtain ⟨q, o, rfl, hcell⟩ := hRt.below hb (Nat.le_refl _) k hkt
              obtain ⟨q2, o2, rfl, hcell2⟩ := hR.below hb (Nat.le_refl _) k hkx
              obtain ⟨t0, t1⟩ := Ht.out k hkt
              obtain ⟨j, hj⟩ := Int.eq_ofNat_of_zero_le t0
              have hjm : j < m := by omega
              obtain ⟨s1, s2, s3⟩ := Hst.out k j hkx
              have Hset := Lib.hid (hrw.set j (nth (mapTo xs ts m k) j + nth xs k))
              have Hj : Hid (mapTo xs ts m (k + 1) = (mapTo xs ts m k).set j (nth (mapTo xs ts m k) j + nth xs k)) := by show _ = _; simp [mapTo, hj]
              rw [hj] at hcell
              clear hj t0 t1
              have hc3 := hrw.cell hjm
              have hf3 := hrw.frozen j
              have hj1 : (j : Int) < (m : Int) := by omega
              have hkx1 : (k : Int) < (xs.length : Int) := by omega
              have hkt1 : (k : Int) < (ts.length : Int) := by omega
              go_wp2
              go_roundw
              case rel => exact ⟨k + 1, by omega, by go_num, (by rw [Hj.out]; exact Hset.out), hb.setCell (p := ⟨g, j, none⟩) hgB _⟩
              case measure => simp [intOf]; omega
            · obtain rfl : k = xs.length := by omega
              go_wp2
              go_ret2
              have hlen := hrw.1
              refine ⟨⟨some ⟨g, 0, none⟩, m, ?_, ?_⟩, hb⟩
              · rw [Hs.out, hlen]; rfl
              · rw [Hs.out]; exact hrw.reads
      · have Hs : Hid (D = ([], 2)) := by show _ = _; rw [hD2, if_pos (Or.inl x3)]
        have hne : ((ts.length : Int) != (xs.length : Int)) = true := by simp; omega
        clear h0 hD x1 hD2 x3
        go_enter Try.func19, Try.ntmps19
        go_wp2_with fail
        go_call hck as e w1 ⟨rfl, hb1⟩
        rw [He.out]
        have hB1 : Below w.heap.size w w1 := (below1 _ _).trans (hb1.mono (by simp))
        clear hb1
        go_wp2_with fail
        go_call (outside_c 1 4096 w1) as e w2 ⟨a, b, rfl, ha, hb, hB2⟩
        go_wp2_with fail
        go_call (outside1_any (m : Int) 1 4096 a b w2 ha hb) as e w3 ⟨rfl, rfl⟩
        rw [X1.out]
        go_wp2
        go_ret2
        exact ⟨⟨none, 0, by rw [Hs.out]; rfl, by rw [Hs.out]; exact Reads.nil _ _⟩, tr hB1 hB2⟩
  · obtain ⟨x, hx⟩ : ∃ x, chk1 xs = x := ⟨_, rfl⟩
    have Hs : Hid (D = ([], x)) := by show _ = _; rw [← hD]; unfold sMap; rw [if_pos h0, hx]
    rw [hx] at h0
    have hb' : (x != 0) = true := by simpa using h0
    have Hx := Lib.hid hx
    clear hx h0 hD
    go_enter Try.func19, Try.ntmps19
    go_wp2_with fail
    go_call hck as e w1 ⟨rfl, hb1⟩
    rw [Hx.out]
    have hB1 : Below w.heap.size w w1 := (below1 _ _).trans (hb1.mono (by simp))
    go_wp2
    go_ret2
    exact ⟨⟨none, 0, by rw [Hs.out]; rfl, by rw [Hs.out]; exact Reads.nil _ _⟩, hB1⟩
end Go.Proofs.Ytnpnnfbmnlgioaa
