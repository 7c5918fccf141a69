/-
  What Map of the reference and Map of package odds return, for every lists and number.
-/
import Derived.Test.YtagodfaclohkmaaVa
namespace Go.Proofs.Ytagodfaclohkmaa
open Go.RowKit

/-- The weights of what the first k outcomes are mapped to. -/
def mapTo (xs to : List Int) (n : Nat) : Nat → List Int
  | 0 => List.replicate n 0
  | k + 1 => (mapTo xs to n k).set (nth to k).toNat (nth (mapTo xs to n k) (nth to k).toNat + nth xs k)
theorem mapTo_length (xs to : List Int) (n k : Nat) : (mapTo xs to n k).length = n := by
  induction k with
  | zero => simp [mapTo]
  | succ k ih => simp [mapTo, ih]
theorem mapTo_facts {xs to : List Int} {n k : Nat} (hx : Pos xs) (hk : k ≤ xs.length) (ht : ∀ i, i < k → 0 ≤ nth to i ∧ nth to i < n) : Pos (mapTo xs to n k) ∧ lsum (mapTo xs to n k) = psum xs k := by
  induction k with
  | zero => exact ⟨fun k => by simp only [mapTo]; rw [nth_replicate]; split <;> omega, by simp [mapTo, lsum_replicate, psum]⟩
  | succ k ih =>
    obtain ⟨h1, h2⟩ := ih (by omega) (fun i hi => ht i (by omega))
    have hlen := mapTo_length xs to n k
    have hk1 := ht k (by omega)
    have hin : (nth to k).toNat < (mapTo xs to n k).length := by omega
    refine ⟨fun j => ?_, ?_⟩
    · simp only [mapTo]
      rw [nth_set hin]
      have := h1 j
      have := h1 (nth to k).toNat
      have := hx k
      split <;> omega
    · simp only [mapTo]
      rw [lsum_set hin, h2, psum_succ (by omega)]
      omega
theorem mapTo_step {xs to : List Int} {n k j : Nat} (hx : Pos xs) (hk : k < xs.length) (ht : ∀ i, i < k → 0 ≤ nth to i ∧ nth to i < n) (hle : lsum xs ≤ 1000000000000000) :
    0 ≤ nth (mapTo xs to n k) j ∧ 0 ≤ nth xs k ∧ nth (mapTo xs to n k) j + nth xs k ≤ 1000000000000000 := by
  obtain ⟨h1, h2⟩ := mapTo_facts (n := n) hx (show k ≤ xs.length by omega) ht
  have h3 := nth_le_lsum h1 j
  have h4 := psum_le hx (show k + 1 ≤ xs.length by omega)
  rw [psum_succ hk] at h4
  exact ⟨h1 j, hx k, by omega⟩
/-- What Map returns. -/
def sMap (xs to : List Int) (n : Int) : List Int × Int :=
  if chk1 xs ≠ 0 then ([], chk1 xs) else if n < 1 ∨ 4096 < n then ([], 3) else if to.length ≠ xs.length ∨ anyB (outB 0 (n - 1)) to = true then ([], 2) else (mapTo xs to n.toNat xs.length, 0)
theorem sMap_length (xs to : List Int) (n : Int) : (sMap xs to n).1.length ≤ 4096 := by
  unfold sMap
  split
  · simp
  · split
    · simp
    · split
      · simp
      · simp only [mapTo_length]; omega

set_option maxRecDepth 100000 in
set_option maxHeartbeats 4000000 in
theorem refMap_any (p : Option Addr) (xs : List Int) (c : Nat) (pt : Option Addr) (ts : List Int) (ct : Nat) (n : Int) (w : World) (hl : xs.length ≤ 1000000000000000) (_hlt : ts.length ≤ 1000000000000000) (hR : Reads w p xs) (hRt : Reads w pt ts) :
    Calls Try.prog 31 #[.slice p xs.length c, .slice pt ts.length ct, .int .i64 n] w fun e w' => ∃ p' c', e = .returned (.tuple #[.slice p' (sMap xs ts n).1.length c', .int .i64 (sMap xs ts n).2]) ∧ Reads w' p' (sMap xs ts n).1 ∧ Below w.heap.size w w' := by
  obtain ⟨D, hD⟩ : ∃ D, sMap xs ts n = D := ⟨_, rfl⟩
  rw [hD]
  by_cases h0 : chk1 xs = 0
  · obtain ⟨a1, a2, a3, a4⟩ := chk1_ok h0
    have He := Lib.hid h0
    by_cases x1 : n < 1
    · have Hs : Hid (D = ([], 3)) := by show _ = _; rw [← hD]; simp [sMap, h0, x1]
      clear h0 hD
      go_enter Try.func31, Try.ntmps31
      go_wp2_with fail
      go_call (refCheck_any p xs c w (by omega) hR) as e w1 ⟨rfl, hb1⟩
      rw [He.out]
      go_wp2
      go_ret2
      exact ⟨none, 0, by rw [Hs.out]; rfl, by rw [Hs.out]; exact Reads.nil _ _, hb1⟩
    · by_cases x2 : 4096 < n
      · have Hs : Hid (D = ([], 3)) := by show _ = _; rw [← hD]; simp [sMap, h0, x2]
        clear h0 hD
        go_enter Try.func31, Try.ntmps31
        go_wp2_with fail
        go_call (refCheck_any p xs c w (by omega) hR) as e w1 ⟨rfl, hb1⟩
        rw [He.out]
        go_wp2
        go_ret2
        exact ⟨none, 0, by rw [Hs.out]; rfl, by rw [Hs.out]; exact Reads.nil _ _, hb1⟩
      · obtain ⟨m, rfl⟩ := Int.eq_ofNat_of_zero_le (show 0 ≤ n by omega)
        have hD2 : D = if ts.length ≠ xs.length ∨ anyB (outB 0 ((m : Int) - 1)) ts = true then ([], 2) else (mapTo xs ts m xs.length, 0) := by
          rw [← hD]; unfold sMap; rw [if_neg (by simpa using h0), if_neg (by omega), Int.toNat_natCast]
        by_cases x3 : ts.length = xs.length
        · obtain ⟨i0, hi, hz0, hz1, hz2⟩ := info_parts (show (Try.prog.info? 3).map (fun i => (i.zero, i.size, i.bytes)) = some (some (.int .i64 0), 1, 8) by kernel_rfl)
          have HD2 : Hid (D = if anyB (outB 0 ((m : Int) - 1)) ts = true then ([], 2) else (mapTo xs ts m xs.length, 0)) := by show _ = _; rw [hD2]; simp [x3]
          have X3 := Lib.hid x3
          have hne : ((ts.length : Int) != (xs.length : Int)) = false := by simp [x3]
          have Hst := Lib.hid (fun k j (hk : k < xs.length) (ht : ∀ i, i < k → 0 ≤ nth ts i ∧ nth ts i < m) => mapTo_step (j := j) a2.pos hk ht a4)
          clear h0 hD hD2 x3
          go_enter Try.func31, Try.ntmps31
          go_wp2_with fail
          go_call (refCheck_any p xs c w (by omega) hR) as e w1 ⟨rfl, hb1⟩
          rw [He.out]
          go_wp2_with (at_make; refine wpList_make_full _ rfl _ _ 22 rfl w.heap.size 3 i0 (.int .i64 0) 1 Try.underlying22 hi hz0 hz1 .i64 .i64 _ _ m rfl rfl rfl rfl ?c1 ?c2 ?c3 ?_)
          case c1 => rw [hz2]; omega
          case c2 => unfold maxLen; omega
          case c3 => exact hb1.size
          intro w2 hown hgr
          have hrow := Row.made hown
          have hb2 : Below w.heap.size w w2 := hb1.grown hgr hb1.size (fun k e => by cases e)
          have hgB := hb1.size
          clear hown hgr
          obtain ⟨g, hg⟩ : ∃ g, w1.heap.size = g := ⟨_, rfl⟩
          rw [hg] at hrow hgB ⊢
          clear hg hb1
          go_wp2
          go_loopw [10] (fun i wr => ∃ k : Nat, k ≤ ts.length ∧ i = .int .i64 k ∧ Hid (∀ i, i < k → 0 ≤ nth ts i ∧ nth ts i < m) ∧ Row wr w.heap.size g m (mapTo xs ts m k) ∧ Below w.heap.size w wr) (fun i _ => ts.length - (intOf i).toNat)
          case atStart => exact ⟨0, Nat.zero_le _, rfl, (fun i hi => by omega), hrow, hb2⟩
          case round =>
            obtain ⟨k, hk, rfl, Hn, hrw, hb⟩ := hrel
            by_cases hkt : k < ts.length
            · obtain ⟨q, o, rfl, hcell⟩ := hRt.below hb (Nat.le_refl _) k hkt
              have hki : (k : Int) < (ts.length : Int) := by omega
              by_cases y1 : nth ts k < 0
              · have Hs : Hid (D = ([], 2)) := by show _ = _; rw [HD2.out, if_pos (anyB_true hkt (by simp [outB]; omega))]
                go_wp2
                go_ret2
                exact ⟨none, 0, by rw [Hs.out]; rfl, by rw [Hs.out]; exact Reads.nil _ _, hb⟩
              · by_cases y2 : (m : Int) ≤ nth ts k
                · have Hs : Hid (D = ([], 2)) := by show _ = _; rw [HD2.out, if_pos (anyB_true hkt (by simp [outB]; omega))]
                  go_wp2
                  go_ret2
                  exact ⟨none, ⟨0, by rw [Hs.out]; rfl⟩, by rw [Hs.out]; exact Reads.nil _ _, hb⟩
                · have hkx : k < xs.length := by have := X3.out; omega
                  have Hn1 : Hid (∀ i, i < k + 1 → 0 ≤ nth ts i ∧ nth ts i < m) := fun i hi => by
                    by_cases e : i = k
                    · subst e; omega
                    · exact Hn.out i (by omega)
                  obtain ⟨q2, o2, rfl, hcell2⟩ := hR.below hb (Nat.le_refl _) k hkx
                  have hj := Int.eq_ofNat_of_zero_le (show 0 ≤ nth ts k by omega)
                  obtain ⟨j, hj⟩ := hj
                  have hjm : j < m := by omega
                  obtain ⟨s1, s2, s3⟩ := Hst.out k j hkx Hn.out
                  have Hset := Lib.hid (hrw.set j (nth (mapTo xs ts m k) j + nth xs k))
                  have Hj : Hid (mapTo xs ts m (k + 1) = (mapTo xs ts m k).set j (nth (mapTo xs ts m k) j + nth xs k)) := by show _ = _; simp [mapTo, hj]
                  rw [hj] at hcell y1 y2
                  clear hj
                  have hc3 := hrw.cell hjm
                  have hf3 := hrw.frozen j
                  have hj1 : (j : Int) < (m : Int) := by omega
                  have hkx1 : (k : Int) < (xs.length : Int) := by omega
                  have e1 : IntKind.i64.wrap (nth (mapTo xs ts m k) j + nth xs k) = nth (mapTo xs ts m k) j + nth xs k := IntWalk.i64_in _ (by omega)
                  have E1 := Lib.hid e1
                  clear e1
                  go_wp2
                  have e1 := E1.out
                  go_still_tail 13, (by kernel_rfl)
                  clear e1
                  go_wp2
                  go_roundw
                  case rel => exact ⟨k + 1, by omega, by go_num, Hn1, (by rw [Hj.out]; exact Hset.out), (hb.setCell (p := ⟨g, j, none⟩) hgB _).drew⟩
                  case measure => simp [intOf]; omega
            · obtain rfl : k = ts.length := by omega
              have hall : anyB (outB 0 ((m : Int) - 1)) ts = false := anyB_false (fun i hi => by have := Hn.out i hi; simp [outB]; omega)
              have Hs : Hid (D = (mapTo xs ts m ts.length, 0)) := by show _ = _; rw [HD2.out, if_neg (by simp [hall]), X3.out]
              clear hall
              go_wp2
              go_ret2
              have hlen := hrw.1
              refine ⟨some ⟨g, 0, none⟩, m, ?_, ?_, hb⟩
              · rw [Hs.out, hlen]; rfl
              · rw [Hs.out]; exact hrw.reads
        · have Hs : Hid (D = ([], 2)) := by show _ = _; rw [hD2, if_pos (Or.inl x3)]
          have hne : ((ts.length : Int) != (xs.length : Int)) = true := by simp; omega
          clear h0 hD hD2 x3
          go_enter Try.func31, Try.ntmps31
          go_wp2_with fail
          go_call (refCheck_any p xs c w (by omega) hR) as e w1 ⟨rfl, hb1⟩
          rw [He.out]
          go_wp2
          go_ret2
          exact ⟨none, 0, by rw [Hs.out]; rfl, by rw [Hs.out]; exact Reads.nil _ _, hb1⟩
  · obtain ⟨x, hx⟩ : ∃ x, chk1 xs = x := ⟨_, rfl⟩
    have Hs : Hid (D = ([], x)) := by show _ = _; rw [← hD]; unfold sMap; rw [if_pos h0, hx]
    rw [hx] at h0
    have hb' : (x != 0) = true := by simpa using h0
    have Hx := Lib.hid hx
    clear hx h0 hD
    go_enter Try.func31, Try.ntmps31
    go_wp2_with fail
    go_call (refCheck_any p xs c w (by omega) hR) as e w1 ⟨rfl, hb1⟩
    rw [Hx.out]
    go_wp2
    go_ret2
    exact ⟨none, 0, by rw [Hs.out]; rfl, by rw [Hs.out]; exact Reads.nil _ _, hb1⟩
end Go.Proofs.Ytagodfaclohkmaa
