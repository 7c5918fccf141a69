/-
  The circle of houses: contracts for a list of twelve figures.
-/
import Derived.Test.YtahmhdjoaoldcaaDoorHoJs
import Derived.Test.YtahmhdjoaoldcaaDoorHoJq
import Derived.Test.YtahmhdjoaoldcaaDoorHoJb
import Derived.Test.YtahmhdjoaoldcaaDoorRgm
namespace Go.Proofs.YtahmhdjoaoldcaaDoor
open Go Go.RowKit Go.Maps
set_option linter.unusedVariables false

theorem twelve {s : List Int} (h : s.length = 12) : ∃ s0 s1 s2 s3 s4 s5 s6 s7 s8 s9 s10 s11, s = [s0, s1, s2, s3, s4, s5, s6, s7, s8, s9, s10, s11] := by
  match s, h with
  | [s0, s1, s2, s3, s4, s5, s6, s7, s8, s9, s10, s11], _ => exact ⟨s0, s1, s2, s3, s4, s5, s6, s7, s8, s9, s10, s11, rfl⟩
theorem stands_l (s : List Int) (hs : Hid (s.length = 12)) (k : Nat) (hk : k < 12) (HC : Hid (chkF s = 0)) (HN : Hid (chkH [(k : Int) + 1] = 0)) (w : World) :
    Calls Tryd.prog 8 #[.agg (arr s), .int .i64 ((k : Int) + 1)] w fun e w' => ∃ (p : Option Addr) (c : Nat), e = .returned (.tuple #[.slice p (standL s (nth s k) 12).length c, .int .i64 0]) ∧ Reads w' p (standL s (nth s k) 12) ∧ Below w.heap.size w w' := by
  obtain ⟨s0, s1, s2, s3, s4, s5, s6, s7, s8, s9, s10, s11, rfl⟩ := twelve hs.out
  refine (stands_ok s0 s1 s2 s3 s4 s5 s6 s7 s8 s9 s10 s11 k hk HC HN w).mono ?_
  rintro e w' ⟨base, v, zs, rfl, hz, ho, hb⟩
  obtain ⟨p, c, rfl, hr⟩ := Got.of_owns ho.1
  subst hz
  exact ⟨p, c, rfl, hr, hb⟩
theorem stands_b1 (s : List Int) (hs : Hid (s.length = 12)) (n : Int) (HC : Hid (chkF s = 2)) (w : World) :
    Calls Tryd.prog 8 #[.agg (arr s), .int .i64 n] w fun e w' => e = .returned (.tuple #[.slice none 0 0, .int .i64 2]) ∧ Below w.heap.size w w' := by
  obtain ⟨s0, s1, s2, s3, s4, s5, s6, s7, s8, s9, s10, s11, rfl⟩ := twelve hs.out
  exact stands_bad1 s0 s1 s2 s3 s4 s5 s6 s7 s8 s9 s10 s11 n HC w
theorem stands_b2 (s : List Int) (hs : Hid (s.length = 12)) (n : Int) (HC : Hid (chkF s = 0)) (HN : Hid (chkH [n] = 3)) (w : World) :
    Calls Tryd.prog 8 #[.agg (arr s), .int .i64 n] w fun e w' => e = .returned (.tuple #[.slice none 0 0, .int .i64 3]) ∧ Below w.heap.size w w' := by
  obtain ⟨s0, s1, s2, s3, s4, s5, s6, s7, s8, s9, s10, s11, rfl⟩ := twelve hs.out
  exact stands_bad2 s0 s1 s2 s3 s4 s5 s6 s7 s8 s9 s10 s11 n HC HN w
theorem partner_l (s : List Int) (hs : Hid (s.length = 12)) (k : Nat) (hk : k < 12) (HC : Hid (chkF s = 0)) (HN : Hid (chkH [(k : Int) + 1] = 0)) (w : World) (h7 : 6 ≤ w.heap.size) (hr : Rul w) :
    Calls Tryd.prog 9 #[.agg (arr s), .int .i64 ((k : Int) + 1)] w fun e w' => e = .returned (.tuple #[.int .i64 (partN (k + 1) : Nat), .int .i64 (Int.ofNat (compN (nth s k).toNat (nth s (partN (k + 1) - 1)).toNat)), .int .i64 0]) ∧ Below w.heap.size w w' := by
  obtain ⟨s0, s1, s2, s3, s4, s5, s6, s7, s8, s9, s10, s11, rfl⟩ := twelve hs.out
  exact partner_ok s0 s1 s2 s3 s4 s5 s6 s7 s8 s9 s10 s11 k hk HC HN w h7 hr
theorem partner_b1 (s : List Int) (hs : Hid (s.length = 12)) (n : Int) (HC : Hid (chkF s = 2)) (w : World) :
    Calls Tryd.prog 9 #[.agg (arr s), .int .i64 n] w fun e w' => e = .returned (.tuple #[.int .i64 0, .int .i64 0, .int .i64 2]) ∧ Below w.heap.size w w' := by
  obtain ⟨s0, s1, s2, s3, s4, s5, s6, s7, s8, s9, s10, s11, rfl⟩ := twelve hs.out
  exact partner_bad1 s0 s1 s2 s3 s4 s5 s6 s7 s8 s9 s10 s11 n HC w
theorem partner_b2 (s : List Int) (hs : Hid (s.length = 12)) (n : Int) (HC : Hid (chkF s = 0)) (HN : Hid (chkH [n] = 3)) (w : World) :
    Calls Tryd.prog 9 #[.agg (arr s), .int .i64 n] w fun e w' => e = .returned (.tuple #[.int .i64 0, .int .i64 0, .int .i64 3]) ∧ Below w.heap.size w w' := by
  obtain ⟨s0, s1, s2, s3, s4, s5, s6, s7, s8, s9, s10, s11, rfl⟩ := twelve hs.out
  exact partner_bad2 s0 s1 s2 s3 s4 s5 s6 s7 s8 s9 s10 s11 n HC HN w
theorem refAt_l (s : List Int) (hs : Hid (s.length = 12)) (k : Nat) (hk : k < 12) (w : World) :
    Calls Tryd.prog 13 #[.agg (arr s), .int .i64 ((k : Int) + 1)] w fun e w' => e = .returned (.int .i64 (nth s k)) ∧ Below w.heap.size w w' := by
  obtain ⟨s0, s1, s2, s3, s4, s5, s6, s7, s8, s9, s10, s11, rfl⟩ := twelve hs.out
  exact refAt_any s0 s1 s2 s3 s4 s5 s6 s7 s8 s9 s10 s11 k hk w
set_option maxRecDepth 100000 in
set_option maxHeartbeats 1000000 in
theorem refHouses_any (s : List Int) (hs : Hid (s.length = 12)) (b : Bool) (hb : Hid (b = decide (chkF s = 0))) (w : World) :
    Calls Tryd.prog 11 #[.agg (arr s)] w fun e w' => e = .returned (.bool b) ∧ Below w.heap.size w w' := by
  have hB0 : Below w.heap.size w (w.alloc (.cells (arr s) 24)) := (Below.refl _ _).alloc (Nat.le_refl _) _
  have HM := Lib.hid (Blk.new w 24 (arr s))
  go_enter Tryd.func11, Tryd.ntmps11
  go_wp2
  go_loop [3] (fun i => ∃ k : Nat, k ≤ 12 ∧ i = .int .i64 k ∧ Hid (∀ j, j < k → Fig (nth s j))) (fun i => 12 - (intOf i).toNat)
  case atStart => exact ⟨0, by omega, rfl, fun j hj => by omega⟩
  case round =>
    obtain ⟨k, hk, rfl, HF⟩ := hrel
    by_cases hlt : k < 12
    · have hc : (w.alloc (.cells (arr s) 24)).cell? ⟨w.heap.size, k, none⟩ = some (.int .i64 (nth s k)) := by rw [HM.out.cell, arr_get (by rw [hs.out]; exact hlt)]
      by_cases hf : Fig (nth s k)
      · have HFk := Lib.hid hf
        have HG := Lib.hid (show figB (nth s k) = true by unfold figB; unfold Fig at hf; simp [hf])
        clear hf
        go_wp2_with (go_at_call 36; refine (refFigure_any (nth s k) _).mono ?_; rintro e w1 ⟨rfl, rfl⟩; rw [HG.out])
        go_round
        case rel => exact ⟨k + 1, by omega, by go_num, fun j hj => by by_cases e : j = k; exact e ▸ HFk.out; exact HF.out j (by omega)⟩
        case measure => simp [intOf]; omega
      · have HG := Lib.hid (show figB (nth s k) = false by unfold figB; unfold Fig at hf; simp; omega)
        have HA := Lib.hid (chkF_at (by rw [hs.out]; exact hlt) hf)
        clear hf
        go_wp2_with (go_at_call 36; refine (refFigure_any (nth s k) _).mono ?_; rintro e w1 ⟨rfl, rfl⟩; rw [HG.out])
        go_ret
        exact ⟨by rw [hb.out, HA.out]; rfl, hB0⟩
    · obtain rfl : k = 12 := by omega
      go_wp2
      go_ret
      exact ⟨by rw [hb.out, chkF_of fun k hk => HF.out k (by rw [← hs.out]; exact hk)]; rfl, hB0⟩
set_option maxHeartbeats 800000 in
theorem same5_any (p : Option Addr) (xs : List Int) (n c : Nat) (q : Option Addr) (ys : List Int) (m d : Nat) (w : World) (hx : Hid (xs.length = n)) (hy : Hid (ys.length = m)) (hl : n ≤ 1000000) (hX : Reads w p xs) (hY : Reads w q ys) :
    Calls Tryd.prog 15 #[.slice p n c, .slice q m d] w fun e w' => e = .returned (.bool (decide (xs = ys))) ∧ ∃ r, w' = w.drewN r := by
  by_cases hn : n = m
  · subst hn
    go_enter Tryd.func15, Tryd.ntmps15
    go_wp2
    go_loopw [5] (fun i wr => ∃ k : Nat, k ≤ n ∧ i = .int .i64 k ∧ Hid (∀ j, j < k → nth xs j = nth ys j) ∧ ∃ r, wr = w.drewN r) (fun i _ => n - (intOf i).toNat)
    case atStart => exact ⟨0, by omega, rfl, fun j hj => by omega, 0, rfl⟩
    case round =>
      obtain ⟨k, hk, rfl, HE, r, rfl⟩ := hrel
      by_cases hlt : k < n
      · obtain ⟨g, o, rfl, hcx⟩ := hX k (by have := hx.out; omega)
        obtain ⟨g', o', rfl, hcy⟩ := hY k (by have := hy.out; omega)
        by_cases hq : nth xs k = nth ys k
        · have e2 : decide (nth xs k = nth ys k) = true := by simp [hq]
          have e3 : (nth xs k != nth ys k) = false := by simp [hq]
          have HQ := Lib.hid hq
          clear hq
          go_wp2
          go_quiet (fail)
          go_wp2
          go_roundw
          case rel => exact ⟨k + 1, by omega, by go_num, fun j hj => by by_cases e : j = k; exact e ▸ HQ.out; exact HE.out j (by omega), _, rfl⟩
          case measure => simp [intOf]; omega
        · have e2 : decide (nth xs k = nth ys k) = false := by simp [hq]
          have e3 : (nth xs k != nth ys k) = true := by simp [hq]
          have HQ := Lib.hid hq
          clear hq
          go_wp2
          go_quiet (fail)
          go_wp2
          go_ret
          exact ⟨by have : xs ≠ ys := fun h => HQ.out (by rw [h]); simp [this], _, World.drewN_drewN ..⟩
      · obtain rfl : k = n := by omega
        go_wp2
        go_ret
        exact ⟨by have := List.ext_getElem (hx.out.trans hy.out.symm) (fun i h1 h2 => by have := HE.out i (by rw [← hx.out]; exact h1); rwa [nth_eq h1, nth_eq h2] at this); simp [this], r, rfl⟩
  · go_enter Tryd.func15, Tryd.ntmps15
    go_wp2
    go_ret
    exact ⟨by have : xs ≠ ys := fun h => hn (by rw [← hx.out, ← hy.out, h]); simp [this], 0, rfl⟩
end Go.Proofs.YtahmhdjoaoldcaaDoor
