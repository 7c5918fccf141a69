/-
  Package house: Check, Fortune and Of, at whatever figures.
-/
import Derived.Test.YtdnccdobnhbpeaaDoorHoA
import Derived.Test.YtdnccdobnhbpeaaDoorShG
import Derived.Test.YtdnccdobnhbpeaaDoorShV
namespace Go.Proofs.YtdnccdobnhbpeaaDoor
open Go Go.RowKit
set_option linter.unusedVariables false

theorem info_houses : (Tryd.prog.info? 24).map (·.size) = some 12 := by kernel_rfl
theorem chkF_at {s : List Int} {k : Nat} (hk : k < s.length) (h : ¬ Fig (nth s k)) : chkF s = 2 := by
  rcases chkF_or s with e | e
  · exact (h (chkF_zero e k hk)).elim
  · exact e
theorem chkF_one {x : Int} (h : Fig x) : chkF [x] = 0 := chkF_of fun k hk => by
  have : k = 0 := by simpa using hk
  subst this
  exact h
theorem chkF_one' {x : Int} (h : ¬ Fig x) : chkF [x] = 2 := chkF_at (k := 0) (by simp) h
theorem index_arr {P : Program} {t e n : Nat} (ht : P.underlying t = some (.array n e)) (he : P.underlying e = some (.int .i64)) (hz : (P.info? e).map (·.size) = some 1) {s : List Int} {k : Nat} (hs : s.length = n) (hk : k < n) (w : World) :
    (Instr.index t (.agg (arr s)) (.int .i64 k)).run P w = .ok (.int .i64 (nth s k)) w := by
  obtain ⟨i, hi, hz⟩ := Option.map_eq_some_iff.1 hz
  have h1 : (0 : Int) ≤ k ∧ (k : Int) < n := by omega
  have h2 : (arr s)[k]? = some (.int .i64 (nth s k)) := arr_get (by omega)
  simp [Instr.index, run_underlying ht, asIntOf, h1, hk, sizeOf, typeInfo, hi, hz, part, isAgg, run_underlying he, h2, go_sem]
set_option maxRecDepth 100000 in
set_option maxHeartbeats 1000000 in
theorem checkHs_any (s : List Int) (hs : Hid (s.length = 12)) (w : World) :
    Calls Tryd.prog 50 #[.agg (arr s)] w fun e w' => e = .returned (.int .i64 (chkF s)) ∧ Below w.heap.size w w' := by
  have hB0 : Below w.heap.size w (w.alloc (.cells (arr s) 24)) := (Below.refl _ _).alloc (Nat.le_refl _) _
  have HM := Lib.hid (Blk.new w 24 (arr s))
  have HI := Lib.hid (show (Tryd.prog.info? 24).map (·.size) = some (arr s).size by rw [arr_size, hs.out]; exact info_houses)
  go_enter Tryd.func50, Tryd.ntmps50
  go_wp2_with (refine wpList_load_row rfl 24 (.tmp 1) rfl w.heap.size rfl 24 (arr s) (0, 0) _ HM.out Tryd.underlying24 rfl HI.out ?_)
  go_loopw [7] (fun i wr => ∃ k : Nat, k ≤ 12 ∧ i = .int .i64 k ∧ Hid (∀ j, j < k → Fig (nth s j)) ∧ Below w.heap.size w wr) (fun i _ => 12 - (intOf i).toNat)
  case atStart => exact ⟨0, by omega, rfl, fun j hj => by omega, hB0⟩
  case round =>
    obtain ⟨k, hk, rfl, HF, hB⟩ := hrel
    by_cases hlt : k < 12
    · have hx := index_arr (P := Tryd.prog) (t := 24) Tryd.underlying24 Tryd.underlying22 info_fig hs.out hlt
      by_cases hf : Fig (nth s k)
      · have HFk := Lib.hid hf
        have HC := Lib.hid (chkF_one hf)
        clear hf
        go_wp2_with fail
        refine (checkS_any (nth s k) _).mono ?_
        rintro e w1 ⟨rfl, hb1⟩
        rw [HC.out]
        go_wp2
        go_roundw
        case rel => exact ⟨k + 1, by omega, by go_num, fun j hj => by by_cases e : j = k; exact e ▸ HFk.out; exact HF.out j (by omega), tr hB hb1⟩
        case measure => simp [intOf]; omega
      · have HC := Lib.hid (chkF_one' hf)
        have HA := Lib.hid (chkF_at (by rw [hs.out]; exact hlt) hf)
        clear hf
        go_wp2_with fail
        refine (checkS_any (nth s k) _).mono ?_
        rintro e w1 ⟨rfl, hb1⟩
        rw [HC.out]
        go_wp2
        go_ret
        exact ⟨by rw [HA.out]; rfl, tr hB hb1⟩
    · obtain rfl : k = 12 := by omega
      go_wp2
      go_ret
      exact ⟨by rw [chkF_of fun k hk => HF.out k (by rw [← hs.out]; exact hk)]; rfl, hB⟩

theorem drawn_run : ((List.range 16).all fun f => (List.range 4).all fun l => isI (markF (Int.ofNat f) l) (Ev.lstartT Tryd.prog 6 [] 2000 51 [.int .i64 (Int.ofNat f), .int .i64 (Int.ofNat l)])) = true := by kernel_rfl
theorem drawn_any (f : Int) (l : Nat) (hf : Fig f) (hl : l < 4) (w : World) (hw : 6 ≤ w.heap.size) :
    Calls Tryd.prog 51 #[.int .i64 f, .int .i64 l] w fun e w' => e = .returned (.int .i64 (markF f l)) ∧ Below w.heap.size w w' := by
  obtain ⟨n, hn, rfl⟩ := fig_nat hf
  have := drawn_run
  simp only [List.all_eq_true, List.mem_range] at this
  exact run_I follows_mixed (this n hn l hl) (by decide) hw no_tabs

/-- The marks of the first lines of a figure. -/
def lineTo (f : Int) : Nat → Int
  | 0 => 0
  | t + 1 => lineTo f t + markF f t
/-- The marks of the first houses. -/
def marksTo (s : List Int) : Nat → Int
  | 0 => 0
  | k + 1 => marksTo s k + lineTo (nth s k) 4
theorem markF_one (f : Int) (k : Nat) : 1 ≤ markF f k ∧ markF f k ≤ 2 := by unfold markF; split <;> omega
theorem lineTo_bd (f : Int) (t : Nat) : (t : Int) ≤ lineTo f t ∧ lineTo f t ≤ 2 * t := by
  induction t with
  | zero => simp [lineTo]
  | succ t ih => have := markF_one f t; simp only [lineTo]; omega
theorem marksTo_bd (s : List Int) (k : Nat) : 4 * (k : Int) ≤ marksTo s k ∧ marksTo s k ≤ 8 * k := by
  induction k with
  | zero => simp [marksTo]
  | succ k ih => have := lineTo_bd (nth s k) 4; simp only [marksTo]; omega
def fortV (s : List Int) : Int := if chkF s = 0 then marksTo s 12 else 0
def fortH (s : List Int) : Int := if chkF s = 0 then (marksTo s 12 - 1) % 12 + 1 else 0
set_option maxRecDepth 100000 in
set_option maxHeartbeats 2000000 in
theorem fortune_any (s : List Int) (hs : Hid (s.length = 12)) (w : World) (hw : 6 ≤ w.heap.size) :
    Calls Tryd.prog 30 #[.agg (arr s)] w fun e w' => e = .returned (.tuple #[.int .i64 (fortV s), .int .i64 (fortH s), .int .i64 (chkF s)]) ∧ Below w.heap.size w w' := by
  have hB0 : Below w.heap.size w (w.alloc (.cells (arr s) 24)) := (Below.refl _ _).alloc (Nat.le_refl _) _
  have HM := Lib.hid (Blk.new w 24 (arr s))
  have HI := Lib.hid (show (Tryd.prog.info? 24).map (·.size) = some (arr s).size by rw [arr_size, hs.out]; exact info_houses)
  rcases chkF_or s with h | h
  · have hz := Lib.hid (chkF_zero h)
    have H := Lib.hid h
    have E1 := Lib.hid (show fortV s = marksTo s 12 by unfold fortV; rw [if_pos h])
    have E2 := Lib.hid (show fortH s = (marksTo s 12 - 1) % 12 + 1 by unfold fortH; rw [if_pos h])
    clear h
    go_enter Tryd.func30, Tryd.ntmps30
    go_wp2_with (refine wpList_load_row rfl 24 (.tmp 1) rfl w.heap.size rfl 24 (arr s) (0, 0) _ HM.out Tryd.underlying24 rfl HI.out ?_)
    refine (checkHs_any s hs _).mono ?_
    rintro e w1 ⟨rfl, hb1⟩
    rw [H.out]
    have hM1 := Lib.hid (HM.out.below hb1 (by simp))
    have hb2 : Below w.heap.size w w1 := hB0.trans (hb1.mono (by simp))
    clear hb1 hB0
    go_wp2_with (refine wpList_load_row rfl 24 (.tmp 1) rfl w.heap.size rfl 24 (arr s) (0, 0) _ hM1.out Tryd.underlying24 rfl HI.out ?_)
    go_loopw [2, 15] (fun m i wr => ∃ k : Nat, k ≤ 12 ∧ i = .int .i64 k ∧ m = .int .i64 (marksTo s k) ∧ Below w.heap.size w wr) (fun _ i _ => 12 - (intOf i).toNat)
    case atStart => exact ⟨0, by omega, rfl, rfl, hb2⟩
    case round =>
      obtain ⟨k, hk, rfl, rfl, hB⟩ := hrel
      obtain ⟨c1, c2⟩ := marksTo_bd s k
      by_cases hlt : k < 12
      · have hx := index_arr (P := Tryd.prog) (t := 24) Tryd.underlying24 Tryd.underlying22 info_fig hs.out hlt
        have HF := Lib.hid (show Fig (nth s k) from hz.out k (by rw [hs.out]; exact hlt))
        have hdk : decide ((k : Int) < 12) = true := by simp; omega
        go_wp2
        go_loopw [2, 18] (fun m i wz => ∃ t : Nat, t ≤ 4 ∧ i = .int .i64 t ∧ m = .int .i64 (marksTo s k + lineTo (nth s k) t) ∧ Below w.heap.size w wz) (fun _ i _ => 4 - (intOf i).toNat)
        case atStart => exact ⟨0, by omega, rfl, by simp [lineTo], hB⟩
        case round =>
          obtain ⟨t, ht, rfl, rfl, hBt⟩ := hrel
          obtain ⟨d1, d2⟩ := lineTo_bd (nth s k) t
          by_cases hlt2 : t < 4
          · obtain ⟨m1, m2⟩ := markF_one (nth s k) t
            go_wp2_with fail
            refine (drawn_any (nth s k) t HF.out hlt2 _ (by have := hBt.size; omega)).mono ?_
            rintro e w2 ⟨rfl, hb3⟩
            go_wp2
            go_roundw
            case rel => exact ⟨t + 1, by omega, by go_num, by simp only [lineTo]; congr 1; omega, tr hBt hb3⟩
            case measure => simp [intOf]; omega
          · obtain rfl : t = 4 := by omega
            go_wp2
            go_roundw
            case rel => exact ⟨k + 1, by omega, by go_num, by simp only [marksTo], hBt⟩
            case measure => simp [intOf]; omega
      · obtain rfl : k = 12 := by omega
        go_wp2
        go_returns
        exact ⟨by rw [H.out, E1.out, E2.out]; rfl, hB⟩
  · have H := Lib.hid h
    have E1 := Lib.hid (show fortV s = 0 by unfold fortV; rw [if_neg (by omega)])
    have E2 := Lib.hid (show fortH s = 0 by unfold fortH; rw [if_neg (by omega)])
    clear h
    go_enter Tryd.func30, Tryd.ntmps30
    go_wp2_with (refine wpList_load_row rfl 24 (.tmp 1) rfl w.heap.size rfl 24 (arr s) (0, 0) _ HM.out Tryd.underlying24 rfl HI.out ?_)
    refine (checkHs_any s hs _).mono ?_
    rintro e w1 ⟨rfl, hb1⟩
    rw [H.out]
    go_wp2
    go_returns
    exact ⟨by rw [H.out, E1.out, E2.out]; rfl, hB0.trans (hb1.mono (by simp))⟩
end Go.Proofs.YtdnccdobnhbpeaaDoor
