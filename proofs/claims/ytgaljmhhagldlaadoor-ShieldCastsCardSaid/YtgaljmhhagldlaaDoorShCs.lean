/-
  ShieldCasts: the walk of the law.
-/
import Derived.Test.YtgaljmhhagldlaaDoorShCa
import Derived.Test.YtgaljmhhagldlaaDoorShCb
import Derived.Test.YtgaljmhhagldlaaDoorShRd
import Derived.Test.YtgaljmhhagldlaaDoorShDe
namespace Go.Proofs.YtgaljmhhagldlaaDoor
open Go Go.RowKit
set_option linter.unusedVariables false

/-- Whether a number of marks can be. -/
def Row1 (x : Int) : Prop := 1 ≤ x ∧ x ≤ 1000
def rMark (x : Int) : Int := 2 - x % 2
def rmTo (rows : List Int) (i j : Nat) : List Int := (List.range 4).map fun t => if t < j then rMark (nth rows (4 * i + t)) else 0
theorem rmTo_len (rows : List Int) (i j : Nat) : (rmTo rows i j).length = 4 := by simp [rmTo]
theorem rmTo_succ (rows : List Int) (i : Nat) {j : Nat} (hj : j < 4) : (rmTo rows i j).set j (rMark (nth rows (4 * i + j))) = rmTo rows i (j + 1) := by
  have e : j = 0 ∨ j = 1 ∨ j = 2 ∨ j = 3 := by omega
  rcases e with rfl | rfl | rfl | rfl <;> rfl
theorem rm_mks (rows : List Int) (i : Nat) : Mks (rmTo rows i 4) := fun k hk => by
  have h : ∀ x : Int, 1 ≤ rMark x ∧ rMark x ≤ 2 := fun x => by unfold rMark; omega
  have e : k = 0 ∨ k = 1 ∨ k = 2 ∨ k = 3 := by omega
  rcases e with rfl | rfl | rfl | rfl
  · exact h _
  · exact h _
  · exact h _
  · exact h _
theorem rMark_is {x : Int} (h : Row1 x) : rMark x = if oddB x = true then 1 else 2 := by
  rw [oddB_is x (by have := h.1; omega) h.2]
  unfold rMark
  by_cases e : x % 2 = 1
  · simp [e]
  · simp [e]; omega
theorem rm_sum (rows : List Int) (i : Nat) (h : ∀ t, t < 4 → Row1 (nth rows (4 * i + t))) : ofR (rmTo rows i 4) = figTo (fun j => oddB (nth rows (i * 4 + j))) 4 := by
  have e : rmTo rows i 4 = [if oddB (nth rows (i * 4 + 0)) = true then 1 else 2, if oddB (nth rows (i * 4 + 1)) = true then 1 else 2, if oddB (nth rows (i * 4 + 2)) = true then 1 else 2, if oddB (nth rows (i * 4 + 3)) = true then 1 else 2] := by
    rw [Nat.mul_comm i 4, ← rMark_is (h 0 (by omega)), ← rMark_is (h 1 (by omega)), ← rMark_is (h 2 (by omega)), ← rMark_is (h 3 (by omega))]
    rfl
  rw [e, ofR_four, figTo4]
theorem any_row {rows : List Int} {t : Nat} (ht : t < rows.length) (h : ¬ Row1 (nth rows t)) : anyB (outB 1 1000) rows = true :=
  anyB_true ht (by simp [outB]; unfold Row1 at h; omega)
theorem no_row {rows : List Int} (h : ∀ t, t < rows.length → Row1 (nth rows t)) : anyB (outB 1 1000) rows = false :=
  anyB_false fun t ht => by have := h t ht; simp [outB]; exact ⟨this.1, this.2⟩
theorem eq_zero4 (w : World) : (Op.equalIn 10000 46 (.agg (arr [0, 0, 0, 0])) (.agg #[.int .i64 0, .int .i64 0, .int .i64 0, .int .i64 0])).run Tryd.prog w = .ok true w := by
  have := eq_moth (a := [0, 0, 0, 0]) (b := [0, 0, 0, 0]) rfl rfl w
  rw [decide_eq_true rfl] at this
  exact this
theorem eq_nibs (n : Int) (w : World) : (Op.equalIn 10000 46 (.agg #[.int .i64 (n / 4096 % 16), .int .i64 (n / 256 % 16), .int .i64 (n / 16 % 16), .int .i64 (n % 16)]) (.agg (arr (nibs n)))).run Tryd.prog w = .ok true w := by
  have := eq_moth (a := nibs n) (b := nibs n) rfl rfl w
  rw [decide_eq_true rfl] at this
  exact this
theorem eq_same4 (m : List Int) (hm : m.length = 4) (w : World) : (Op.equalIn 10000 46 (.agg (arr m)) (.agg (arr m))).run Tryd.prog w = .ok true w := by
  have := eq_moth (a := m) (b := m) hm hm w
  rw [decide_eq_true rfl] at this
  exact this

set_option maxHeartbeats 1000000 in
theorem casts_over (p : Option Addr) (rows : List Int) (c : Nat) (n : Int) (w : World) (hm : 40 < rows.length) (hp : Par w) (hn : Nam w) :
    Calls Tryd.prog 5 #[.slice p rows.length c, .int .i64 n] w fun e w' => e = .returned (.bool true) ∧ Below w.heap.size w w' := by
  have x0 : (40 : Int) < (rows.length : Int) := by omega
  go_enter Tryd.func5, Tryd.ntmps5
  go_wp2_with fail
  refine (known_any _ hp hn).mono ?_
  rintro e w1 ⟨rfl, hb⟩
  go_wp2
  go_ret
  exact ⟨rfl, hb⟩

set_option maxRecDepth 100000 in
set_option maxHeartbeats 16000000 in
theorem casts_out_long (p : Option Addr) (rows : List Int) (c : Nat) (n : Int) (w : World) (hC : Came w p rows c) (hm : rows.length ≤ 40) (O : Hid (outB 0 65535 n = true)) (hL : Hid (rows.length ≠ 16)) (hp : Par w) (hn : Nam w) :
    Calls Tryd.prog 5 #[.slice p rows.length c, .int .i64 n] w fun e w' => e = .returned (.bool true) ∧ Below w.heap.size w w' := by
  have CE := Lib.hid (show castE rows = 5 from by have := hL.out; simp [castE, this])
  have CV := Lib.hid (show castV rows = [0, 0, 0, 0] from by unfold castV; rw [if_neg (by rw [CE.out]; omega)])
  have ME := Lib.hid (show mothE n = 3 by unfold mothE; rw [O.out]; rfl)
  have MV := Lib.hid (show mothV n = [0, 0, 0, 0] by unfold mothV; rw [O.out]; rfl)
  have G4 := guard_moth
  have N := eq_zero4
  have x0 : decide ((40 : Int) < (rows.length : Int)) = false := by simp; omega
  have hC1 := hC.below ((Below.refl w.heap.size w).alloc (Nat.le_refl _) (.cells #[] 3)) (Nat.le_refl _)
  go_enter Tryd.func5, Tryd.ntmps5
  go_wp2_with (at_builtin; refine wpList_append_came rfl (.tmp 19) (.tmp 20) rfl w.heap.size _ rfl (none_owns w) p rows c rfl hC1 (by omega) (by simp) ?_)
  intro v1 w1 hO1 hg1
  have hb1 : Below w.heap.size w w1 := ((Below.refl w.heap.size w).alloc (Nat.le_refl _) _).grown hg1 (by simp) (fun k hk => by simp [Value.ownBlock] at hk; omega)
  obtain ⟨p1, c1, rfl, hr1⟩ := Got.of_owns hO1
  clear hO1 hg1 hC1
  go_wp2_with fail
  refine (cast_any p1 rows c1 _ (by omega) hr1).mono ?_
  rintro e w2 ⟨rfl, hb2⟩
  rw [CE.out, CV.out]
  have hc2 := tr hb1 hb2
  have hr2 := hr1.below hb2 (Nat.le_refl _)
  have H60 := Lib.hid (Blk.new w2 46 (arr [0, 0, 0, 0]))
  have L6 := Lib.hid (show ([0, 0, 0, 0] : List Int).length = 4 from rfl)
  have I6 := Lib.hid (show (Tryd.prog.info? 46).map (·.size) = some (arr [0, 0, 0, 0]).size by rw [arr_size, L6.out]; exact info_moth)
  have O6 := Lib.hid (show (arr [0, 0, 0, 0]).size = 4 by rw [arr_size, L6.out])
  have H6 := Lib.hid (H60.out.row (arr [0, 0, 0, 0]))
  have hb3 : Below w2.heap.size w2 ((w2.alloc (.cells (arr [0, 0, 0, 0]) 46)).setRow w2.heap.size (arr [0, 0, 0, 0])) := below_setRow ((Below.refl _ _).alloc (Nat.le_refl _) _) (Nat.le_refl _) _
  have hc3 := tr hc2 hb3
  have hr3 := hr2.below hb3 (Nat.le_refl _)
  go_wp2_with (refine wpList_store_row rfl 46 (.tmp 6) (.tmp 25) rfl w2.heap.size (arr [0, 0, 0, 0]) rfl rfl 46 _ H60.out I6.out (O6.out ▸ rfl) (arr_one _) ?_)
  refine (mothers_any n _).mono ?_
  rintro e w3 ⟨rfl, hb4⟩
  rw [ME.out, MV.out]
  have H61 := Lib.hid (H6.out.below hb4 H6.out.lt)
  have hc4 := tr hc3 hb4
  have hr4 := hr3.below hb4 (Nat.le_refl _)
  have hs3 := H61.out.lt
  clear hb1 hb2 hb3 hb4 hc2 hc3 hr1 hr2 hr3 H60 H6 O6
  have H80 := Lib.hid (Blk.new w3 46 (arr [0, 0, 0, 0]))
  have I8 := Lib.hid (show (Tryd.prog.info? 46).map (·.size) = some (arr [0, 0, 0, 0]).size by rw [arr_size]; exact info_moth)
  have H8 := Lib.hid (H80.out.row (arr [0, 0, 0, 0]))
  have hb5 : Below w3.heap.size w3 ((w3.alloc (.cells (arr [0, 0, 0, 0]) 46)).setRow w3.heap.size (arr [0, 0, 0, 0])) := below_setRow ((Below.refl _ _).alloc (Nat.le_refl _) _) (Nat.le_refl _) _
  have H62 := Lib.hid (H61.out.below hb5 hs3)
  have hc5 := tr hc4 hb5
  have hr5 := hr4.below hb5 (Nat.le_refl _)
  have hR5 := hC.2.1.below hc5 (Nat.le_refl _)
  go_wp2_with (refine wpList_store_row rfl 46 (.tmp 8) (.tmp 30) rfl w3.heap.size (arr [0, 0, 0, 0]) rfl rfl 46 _ H80.out I8.out (by first | rfl | (rw [arr_size, arr_size]; rfl)) (arr_one _) ?_)
  refine (same_any p1 rows rows.length c1 p rows rows.length c _ (Lib.hid rfl) (Lib.hid rfl) (by omega) hr5 hR5).mono ?_
  rintro e w4 ⟨rfl, hw4⟩
  rw [decide_eq_true rfl]
  have hb6 : Below ((w3.alloc (.cells (arr [0, 0, 0, 0]) 46)).setRow w3.heap.size (arr [0, 0, 0, 0])).heap.size ((w3.alloc (.cells (arr [0, 0, 0, 0]) 46)).setRow w3.heap.size (arr [0, 0, 0, 0])) w4 := by
    obtain ⟨r, rfl⟩ := hw4
    exact below_drewN (Below.refl _ _) r
  have H63 := Lib.hid (H62.out.below hb6 H62.out.lt)
  have H81 := Lib.hid (H8.out.below hb6 H8.out.lt)
  have hc6 := tr hc5 hb6
  have hs4 := H63.out.lt
  have hs8 := H81.out.lt
  clear hw4 hb5 hb6 hc4 hc5 hr4 hr5 hR5 H61 H62 H80 H8
  have ho : n < 0 ∨ 65535 < n := by have := O.out; simpa [outB] using this
  have H64 := H63
  have hc7 := hc6
  have x1 : ((rows.length : Int) != 16) = true := by have := hL.out; simp; omega
  have x2 : decide ((rows.length : Int) = 16) = false := by have := hL.out; simp; omega
  rcases ho with ho | ho
  all_goals
    go_wp2_with (first
      | (refine wpList_load_row rfl 46 (.tmp 8) rfl w3.heap.size rfl 46 (arr [0, 0, 0, 0]) (0, 0) _ H81.out Tryd.underlying46 rfl I8.out ?_)
      | (refine wpList_load_row rfl 46 (.tmp 6) rfl w2.heap.size rfl 46 (arr [0, 0, 0, 0]) (0, 0) _ H64.out Tryd.underlying46 rfl I6.out ?_)
      | (go_at_call 22; refine (known_any _ (hp.below hc7 (Nat.le_refl _)) (hn.below hc7 (Nat.le_refl _))).mono ?_; rintro e wk ⟨rfl, hbk⟩))
    go_ret
    exact ⟨rfl, tr hc7 hbk⟩
set_option maxRecDepth 100000 in
set_option maxHeartbeats 16000000 in
theorem casts_out_good (p : Option Addr) (rows : List Int) (c : Nat) (n : Int) (w : World) (hC : Came w p rows c) (hm : rows.length ≤ 40) (O : Hid (outB 0 65535 n = true)) (hL : Hid (rows.length = 16)) (HB : Hid (anyB (outB 1 1000) rows = false)) (hp : Par w) (hn : Nam w) :
    Calls Tryd.prog 5 #[.slice p rows.length c, .int .i64 n] w fun e w' => e = .returned (.bool true) ∧ Below w.heap.size w w' := by
  have CE := Lib.hid (show castE rows = 0 from by have h1 := hL.out; have h2 := HB.out; simp [castE, h1, h2])
  have CV := Lib.hid (show castV rows = (castTo rows 4) from by unfold castV; rw [if_pos CE.out])
  have ME := Lib.hid (show mothE n = 3 by unfold mothE; rw [O.out]; rfl)
  have MV := Lib.hid (show mothV n = [0, 0, 0, 0] by unfold mothV; rw [O.out]; rfl)
  have G4 := guard_moth
  have N := eq_zero4
  have x0 : decide ((40 : Int) < (rows.length : Int)) = false := by simp; omega
  have hC1 := hC.below ((Below.refl w.heap.size w).alloc (Nat.le_refl _) (.cells #[] 3)) (Nat.le_refl _)
  go_enter Tryd.func5, Tryd.ntmps5
  go_wp2_with (at_builtin; refine wpList_append_came rfl (.tmp 19) (.tmp 20) rfl w.heap.size _ rfl (none_owns w) p rows c rfl hC1 (by omega) (by simp) ?_)
  intro v1 w1 hO1 hg1
  have hb1 : Below w.heap.size w w1 := ((Below.refl w.heap.size w).alloc (Nat.le_refl _) _).grown hg1 (by simp) (fun k hk => by simp [Value.ownBlock] at hk; omega)
  obtain ⟨p1, c1, rfl, hr1⟩ := Got.of_owns hO1
  clear hO1 hg1 hC1
  go_wp2_with fail
  refine (cast_any p1 rows c1 _ (by omega) hr1).mono ?_
  rintro e w2 ⟨rfl, hb2⟩
  rw [CE.out, CV.out]
  have hc2 := tr hb1 hb2
  have hr2 := hr1.below hb2 (Nat.le_refl _)
  have H60 := Lib.hid (Blk.new w2 46 (arr [0, 0, 0, 0]))
  have L6 := Lib.hid (show ((castTo rows 4) : List Int).length = 4 from castTo_len rows 4)
  have I6 := Lib.hid (show (Tryd.prog.info? 46).map (·.size) = some (arr (castTo rows 4)).size by rw [arr_size, L6.out]; exact info_moth)
  have O6 := Lib.hid (show (arr (castTo rows 4)).size = 4 by rw [arr_size, L6.out])
  have H6 := Lib.hid (H60.out.row (arr (castTo rows 4)))
  have hb3 : Below w2.heap.size w2 ((w2.alloc (.cells (arr [0, 0, 0, 0]) 46)).setRow w2.heap.size (arr (castTo rows 4))) := below_setRow ((Below.refl _ _).alloc (Nat.le_refl _) _) (Nat.le_refl _) _
  have hc3 := tr hc2 hb3
  have hr3 := hr2.below hb3 (Nat.le_refl _)
  go_wp2_with (refine wpList_store_row rfl 46 (.tmp 6) (.tmp 25) rfl w2.heap.size (arr (castTo rows 4)) rfl rfl 46 _ H60.out I6.out (O6.out ▸ rfl) (arr_one _) ?_)
  refine (mothers_any n _).mono ?_
  rintro e w3 ⟨rfl, hb4⟩
  rw [ME.out, MV.out]
  have H61 := Lib.hid (H6.out.below hb4 H6.out.lt)
  have hc4 := tr hc3 hb4
  have hr4 := hr3.below hb4 (Nat.le_refl _)
  have hs3 := H61.out.lt
  clear hb1 hb2 hb3 hb4 hc2 hc3 hr1 hr2 hr3 H60 H6 O6
  have H80 := Lib.hid (Blk.new w3 46 (arr [0, 0, 0, 0]))
  have I8 := Lib.hid (show (Tryd.prog.info? 46).map (·.size) = some (arr [0, 0, 0, 0]).size by rw [arr_size]; exact info_moth)
  have H8 := Lib.hid (H80.out.row (arr [0, 0, 0, 0]))
  have hb5 : Below w3.heap.size w3 ((w3.alloc (.cells (arr [0, 0, 0, 0]) 46)).setRow w3.heap.size (arr [0, 0, 0, 0])) := below_setRow ((Below.refl _ _).alloc (Nat.le_refl _) _) (Nat.le_refl _) _
  have H62 := Lib.hid (H61.out.below hb5 hs3)
  have hc5 := tr hc4 hb5
  have hr5 := hr4.below hb5 (Nat.le_refl _)
  have hR5 := hC.2.1.below hc5 (Nat.le_refl _)
  go_wp2_with (refine wpList_store_row rfl 46 (.tmp 8) (.tmp 30) rfl w3.heap.size (arr [0, 0, 0, 0]) rfl rfl 46 _ H80.out I8.out (by first | rfl | (rw [arr_size, arr_size]; rfl)) (arr_one _) ?_)
  refine (same_any p1 rows rows.length c1 p rows rows.length c _ (Lib.hid rfl) (Lib.hid rfl) (by omega) hr5 hR5).mono ?_
  rintro e w4 ⟨rfl, hw4⟩
  rw [decide_eq_true rfl]
  have hb6 : Below ((w3.alloc (.cells (arr [0, 0, 0, 0]) 46)).setRow w3.heap.size (arr [0, 0, 0, 0])).heap.size ((w3.alloc (.cells (arr [0, 0, 0, 0]) 46)).setRow w3.heap.size (arr [0, 0, 0, 0])) w4 := by
    obtain ⟨r, rfl⟩ := hw4
    exact below_drewN (Below.refl _ _) r
  have H63 := Lib.hid (H62.out.below hb6 H62.out.lt)
  have H81 := Lib.hid (H8.out.below hb6 H8.out.lt)
  have hc6 := tr hc5 hb6
  have hs4 := H63.out.lt
  have hs8 := H81.out.lt
  clear hw4 hb5 hb6 hc4 hc5 hr4 hr5 hR5 H61 H62 H80 H8
  have ho : n < 0 ∨ 65535 < n := by have := O.out; simpa [outB] using this
  have H64 := H63
  have hc7 := hc6
  have h16 := hL.out
  have x1 : ((rows.length : Int) != 16) = false := by simp; omega
  have x2 : decide ((rows.length : Int) = 16) = true := by simp; omega
  have hlr : rows.length = 16 := h16
  have HLR := Lib.hid hlr
  clear hlr h16
  rcases ho with ho | ho
  all_goals
    go_wp2_with (refine wpList_load_row rfl 46 (.tmp 8) rfl w3.heap.size rfl 46 (arr [0, 0, 0, 0]) (0, 0) _ H81.out Tryd.underlying46 rfl I8.out ?_)
    clear x1 x2
    have hsx : w2.heap.size < w4.heap.size := H64.out.lt
    have HWN := Lib.hid (show Blk (w4.alloc (.cells (arr [0, 0, 0, 0]) 46)) w4.heap.size 46 (arr (castTo rows 0)) from Blk.new _ _ _)
    have HW6 := Lib.hid (H64.out.alloc (.cells (arr [0, 0, 0, 0]) 46))
    have hc8 : Below w.heap.size w (w4.alloc (.cells (arr [0, 0, 0, 0]) 46)) := hc7.alloc hc7.size _
    generalize hWz : w4.alloc (.cells (arr [0, 0, 0, 0]) 46) = wz at HWN HW6 hc8
    try rw [show w4.alloc (.cells #[.int .i64 0, .int .i64 0, .int .i64 0, .int .i64 0] 46) = wz from hWz]
    clear hWz
    have hszn : w4.heap.size < wz.heap.size := HWN.out.lt
    go_loopw [11] (fun v wr => ∃ i : Nat, i ≤ 4 ∧ v = .int .i64 i ∧ Hid (Blk wr w4.heap.size 46 (arr (castTo rows i))) ∧ Hid (∀ t, t < 4 * i → Row1 (nth rows t)) ∧ Below w4.heap.size wz wr) (fun v _ => 4 - (intOf v).toNat)
    case atStart => exact ⟨0, by omega, rfl, HWN, fun t ht => by omega, Below.refl _ _⟩
    case round =>
      obtain ⟨i, hi4, rfl, HI, HO, hBi⟩ := hrel
      have HX6 := Lib.hid (HW6.out.below hBi hsx)
      have hsi := HI.out.lt
      by_cases hil : i < 4
      · have bi : decide ((i : Int) < 4) = true := by simp; omega
        have HMK := Lib.hid (show Blk (wr.alloc (.cells (arr [0, 0, 0, 0]) 27)) wr.heap.size 27 (arr (rmTo rows i 0)) from Blk.new _ _ _)
        have hBa : Below wr.heap.size wr (wr.alloc (.cells (arr [0, 0, 0, 0]) 27)) := (Below.refl _ _).alloc (Nat.le_refl _) _
        go_wp2
        generalize hWy : wr.alloc (.cells (arr [0, 0, 0, 0]) 27) = wy at HMK hBa
        try rw [show wr.alloc (.cells #[.int .i64 0, .int .i64 0, .int .i64 0, .int .i64 0] 27) = wy from hWy]
        clear hWy
        obtain ⟨wo, rfl⟩ : ∃ wo : World, wo = wr := ⟨_, rfl⟩
        have hszy : wo.heap.size < wy.heap.size := HMK.out.lt
        go_loopw [13, 14] (fun v _ wr => ∃ j : Nat, j ≤ 4 ∧ v = .int .i64 j ∧ Hid (Blk wr wo.heap.size 27 (arr (rmTo rows i j))) ∧ Hid (∀ t, t < 4 * i + j → Row1 (nth rows t)) ∧ Below wo.heap.size wy wr) (fun v _ _ => 4 - (intOf v).toNat)
        case atStart => exact ⟨0, by omega, rfl, HMK, HO, Below.refl _ _⟩
        case round =>
          obtain ⟨j, hj4, rfl, HJ, HT, hBj⟩ := hrel
          by_cases hjl : j < 4
          · have hbw : Below w.heap.size w wr := hc8.trans ((hBi.trans ((hBa.trans hBj).mono (by omega))).mono (by have := hc8.size; have := hc7.size; omega))
            obtain ⟨q, o, rfl, hcr⟩ := hC.2.1.below hbw (Nat.le_refl _) (4 * i + j) (by have := HLR.out; omega)
            have q1 : 4 * (i : Int) + (j : Int) < 16 := by omega
            have q2 : 0 ≤ 4 * (i : Int) + (j : Int) := by omega
            have q3 : (4 * (i : Int) + (j : Int)).toNat = 4 * i + j := by omega
            have q4 : 4 * (i : Int) + (j : Int) < (rows.length : Int) := by have := HLR.out; omega
            have q5 : 4 * i + j < rows.length := by have := HLR.out; omega
            by_cases hok : Row1 (nth rows (4 * i + j))
            · have HT2 : Hid (∀ t, t < 4 * i + (j + 1) → Row1 (nth rows t)) := fun t ht => by by_cases e : t = 4 * i + j; exact e ▸ hok; exact HT.out t (by omega)
              obtain ⟨ok1, ok2⟩ := hok
              have hcm : wr.cell? ⟨wo.heap.size, j, none⟩ = some (.int .i64 (nth (rmTo rows i j) j)) := by rw [HJ.out.cell j, arr_get (by rw [rmTo_len]; exact hjl)]
              have hfm := HJ.out.frozen j
              have HST := Lib.hid (HJ.out.set_ j (.int .i64 (rMark (nth rows (4 * i + j)))))
              have HSS := Lib.hid (rmTo_succ rows i hjl)
              go_wp2
              go_roundw
              case rel =>
                have HSTf := HST.out
                rw [arr_set, HSS.out] at HSTf
                first
                  | exact ⟨j + 1, by omega, by go_num, HSTf, HT2, hBj.setCell (Nat.le_refl _) _⟩
                  | ((repeat apply Exists.intro); exact ⟨⟨j + 1, by omega, by go_num, HSTf, HT2, hBj.setCell (Nat.le_refl _) _⟩, rfl⟩)
              case measure => simp [intOf]; omega
            · exact absurd (any_row (by have := HLR.out; omega) hok) (by rw [HB.out]; simp)
          · obtain rfl : j = 4 := by omega
            have HR4 : Hid (∀ t, t < 4 * (i + 1) → Row1 (nth rows t)) := fun t ht => HT.out t (by omega)
            have HI2 := Lib.hid (show (Tryd.prog.info? 27).map (·.size) = some (arr (rmTo rows i 4)).size by rw [arr_size, rmTo_len]; exact info_marks)
            have hBk : Below w4.heap.size wz wr := hBi.trans ((hBa.trans hBj).mono (by omega))
            have HIk := Lib.hid (HI.out.below (hBa.trans hBj) hsi)
            have hRS := Lib.hid (rm_sum rows i (fun t ht => HT.out (4 * i + t) (by omega)))
            go_wp2_with (refine wpList_load_row rfl 27 (.tmp 12) rfl wo.heap.size rfl 27 (arr (rmTo rows i 4)) (0, 0) _ HJ.out Tryd.underlying27 rfl HI2.out ?_)
            refine (refOf_any (rmTo rows i 4) (Lib.hid (rmTo_len rows i 4)) (rm_mks rows i) _).mono ?_
            rintro e wq ⟨rfl, hwq⟩
            rw [hRS.out]
            have hbq : Below wr.heap.size wr wq := hwq ▸ (Below.refl _ _).alloc (Nat.le_refl _) _
            have HIq := Lib.hid (HIk.out.below hbq HIk.out.lt)
            have hBq : Below w4.heap.size wz wq := hBk.trans (hbq.mono (by have := hBk.size; omega))
            clear hwq hbq hBk hBj HIk
            have hcq : wq.cell? ⟨w4.heap.size, i, none⟩ = some (.int .i64 (nth (castTo rows i) i)) := by rw [HIq.out.cell i, arr_get (by rw [castTo_len]; exact hil)]
            have hfq := HIq.out.frozen i
            have HSQ := Lib.hid (HIq.out.set_ i (.int .i64 (figTo (fun j => oddB (nth rows (i * 4 + j))) 4)))
            have HSR := Lib.hid (castTo_succ rows hil)
            go_wp2
            go_roundw
            case rel => exact ⟨i + 1, by omega, by go_num, by have := HSQ.out; rw [arr_set, HSR.out] at this; exact this, HR4, hBq.setCell (Nat.le_refl _) _⟩
            case measure => simp [intOf]; omega
      · obtain rfl : i = 4 := by omega
        have hbz : Below w.heap.size w wr := hc8.trans (hBi.mono (by have := hc7.size; omega))
        have N5 := eq_same4 (castTo rows 4) (castTo_len rows 4)
        go_wp2_with (first
          | (refine wpList_load_row rfl 46 (.tmp 6) rfl w2.heap.size rfl 46 (arr (castTo rows 4)) (0, 0) _ HX6.out Tryd.underlying46 rfl I6.out ?_)
          | (refine wpList_load_row rfl 46 (.tmp 10) rfl w4.heap.size rfl 46 (arr (castTo rows 4)) (0, 0) _ HI.out Tryd.underlying46 rfl I6.out ?_)
          | (go_at_call 22; refine (known_any _ (hp.below hbz (Nat.le_refl _)) (hn.below hbz (Nat.le_refl _))).mono ?_; rintro e wk ⟨rfl, hbk⟩))
        go_ret
        exact ⟨rfl, tr hbz hbk⟩
set_option maxRecDepth 100000 in
set_option maxHeartbeats 16000000 in
theorem casts_out_bad (p : Option Addr) (rows : List Int) (c : Nat) (n : Int) (w : World) (hC : Came w p rows c) (hm : rows.length ≤ 40) (O : Hid (outB 0 65535 n = true)) (hL : Hid (rows.length = 16)) (HB : Hid (anyB (outB 1 1000) rows = true)) (hp : Par w) (hn : Nam w) :
    Calls Tryd.prog 5 #[.slice p rows.length c, .int .i64 n] w fun e w' => e = .returned (.bool true) ∧ Below w.heap.size w w' := by
  have CE := Lib.hid (show castE rows = 3 from by have h1 := hL.out; have h2 := HB.out; simp [castE, h1, h2])
  have CV := Lib.hid (show castV rows = [0, 0, 0, 0] from by unfold castV; rw [if_neg (by rw [CE.out]; omega)])
  have ME := Lib.hid (show mothE n = 3 by unfold mothE; rw [O.out]; rfl)
  have MV := Lib.hid (show mothV n = [0, 0, 0, 0] by unfold mothV; rw [O.out]; rfl)
  have G4 := guard_moth
  have N := eq_zero4
  have x0 : decide ((40 : Int) < (rows.length : Int)) = false := by simp; omega
  have hC1 := hC.below ((Below.refl w.heap.size w).alloc (Nat.le_refl _) (.cells #[] 3)) (Nat.le_refl _)
  go_enter Tryd.func5, Tryd.ntmps5
  go_wp2_with (at_builtin; refine wpList_append_came rfl (.tmp 19) (.tmp 20) rfl w.heap.size _ rfl (none_owns w) p rows c rfl hC1 (by omega) (by simp) ?_)
  intro v1 w1 hO1 hg1
  have hb1 : Below w.heap.size w w1 := ((Below.refl w.heap.size w).alloc (Nat.le_refl _) _).grown hg1 (by simp) (fun k hk => by simp [Value.ownBlock] at hk; omega)
  obtain ⟨p1, c1, rfl, hr1⟩ := Got.of_owns hO1
  clear hO1 hg1 hC1
  go_wp2_with fail
  refine (cast_any p1 rows c1 _ (by omega) hr1).mono ?_
  rintro e w2 ⟨rfl, hb2⟩
  rw [CE.out, CV.out]
  have hc2 := tr hb1 hb2
  have hr2 := hr1.below hb2 (Nat.le_refl _)
  have H60 := Lib.hid (Blk.new w2 46 (arr [0, 0, 0, 0]))
  have L6 := Lib.hid (show ([0, 0, 0, 0] : List Int).length = 4 from rfl)
  have I6 := Lib.hid (show (Tryd.prog.info? 46).map (·.size) = some (arr [0, 0, 0, 0]).size by rw [arr_size, L6.out]; exact info_moth)
  have O6 := Lib.hid (show (arr [0, 0, 0, 0]).size = 4 by rw [arr_size, L6.out])
  have H6 := Lib.hid (H60.out.row (arr [0, 0, 0, 0]))
  have hb3 : Below w2.heap.size w2 ((w2.alloc (.cells (arr [0, 0, 0, 0]) 46)).setRow w2.heap.size (arr [0, 0, 0, 0])) := below_setRow ((Below.refl _ _).alloc (Nat.le_refl _) _) (Nat.le_refl _) _
  have hc3 := tr hc2 hb3
  have hr3 := hr2.below hb3 (Nat.le_refl _)
  go_wp2_with (refine wpList_store_row rfl 46 (.tmp 6) (.tmp 25) rfl w2.heap.size (arr [0, 0, 0, 0]) rfl rfl 46 _ H60.out I6.out (O6.out ▸ rfl) (arr_one _) ?_)
  refine (mothers_any n _).mono ?_
  rintro e w3 ⟨rfl, hb4⟩
  rw [ME.out, MV.out]
  have H61 := Lib.hid (H6.out.below hb4 H6.out.lt)
  have hc4 := tr hc3 hb4
  have hr4 := hr3.below hb4 (Nat.le_refl _)
  have hs3 := H61.out.lt
  clear hb1 hb2 hb3 hb4 hc2 hc3 hr1 hr2 hr3 H60 H6 O6
  have H80 := Lib.hid (Blk.new w3 46 (arr [0, 0, 0, 0]))
  have I8 := Lib.hid (show (Tryd.prog.info? 46).map (·.size) = some (arr [0, 0, 0, 0]).size by rw [arr_size]; exact info_moth)
  have H8 := Lib.hid (H80.out.row (arr [0, 0, 0, 0]))
  have hb5 : Below w3.heap.size w3 ((w3.alloc (.cells (arr [0, 0, 0, 0]) 46)).setRow w3.heap.size (arr [0, 0, 0, 0])) := below_setRow ((Below.refl _ _).alloc (Nat.le_refl _) _) (Nat.le_refl _) _
  have H62 := Lib.hid (H61.out.below hb5 hs3)
  have hc5 := tr hc4 hb5
  have hr5 := hr4.below hb5 (Nat.le_refl _)
  have hR5 := hC.2.1.below hc5 (Nat.le_refl _)
  go_wp2_with (refine wpList_store_row rfl 46 (.tmp 8) (.tmp 30) rfl w3.heap.size (arr [0, 0, 0, 0]) rfl rfl 46 _ H80.out I8.out (by first | rfl | (rw [arr_size, arr_size]; rfl)) (arr_one _) ?_)
  refine (same_any p1 rows rows.length c1 p rows rows.length c _ (Lib.hid rfl) (Lib.hid rfl) (by omega) hr5 hR5).mono ?_
  rintro e w4 ⟨rfl, hw4⟩
  rw [decide_eq_true rfl]
  have hb6 : Below ((w3.alloc (.cells (arr [0, 0, 0, 0]) 46)).setRow w3.heap.size (arr [0, 0, 0, 0])).heap.size ((w3.alloc (.cells (arr [0, 0, 0, 0]) 46)).setRow w3.heap.size (arr [0, 0, 0, 0])) w4 := by
    obtain ⟨r, rfl⟩ := hw4
    exact below_drewN (Below.refl _ _) r
  have H63 := Lib.hid (H62.out.below hb6 H62.out.lt)
  have H81 := Lib.hid (H8.out.below hb6 H8.out.lt)
  have hc6 := tr hc5 hb6
  have hs4 := H63.out.lt
  have hs8 := H81.out.lt
  clear hw4 hb5 hb6 hc4 hc5 hr4 hr5 hR5 H61 H62 H80 H8
  have ho : n < 0 ∨ 65535 < n := by have := O.out; simpa [outB] using this
  have H64 := H63
  have hc7 := hc6
  have h16 := hL.out
  have x1 : ((rows.length : Int) != 16) = false := by simp; omega
  have x2 : decide ((rows.length : Int) = 16) = true := by simp; omega
  have hlr : rows.length = 16 := h16
  have HLR := Lib.hid hlr
  clear hlr h16
  rcases ho with ho | ho
  all_goals
    go_wp2_with (refine wpList_load_row rfl 46 (.tmp 8) rfl w3.heap.size rfl 46 (arr [0, 0, 0, 0]) (0, 0) _ H81.out Tryd.underlying46 rfl I8.out ?_)
    clear x1 x2
    have hsx : w2.heap.size < w4.heap.size := H64.out.lt
    have HWN := Lib.hid (show Blk (w4.alloc (.cells (arr [0, 0, 0, 0]) 46)) w4.heap.size 46 (arr (castTo rows 0)) from Blk.new _ _ _)
    have HW6 := Lib.hid (H64.out.alloc (.cells (arr [0, 0, 0, 0]) 46))
    have hc8 : Below w.heap.size w (w4.alloc (.cells (arr [0, 0, 0, 0]) 46)) := hc7.alloc hc7.size _
    generalize hWz : w4.alloc (.cells (arr [0, 0, 0, 0]) 46) = wz at HWN HW6 hc8
    try rw [show w4.alloc (.cells #[.int .i64 0, .int .i64 0, .int .i64 0, .int .i64 0] 46) = wz from hWz]
    clear hWz
    have hszn : w4.heap.size < wz.heap.size := HWN.out.lt
    go_loopw [11] (fun v wr => ∃ i : Nat, i ≤ 4 ∧ v = .int .i64 i ∧ Hid (Blk wr w4.heap.size 46 (arr (castTo rows i))) ∧ Hid (∀ t, t < 4 * i → Row1 (nth rows t)) ∧ Below w4.heap.size wz wr) (fun v _ => 4 - (intOf v).toNat)
    case atStart => exact ⟨0, by omega, rfl, HWN, fun t ht => by omega, Below.refl _ _⟩
    case round =>
      obtain ⟨i, hi4, rfl, HI, HO, hBi⟩ := hrel
      have HX6 := Lib.hid (HW6.out.below hBi hsx)
      have hsi := HI.out.lt
      by_cases hil : i < 4
      · have bi : decide ((i : Int) < 4) = true := by simp; omega
        have HMK := Lib.hid (show Blk (wr.alloc (.cells (arr [0, 0, 0, 0]) 27)) wr.heap.size 27 (arr (rmTo rows i 0)) from Blk.new _ _ _)
        have hBa : Below wr.heap.size wr (wr.alloc (.cells (arr [0, 0, 0, 0]) 27)) := (Below.refl _ _).alloc (Nat.le_refl _) _
        go_wp2
        generalize hWy : wr.alloc (.cells (arr [0, 0, 0, 0]) 27) = wy at HMK hBa
        try rw [show wr.alloc (.cells #[.int .i64 0, .int .i64 0, .int .i64 0, .int .i64 0] 27) = wy from hWy]
        clear hWy
        obtain ⟨wo, rfl⟩ : ∃ wo : World, wo = wr := ⟨_, rfl⟩
        have hszy : wo.heap.size < wy.heap.size := HMK.out.lt
        go_loopw [13, 14] (fun v _ wr => ∃ j : Nat, j ≤ 4 ∧ v = .int .i64 j ∧ Hid (Blk wr wo.heap.size 27 (arr (rmTo rows i j))) ∧ Hid (∀ t, t < 4 * i + j → Row1 (nth rows t)) ∧ Below wo.heap.size wy wr) (fun v _ _ => 4 - (intOf v).toNat)
        case atStart => exact ⟨0, by omega, rfl, HMK, HO, Below.refl _ _⟩
        case round =>
          obtain ⟨j, hj4, rfl, HJ, HT, hBj⟩ := hrel
          by_cases hjl : j < 4
          · have hbw : Below w.heap.size w wr := hc8.trans ((hBi.trans ((hBa.trans hBj).mono (by omega))).mono (by have := hc8.size; have := hc7.size; omega))
            obtain ⟨q, o, rfl, hcr⟩ := hC.2.1.below hbw (Nat.le_refl _) (4 * i + j) (by have := HLR.out; omega)
            have q1 : 4 * (i : Int) + (j : Int) < 16 := by omega
            have q2 : 0 ≤ 4 * (i : Int) + (j : Int) := by omega
            have q3 : (4 * (i : Int) + (j : Int)).toNat = 4 * i + j := by omega
            have q4 : 4 * (i : Int) + (j : Int) < (rows.length : Int) := by have := HLR.out; omega
            have q5 : 4 * i + j < rows.length := by have := HLR.out; omega
            by_cases hok : Row1 (nth rows (4 * i + j))
            · have HT2 : Hid (∀ t, t < 4 * i + (j + 1) → Row1 (nth rows t)) := fun t ht => by by_cases e : t = 4 * i + j; exact e ▸ hok; exact HT.out t (by omega)
              obtain ⟨ok1, ok2⟩ := hok
              have hcm : wr.cell? ⟨wo.heap.size, j, none⟩ = some (.int .i64 (nth (rmTo rows i j) j)) := by rw [HJ.out.cell j, arr_get (by rw [rmTo_len]; exact hjl)]
              have hfm := HJ.out.frozen j
              have HST := Lib.hid (HJ.out.set_ j (.int .i64 (rMark (nth rows (4 * i + j)))))
              have HSS := Lib.hid (rmTo_succ rows i hjl)
              go_wp2
              go_roundw
              case rel =>
                have HSTf := HST.out
                rw [arr_set, HSS.out] at HSTf
                first
                  | exact ⟨j + 1, by omega, by go_num, HSTf, HT2, hBj.setCell (Nat.le_refl _) _⟩
                  | ((repeat apply Exists.intro); exact ⟨⟨j + 1, by omega, by go_num, HSTf, HT2, hBj.setCell (Nat.le_refl _) _⟩, rfl⟩)
              case measure => simp [intOf]; omega
            · have hrr : nth rows (4 * i + j) < 1 ∨ 1000 < nth rows (4 * i + j) := by unfold Row1 at hok; omega
              clear hok
              have HY6 := Lib.hid (HX6.out.below (hBa.trans hBj) (by have := hsi; omega))
              rcases hrr with hrr | hrr
              all_goals
                go_wp2_with (first
                  | (refine wpList_load_row rfl 46 (.tmp 6) rfl w2.heap.size rfl 46 (arr [0, 0, 0, 0]) (0, 0) _ HY6.out Tryd.underlying46 rfl I6.out ?_)
                  | (go_at_call 22; refine (known_any _ (hp.below hbw (Nat.le_refl _)) (hn.below hbw (Nat.le_refl _))).mono ?_; rintro e wk ⟨rfl, hbk⟩))
                go_ret
                exact ⟨rfl, tr hbw hbk⟩
          · obtain rfl : j = 4 := by omega
            have HR4 : Hid (∀ t, t < 4 * (i + 1) → Row1 (nth rows t)) := fun t ht => HT.out t (by omega)
            have HI2 := Lib.hid (show (Tryd.prog.info? 27).map (·.size) = some (arr (rmTo rows i 4)).size by rw [arr_size, rmTo_len]; exact info_marks)
            have hBk : Below w4.heap.size wz wr := hBi.trans ((hBa.trans hBj).mono (by omega))
            have HIk := Lib.hid (HI.out.below (hBa.trans hBj) hsi)
            have hRS := Lib.hid (rm_sum rows i (fun t ht => HT.out (4 * i + t) (by omega)))
            go_wp2_with (refine wpList_load_row rfl 27 (.tmp 12) rfl wo.heap.size rfl 27 (arr (rmTo rows i 4)) (0, 0) _ HJ.out Tryd.underlying27 rfl HI2.out ?_)
            refine (refOf_any (rmTo rows i 4) (Lib.hid (rmTo_len rows i 4)) (rm_mks rows i) _).mono ?_
            rintro e wq ⟨rfl, hwq⟩
            rw [hRS.out]
            have hbq : Below wr.heap.size wr wq := hwq ▸ (Below.refl _ _).alloc (Nat.le_refl _) _
            have HIq := Lib.hid (HIk.out.below hbq HIk.out.lt)
            have hBq : Below w4.heap.size wz wq := hBk.trans (hbq.mono (by have := hBk.size; omega))
            clear hwq hbq hBk hBj HIk
            have hcq : wq.cell? ⟨w4.heap.size, i, none⟩ = some (.int .i64 (nth (castTo rows i) i)) := by rw [HIq.out.cell i, arr_get (by rw [castTo_len]; exact hil)]
            have hfq := HIq.out.frozen i
            have HSQ := Lib.hid (HIq.out.set_ i (.int .i64 (figTo (fun j => oddB (nth rows (i * 4 + j))) 4)))
            have HSR := Lib.hid (castTo_succ rows hil)
            go_wp2
            go_roundw
            case rel => exact ⟨i + 1, by omega, by go_num, by have := HSQ.out; rw [arr_set, HSR.out] at this; exact this, HR4, hBq.setCell (Nat.le_refl _) _⟩
            case measure => simp [intOf]; omega
      · obtain rfl : i = 4 := by omega
        exact absurd (no_row (fun t ht => HO.out t (by have := HLR.out; omega))) (by rw [HB.out]; simp)
set_option maxRecDepth 100000 in
set_option maxHeartbeats 16000000 in
theorem casts_in_long (p : Option Addr) (rows : List Int) (c : Nat) (n : Int) (w : World) (hC : Came w p rows c) (hm : rows.length ≤ 40) (O : Hid (outB 0 65535 n = false)) (hL : Hid (rows.length ≠ 16)) (hp : Par w) (hn : Nam w) :
    Calls Tryd.prog 5 #[.slice p rows.length c, .int .i64 n] w fun e w' => e = .returned (.bool true) ∧ Below w.heap.size w w' := by
  have CE := Lib.hid (show castE rows = 5 from by have := hL.out; simp [castE, this])
  have CV := Lib.hid (show castV rows = [0, 0, 0, 0] from by unfold castV; rw [if_neg (by rw [CE.out]; omega)])
  have ME := Lib.hid (show mothE n = 0 by unfold mothE; rw [O.out]; rfl)
  have MV := Lib.hid (show mothV n = (nibs n) by unfold mothV; rw [O.out]; rfl)
  have G4 := guard_moth
  have N := eq_zero4
  have x0 : decide ((40 : Int) < (rows.length : Int)) = false := by simp; omega
  have hC1 := hC.below ((Below.refl w.heap.size w).alloc (Nat.le_refl _) (.cells #[] 3)) (Nat.le_refl _)
  go_enter Tryd.func5, Tryd.ntmps5
  go_wp2_with (at_builtin; refine wpList_append_came rfl (.tmp 19) (.tmp 20) rfl w.heap.size _ rfl (none_owns w) p rows c rfl hC1 (by omega) (by simp) ?_)
  intro v1 w1 hO1 hg1
  have hb1 : Below w.heap.size w w1 := ((Below.refl w.heap.size w).alloc (Nat.le_refl _) _).grown hg1 (by simp) (fun k hk => by simp [Value.ownBlock] at hk; omega)
  obtain ⟨p1, c1, rfl, hr1⟩ := Got.of_owns hO1
  clear hO1 hg1 hC1
  go_wp2_with fail
  refine (cast_any p1 rows c1 _ (by omega) hr1).mono ?_
  rintro e w2 ⟨rfl, hb2⟩
  rw [CE.out, CV.out]
  have hc2 := tr hb1 hb2
  have hr2 := hr1.below hb2 (Nat.le_refl _)
  have H60 := Lib.hid (Blk.new w2 46 (arr [0, 0, 0, 0]))
  have L6 := Lib.hid (show ([0, 0, 0, 0] : List Int).length = 4 from rfl)
  have I6 := Lib.hid (show (Tryd.prog.info? 46).map (·.size) = some (arr [0, 0, 0, 0]).size by rw [arr_size, L6.out]; exact info_moth)
  have O6 := Lib.hid (show (arr [0, 0, 0, 0]).size = 4 by rw [arr_size, L6.out])
  have H6 := Lib.hid (H60.out.row (arr [0, 0, 0, 0]))
  have hb3 : Below w2.heap.size w2 ((w2.alloc (.cells (arr [0, 0, 0, 0]) 46)).setRow w2.heap.size (arr [0, 0, 0, 0])) := below_setRow ((Below.refl _ _).alloc (Nat.le_refl _) _) (Nat.le_refl _) _
  have hc3 := tr hc2 hb3
  have hr3 := hr2.below hb3 (Nat.le_refl _)
  go_wp2_with (refine wpList_store_row rfl 46 (.tmp 6) (.tmp 25) rfl w2.heap.size (arr [0, 0, 0, 0]) rfl rfl 46 _ H60.out I6.out (O6.out ▸ rfl) (arr_one _) ?_)
  refine (mothers_any n _).mono ?_
  rintro e w3 ⟨rfl, hb4⟩
  rw [ME.out, MV.out]
  have H61 := Lib.hid (H6.out.below hb4 H6.out.lt)
  have hc4 := tr hc3 hb4
  have hr4 := hr3.below hb4 (Nat.le_refl _)
  have hs3 := H61.out.lt
  clear hb1 hb2 hb3 hb4 hc2 hc3 hr1 hr2 hr3 H60 H6 O6
  have H80 := Lib.hid (Blk.new w3 46 (arr [0, 0, 0, 0]))
  have I8 := Lib.hid (show (Tryd.prog.info? 46).map (·.size) = some (arr (nibs n)).size by rw [arr_size]; exact info_moth)
  have H8 := Lib.hid (H80.out.row (arr (nibs n)))
  have hb5 : Below w3.heap.size w3 ((w3.alloc (.cells (arr [0, 0, 0, 0]) 46)).setRow w3.heap.size (arr (nibs n))) := below_setRow ((Below.refl _ _).alloc (Nat.le_refl _) _) (Nat.le_refl _) _
  have H62 := Lib.hid (H61.out.below hb5 hs3)
  have hc5 := tr hc4 hb5
  have hr5 := hr4.below hb5 (Nat.le_refl _)
  have hR5 := hC.2.1.below hc5 (Nat.le_refl _)
  go_wp2_with (refine wpList_store_row rfl 46 (.tmp 8) (.tmp 30) rfl w3.heap.size (arr (nibs n)) rfl rfl 46 _ H80.out I8.out (by first | rfl | (rw [arr_size, arr_size]; rfl)) (arr_one _) ?_)
  refine (same_any p1 rows rows.length c1 p rows rows.length c _ (Lib.hid rfl) (Lib.hid rfl) (by omega) hr5 hR5).mono ?_
  rintro e w4 ⟨rfl, hw4⟩
  rw [decide_eq_true rfl]
  have hb6 : Below ((w3.alloc (.cells (arr [0, 0, 0, 0]) 46)).setRow w3.heap.size (arr (nibs n))).heap.size ((w3.alloc (.cells (arr [0, 0, 0, 0]) 46)).setRow w3.heap.size (arr (nibs n))) w4 := by
    obtain ⟨r, rfl⟩ := hw4
    exact below_drewN (Below.refl _ _) r
  have H63 := Lib.hid (H62.out.below hb6 H62.out.lt)
  have H81 := Lib.hid (H8.out.below hb6 H8.out.lt)
  have hc6 := tr hc5 hb6
  have hs4 := H63.out.lt
  have hs8 := H81.out.lt
  clear hw4 hb5 hb6 hc4 hc5 hr4 hr5 hR5 H61 H62 H80 H8
  obtain ⟨n0, n1⟩ : 0 ≤ n ∧ n ≤ 65535 := by have := O.out; simp [outB] at this; omega
  have N2 := eq_nibs n
  have k0 : w4.cell? ⟨w3.heap.size, 0, none⟩ = some (.int .i64 (n / 4096 % 16)) := H81.out.cell 0
  have k1 : w4.cell? ⟨w3.heap.size, 1, none⟩ = some (.int .i64 (n / 256 % 16)) := H81.out.cell 1
  have k2 : w4.cell? ⟨w3.heap.size, 2, none⟩ = some (.int .i64 (n / 16 % 16)) := H81.out.cell 2
  have k3 : w4.cell? ⟨w3.heap.size, 3, none⟩ = some (.int .i64 (n % 16)) := H81.out.cell 3
  go_wp2
  go_region_held3 (fun w' => w'.cell? ⟨w3.heap.size, 0, none⟩ = some (.int .i64 (n / 4096 % 16)) ∧ w'.cell? ⟨w3.heap.size, 1, none⟩ = some (.int .i64 (n / 256 % 16)) ∧ w'.cell? ⟨w3.heap.size, 2, none⟩ = some (.int .i64 (n / 16 % 16)) ∧ w'.cell? ⟨w3.heap.size, 3, none⟩ = some (.int .i64 (n % 16)) ∧ Below w4.heap.size w4 w')
    (first | exact ⟨k0, k1, k2, k3, (Below.refl _ _).drew⟩ | assumption | exact ⟨cell_tr hbk (by exact k0), cell_tr hbk (by exact k1), cell_tr hbk (by exact k2), cell_tr hbk (by exact k3), tr (Below.drew (Below.refl w4.heap.size w4)) hbk⟩)
    (first | (go_at_call 32; refine (refMothers_any n n0 n1 _).mono ?_; rintro e w' ⟨rfl, hbk⟩))
  rename_i hh
  obtain ⟨_, _, _, _, hbx⟩ := hh
  have H64 := Lib.hid (H63.out.below hbx hs4)
  have hc7 := tr hc6 hbx
  clear k0 k1 k2 k3 hbk hbx N2
  have x1 : ((rows.length : Int) != 16) = true := by have := hL.out; simp; omega
  have x2 : decide ((rows.length : Int) = 16) = false := by have := hL.out; simp; omega
  go_wp2_with (first
      | (refine wpList_load_row rfl 46 (.tmp 6) rfl w2.heap.size rfl 46 (arr [0, 0, 0, 0]) (0, 0) _ H64.out Tryd.underlying46 rfl I6.out ?_)
      | (go_at_call 22; refine (known_any _ (hp.below hc7 (Nat.le_refl _)) (hn.below hc7 (Nat.le_refl _))).mono ?_; rintro e wk ⟨rfl, hbk⟩))
  go_ret
  exact ⟨rfl, tr hc7 hbk⟩
set_option maxRecDepth 100000 in
set_option maxHeartbeats 16000000 in
theorem casts_in_good (p : Option Addr) (rows : List Int) (c : Nat) (n : Int) (w : World) (hC : Came w p rows c) (hm : rows.length ≤ 40) (O : Hid (outB 0 65535 n = false)) (hL : Hid (rows.length = 16)) (HB : Hid (anyB (outB 1 1000) rows = false)) (hp : Par w) (hn : Nam w) :
    Calls Tryd.prog 5 #[.slice p rows.length c, .int .i64 n] w fun e w' => e = .returned (.bool true) ∧ Below w.heap.size w w' := by
  have CE := Lib.hid (show castE rows = 0 from by have h1 := hL.out; have h2 := HB.out; simp [castE, h1, h2])
  have CV := Lib.hid (show castV rows = (castTo rows 4) from by unfold castV; rw [if_pos CE.out])
  have ME := Lib.hid (show mothE n = 0 by unfold mothE; rw [O.out]; rfl)
  have MV := Lib.hid (show mothV n = (nibs n) by unfold mothV; rw [O.out]; rfl)
  have G4 := guard_moth
  have N := eq_zero4
  have x0 : decide ((40 : Int) < (rows.length : Int)) = false := by simp; omega
  have hC1 := hC.below ((Below.refl w.heap.size w).alloc (Nat.le_refl _) (.cells #[] 3)) (Nat.le_refl _)
  go_enter Tryd.func5, Tryd.ntmps5
  go_wp2_with (at_builtin; refine wpList_append_came rfl (.tmp 19) (.tmp 20) rfl w.heap.size _ rfl (none_owns w) p rows c rfl hC1 (by omega) (by simp) ?_)
  intro v1 w1 hO1 hg1
  have hb1 : Below w.heap.size w w1 := ((Below.refl w.heap.size w).alloc (Nat.le_refl _) _).grown hg1 (by simp) (fun k hk => by simp [Value.ownBlock] at hk; omega)
  obtain ⟨p1, c1, rfl, hr1⟩ := Got.of_owns hO1
  clear hO1 hg1 hC1
  go_wp2_with fail
  refine (cast_any p1 rows c1 _ (by omega) hr1).mono ?_
  rintro e w2 ⟨rfl, hb2⟩
  rw [CE.out, CV.out]
  have hc2 := tr hb1 hb2
  have hr2 := hr1.below hb2 (Nat.le_refl _)
  have H60 := Lib.hid (Blk.new w2 46 (arr [0, 0, 0, 0]))
  have L6 := Lib.hid (show ((castTo rows 4) : List Int).length = 4 from castTo_len rows 4)
  have I6 := Lib.hid (show (Tryd.prog.info? 46).map (·.size) = some (arr (castTo rows 4)).size by rw [arr_size, L6.out]; exact info_moth)
  have O6 := Lib.hid (show (arr (castTo rows 4)).size = 4 by rw [arr_size, L6.out])
  have H6 := Lib.hid (H60.out.row (arr (castTo rows 4)))
  have hb3 : Below w2.heap.size w2 ((w2.alloc (.cells (arr [0, 0, 0, 0]) 46)).setRow w2.heap.size (arr (castTo rows 4))) := below_setRow ((Below.refl _ _).alloc (Nat.le_refl _) _) (Nat.le_refl _) _
  have hc3 := tr hc2 hb3
  have hr3 := hr2.below hb3 (Nat.le_refl _)
  go_wp2_with (refine wpList_store_row rfl 46 (.tmp 6) (.tmp 25) rfl w2.heap.size (arr (castTo rows 4)) rfl rfl 46 _ H60.out I6.out (O6.out ▸ rfl) (arr_one _) ?_)
  refine (mothers_any n _).mono ?_
  rintro e w3 ⟨rfl, hb4⟩
  rw [ME.out, MV.out]
  have H61 := Lib.hid (H6.out.below hb4 H6.out.lt)
  have hc4 := tr hc3 hb4
  have hr4 := hr3.below hb4 (Nat.le_refl _)
  have hs3 := H61.out.lt
  clear hb1 hb2 hb3 hb4 hc2 hc3 hr1 hr2 hr3 H60 H6 O6
  have H80 := Lib.hid (Blk.new w3 46 (arr [0, 0, 0, 0]))
  have I8 := Lib.hid (show (Tryd.prog.info? 46).map (·.size) = some (arr (nibs n)).size by rw [arr_size]; exact info_moth)
  have H8 := Lib.hid (H80.out.row (arr (nibs n)))
  have hb5 : Below w3.heap.size w3 ((w3.alloc (.cells (arr [0, 0, 0, 0]) 46)).setRow w3.heap.size (arr (nibs n))) := below_setRow ((Below.refl _ _).alloc (Nat.le_refl _) _) (Nat.le_refl _) _
  have H62 := Lib.hid (H61.out.below hb5 hs3)
  have hc5 := tr hc4 hb5
  have hr5 := hr4.below hb5 (Nat.le_refl _)
  have hR5 := hC.2.1.below hc5 (Nat.le_refl _)
  go_wp2_with (refine wpList_store_row rfl 46 (.tmp 8) (.tmp 30) rfl w3.heap.size (arr (nibs n)) rfl rfl 46 _ H80.out I8.out (by first | rfl | (rw [arr_size, arr_size]; rfl)) (arr_one _) ?_)
  refine (same_any p1 rows rows.length c1 p rows rows.length c _ (Lib.hid rfl) (Lib.hid rfl) (by omega) hr5 hR5).mono ?_
  rintro e w4 ⟨rfl, hw4⟩
  rw [decide_eq_true rfl]
  have hb6 : Below ((w3.alloc (.cells (arr [0, 0, 0, 0]) 46)).setRow w3.heap.size (arr (nibs n))).heap.size ((w3.alloc (.cells (arr [0, 0, 0, 0]) 46)).setRow w3.heap.size (arr (nibs n))) w4 := by
    obtain ⟨r, rfl⟩ := hw4
    exact below_drewN (Below.refl _ _) r
  have H63 := Lib.hid (H62.out.below hb6 H62.out.lt)
  have H81 := Lib.hid (H8.out.below hb6 H8.out.lt)
  have hc6 := tr hc5 hb6
  have hs4 := H63.out.lt
  have hs8 := H81.out.lt
  clear hw4 hb5 hb6 hc4 hc5 hr4 hr5 hR5 H61 H62 H80 H8
  obtain ⟨n0, n1⟩ : 0 ≤ n ∧ n ≤ 65535 := by have := O.out; simp [outB] at this; omega
  have N2 := eq_nibs n
  have k0 : w4.cell? ⟨w3.heap.size, 0, none⟩ = some (.int .i64 (n / 4096 % 16)) := H81.out.cell 0
  have k1 : w4.cell? ⟨w3.heap.size, 1, none⟩ = some (.int .i64 (n / 256 % 16)) := H81.out.cell 1
  have k2 : w4.cell? ⟨w3.heap.size, 2, none⟩ = some (.int .i64 (n / 16 % 16)) := H81.out.cell 2
  have k3 : w4.cell? ⟨w3.heap.size, 3, none⟩ = some (.int .i64 (n % 16)) := H81.out.cell 3
  go_wp2
  go_region_held3 (fun w' => w'.cell? ⟨w3.heap.size, 0, none⟩ = some (.int .i64 (n / 4096 % 16)) ∧ w'.cell? ⟨w3.heap.size, 1, none⟩ = some (.int .i64 (n / 256 % 16)) ∧ w'.cell? ⟨w3.heap.size, 2, none⟩ = some (.int .i64 (n / 16 % 16)) ∧ w'.cell? ⟨w3.heap.size, 3, none⟩ = some (.int .i64 (n % 16)) ∧ Below w4.heap.size w4 w')
    (first | exact ⟨k0, k1, k2, k3, (Below.refl _ _).drew⟩ | assumption | exact ⟨cell_tr hbk (by exact k0), cell_tr hbk (by exact k1), cell_tr hbk (by exact k2), cell_tr hbk (by exact k3), tr (Below.drew (Below.refl w4.heap.size w4)) hbk⟩)
    (first | (go_at_call 32; refine (refMothers_any n n0 n1 _).mono ?_; rintro e w' ⟨rfl, hbk⟩))
  rename_i hh
  obtain ⟨_, _, _, _, hbx⟩ := hh
  have H64 := Lib.hid (H63.out.below hbx hs4)
  have hc7 := tr hc6 hbx
  clear k0 k1 k2 k3 hbk hbx N2
  have h16 := hL.out
  have x1 : ((rows.length : Int) != 16) = false := by simp; omega
  have x2 : decide ((rows.length : Int) = 16) = true := by simp; omega
  have hlr : rows.length = 16 := h16
  have HLR := Lib.hid hlr
  clear hlr h16
  go_wp2
  clear x1 x2
  have hsx : w2.heap.size < w'.heap.size := H64.out.lt
  have HWN := Lib.hid (show Blk (w'.alloc (.cells (arr [0, 0, 0, 0]) 46)) w'.heap.size 46 (arr (castTo rows 0)) from Blk.new _ _ _)
  have HW6 := Lib.hid (H64.out.alloc (.cells (arr [0, 0, 0, 0]) 46))
  have hc8 : Below w.heap.size w (w'.alloc (.cells (arr [0, 0, 0, 0]) 46)) := hc7.alloc hc7.size _
  generalize hWz : w'.alloc (.cells (arr [0, 0, 0, 0]) 46) = wz at HWN HW6 hc8
  try rw [show w'.alloc (.cells #[.int .i64 0, .int .i64 0, .int .i64 0, .int .i64 0] 46) = wz from hWz]
  clear hWz
  have hszn : w'.heap.size < wz.heap.size := HWN.out.lt
  go_loopw [11] (fun v wr => ∃ i : Nat, i ≤ 4 ∧ v = .int .i64 i ∧ Hid (Blk wr w'.heap.size 46 (arr (castTo rows i))) ∧ Hid (∀ t, t < 4 * i → Row1 (nth rows t)) ∧ Below w'.heap.size wz wr) (fun v _ => 4 - (intOf v).toNat)
  case atStart => exact ⟨0, by omega, rfl, HWN, fun t ht => by omega, Below.refl _ _⟩
  case round =>
    obtain ⟨i, hi4, rfl, HI, HO, hBi⟩ := hrel
    have HX6 := Lib.hid (HW6.out.below hBi hsx)
    have hsi := HI.out.lt
    by_cases hil : i < 4
    · have bi : decide ((i : Int) < 4) = true := by simp; omega
      have HMK := Lib.hid (show Blk (wr.alloc (.cells (arr [0, 0, 0, 0]) 27)) wr.heap.size 27 (arr (rmTo rows i 0)) from Blk.new _ _ _)
      have hBa : Below wr.heap.size wr (wr.alloc (.cells (arr [0, 0, 0, 0]) 27)) := (Below.refl _ _).alloc (Nat.le_refl _) _
      go_wp2
      generalize hWy : wr.alloc (.cells (arr [0, 0, 0, 0]) 27) = wy at HMK hBa
      try rw [show wr.alloc (.cells #[.int .i64 0, .int .i64 0, .int .i64 0, .int .i64 0] 27) = wy from hWy]
      clear hWy
      obtain ⟨wo, rfl⟩ : ∃ wo : World, wo = wr := ⟨_, rfl⟩
      have hszy : wo.heap.size < wy.heap.size := HMK.out.lt
      go_loopw [13, 14] (fun v _ wr => ∃ j : Nat, j ≤ 4 ∧ v = .int .i64 j ∧ Hid (Blk wr wo.heap.size 27 (arr (rmTo rows i j))) ∧ Hid (∀ t, t < 4 * i + j → Row1 (nth rows t)) ∧ Below wo.heap.size wy wr) (fun v _ _ => 4 - (intOf v).toNat)
      case atStart => exact ⟨0, by omega, rfl, HMK, HO, Below.refl _ _⟩
      case round =>
        obtain ⟨j, hj4, rfl, HJ, HT, hBj⟩ := hrel
        by_cases hjl : j < 4
        · have hbw : Below w.heap.size w wr := hc8.trans ((hBi.trans ((hBa.trans hBj).mono (by omega))).mono (by have := hc8.size; have := hc7.size; omega))
          obtain ⟨q, o, rfl, hcr⟩ := hC.2.1.below hbw (Nat.le_refl _) (4 * i + j) (by have := HLR.out; omega)
          have q1 : 4 * (i : Int) + (j : Int) < 16 := by omega
          have q2 : 0 ≤ 4 * (i : Int) + (j : Int) := by omega
          have q3 : (4 * (i : Int) + (j : Int)).toNat = 4 * i + j := by omega
          have q4 : 4 * (i : Int) + (j : Int) < (rows.length : Int) := by have := HLR.out; omega
          have q5 : 4 * i + j < rows.length := by have := HLR.out; omega
          by_cases hok : Row1 (nth rows (4 * i + j))
          · have HT2 : Hid (∀ t, t < 4 * i + (j + 1) → Row1 (nth rows t)) := fun t ht => by by_cases e : t = 4 * i + j; exact e ▸ hok; exact HT.out t (by omega)
            obtain ⟨ok1, ok2⟩ := hok
            have hcm : wr.cell? ⟨wo.heap.size, j, none⟩ = some (.int .i64 (nth (rmTo rows i j) j)) := by rw [HJ.out.cell j, arr_get (by rw [rmTo_len]; exact hjl)]
            have hfm := HJ.out.frozen j
            have HST := Lib.hid (HJ.out.set_ j (.int .i64 (rMark (nth rows (4 * i + j)))))
            have HSS := Lib.hid (rmTo_succ rows i hjl)
            go_wp2
            go_roundw
            case rel =>
              have HSTf := HST.out
              rw [arr_set, HSS.out] at HSTf
              first
                | exact ⟨j + 1, by omega, by go_num, HSTf, HT2, hBj.setCell (Nat.le_refl _) _⟩
                | ((repeat apply Exists.intro); exact ⟨⟨j + 1, by omega, by go_num, HSTf, HT2, hBj.setCell (Nat.le_refl _) _⟩, rfl⟩)
            case measure => simp [intOf]; omega
          · exact absurd (any_row (by have := HLR.out; omega) hok) (by rw [HB.out]; simp)
        · obtain rfl : j = 4 := by omega
          have HR4 : Hid (∀ t, t < 4 * (i + 1) → Row1 (nth rows t)) := fun t ht => HT.out t (by omega)
          have HI2 := Lib.hid (show (Tryd.prog.info? 27).map (·.size) = some (arr (rmTo rows i 4)).size by rw [arr_size, rmTo_len]; exact info_marks)
          have hBk : Below w'.heap.size wz wr := hBi.trans ((hBa.trans hBj).mono (by omega))
          have HIk := Lib.hid (HI.out.below (hBa.trans hBj) hsi)
          have hRS := Lib.hid (rm_sum rows i (fun t ht => HT.out (4 * i + t) (by omega)))
          go_wp2_with (refine wpList_load_row rfl 27 (.tmp 12) rfl wo.heap.size rfl 27 (arr (rmTo rows i 4)) (0, 0) _ HJ.out Tryd.underlying27 rfl HI2.out ?_)
          refine (refOf_any (rmTo rows i 4) (Lib.hid (rmTo_len rows i 4)) (rm_mks rows i) _).mono ?_
          rintro e wq ⟨rfl, hwq⟩
          rw [hRS.out]
          have hbq : Below wr.heap.size wr wq := hwq ▸ (Below.refl _ _).alloc (Nat.le_refl _) _
          have HIq := Lib.hid (HIk.out.below hbq HIk.out.lt)
          have hBq : Below w'.heap.size wz wq := hBk.trans (hbq.mono (by have := hBk.size; omega))
          clear hwq hbq hBk hBj HIk
          have hcq : wq.cell? ⟨w'.heap.size, i, none⟩ = some (.int .i64 (nth (castTo rows i) i)) := by rw [HIq.out.cell i, arr_get (by rw [castTo_len]; exact hil)]
          have hfq := HIq.out.frozen i
          have HSQ := Lib.hid (HIq.out.set_ i (.int .i64 (figTo (fun j => oddB (nth rows (i * 4 + j))) 4)))
          have HSR := Lib.hid (castTo_succ rows hil)
          go_wp2
          go_roundw
          case rel => exact ⟨i + 1, by omega, by go_num, by have := HSQ.out; rw [arr_set, HSR.out] at this; exact this, HR4, hBq.setCell (Nat.le_refl _) _⟩
          case measure => simp [intOf]; omega
    · obtain rfl : i = 4 := by omega
      have hbz : Below w.heap.size w wr := hc8.trans (hBi.mono (by have := hc7.size; omega))
      have N5 := eq_same4 (castTo rows 4) (castTo_len rows 4)
      go_wp2_with (first
        | (refine wpList_load_row rfl 46 (.tmp 6) rfl w2.heap.size rfl 46 (arr (castTo rows 4)) (0, 0) _ HX6.out Tryd.underlying46 rfl I6.out ?_)
        | (refine wpList_load_row rfl 46 (.tmp 10) rfl w'.heap.size rfl 46 (arr (castTo rows 4)) (0, 0) _ HI.out Tryd.underlying46 rfl I6.out ?_)
        | (go_at_call 22; refine (known_any _ (hp.below hbz (Nat.le_refl _)) (hn.below hbz (Nat.le_refl _))).mono ?_; rintro e wk ⟨rfl, hbk⟩))
      go_ret
      exact ⟨rfl, tr hbz hbk⟩
set_option maxRecDepth 100000 in
set_option maxHeartbeats 16000000 in
theorem casts_in_bad (p : Option Addr) (rows : List Int) (c : Nat) (n : Int) (w : World) (hC : Came w p rows c) (hm : rows.length ≤ 40) (O : Hid (outB 0 65535 n = false)) (hL : Hid (rows.length = 16)) (HB : Hid (anyB (outB 1 1000) rows = true)) (hp : Par w) (hn : Nam w) :
    Calls Tryd.prog 5 #[.slice p rows.length c, .int .i64 n] w fun e w' => e = .returned (.bool true) ∧ Below w.heap.size w w' := by
  have CE := Lib.hid (show castE rows = 3 from by have h1 := hL.out; have h2 := HB.out; simp [castE, h1, h2])
  have CV := Lib.hid (show castV rows = [0, 0, 0, 0] from by unfold castV; rw [if_neg (by rw [CE.out]; omega)])
  have ME := Lib.hid (show mothE n = 0 by unfold mothE; rw [O.out]; rfl)
  have MV := Lib.hid (show mothV n = (nibs n) by unfold mothV; rw [O.out]; rfl)
  have G4 := guard_moth
  have N := eq_zero4
  have x0 : decide ((40 : Int) < (rows.length : Int)) = false := by simp; omega
  have hC1 := hC.below ((Below.refl w.heap.size w).alloc (Nat.le_refl _) (.cells #[] 3)) (Nat.le_refl _)
  go_enter Tryd.func5, Tryd.ntmps5
  go_wp2_with (at_builtin; refine wpList_append_came rfl (.tmp 19) (.tmp 20) rfl w.heap.size _ rfl (none_owns w) p rows c rfl hC1 (by omega) (by simp) ?_)
  intro v1 w1 hO1 hg1
  have hb1 : Below w.heap.size w w1 := ((Below.refl w.heap.size w).alloc (Nat.le_refl _) _).grown hg1 (by simp) (fun k hk => by simp [Value.ownBlock] at hk; omega)
  obtain ⟨p1, c1, rfl, hr1⟩ := Got.of_owns hO1
  clear hO1 hg1 hC1
  go_wp2_with fail
  refine (cast_any p1 rows c1 _ (by omega) hr1).mono ?_
  rintro e w2 ⟨rfl, hb2⟩
  rw [CE.out, CV.out]
  have hc2 := tr hb1 hb2
  have hr2 := hr1.below hb2 (Nat.le_refl _)
  have H60 := Lib.hid (Blk.new w2 46 (arr [0, 0, 0, 0]))
  have L6 := Lib.hid (show ([0, 0, 0, 0] : List Int).length = 4 from rfl)
  have I6 := Lib.hid (show (Tryd.prog.info? 46).map (·.size) = some (arr [0, 0, 0, 0]).size by rw [arr_size, L6.out]; exact info_moth)
  have O6 := Lib.hid (show (arr [0, 0, 0, 0]).size = 4 by rw [arr_size, L6.out])
  have H6 := Lib.hid (H60.out.row (arr [0, 0, 0, 0]))
  have hb3 : Below w2.heap.size w2 ((w2.alloc (.cells (arr [0, 0, 0, 0]) 46)).setRow w2.heap.size (arr [0, 0, 0, 0])) := below_setRow ((Below.refl _ _).alloc (Nat.le_refl _) _) (Nat.le_refl _) _
  have hc3 := tr hc2 hb3
  have hr3 := hr2.below hb3 (Nat.le_refl _)
  go_wp2_with (refine wpList_store_row rfl 46 (.tmp 6) (.tmp 25) rfl w2.heap.size (arr [0, 0, 0, 0]) rfl rfl 46 _ H60.out I6.out (O6.out ▸ rfl) (arr_one _) ?_)
  refine (mothers_any n _).mono ?_
  rintro e w3 ⟨rfl, hb4⟩
  rw [ME.out, MV.out]
  have H61 := Lib.hid (H6.out.below hb4 H6.out.lt)
  have hc4 := tr hc3 hb4
  have hr4 := hr3.below hb4 (Nat.le_refl _)
  have hs3 := H61.out.lt
  clear hb1 hb2 hb3 hb4 hc2 hc3 hr1 hr2 hr3 H60 H6 O6
  have H80 := Lib.hid (Blk.new w3 46 (arr [0, 0, 0, 0]))
  have I8 := Lib.hid (show (Tryd.prog.info? 46).map (·.size) = some (arr (nibs n)).size by rw [arr_size]; exact info_moth)
  have H8 := Lib.hid (H80.out.row (arr (nibs n)))
  have hb5 : Below w3.heap.size w3 ((w3.alloc (.cells (arr [0, 0, 0, 0]) 46)).setRow w3.heap.size (arr (nibs n))) := below_setRow ((Below.refl _ _).alloc (Nat.le_refl _) _) (Nat.le_refl _) _
  have H62 := Lib.hid (H61.out.below hb5 hs3)
  have hc5 := tr hc4 hb5
  have hr5 := hr4.below hb5 (Nat.le_refl _)
  have hR5 := hC.2.1.below hc5 (Nat.le_refl _)
  go_wp2_with (refine wpList_store_row rfl 46 (.tmp 8) (.tmp 30) rfl w3.heap.size (arr (nibs n)) rfl rfl 46 _ H80.out I8.out (by first | rfl | (rw [arr_size, arr_size]; rfl)) (arr_one _) ?_)
  refine (same_any p1 rows rows.length c1 p rows rows.length c _ (Lib.hid rfl) (Lib.hid rfl) (by omega) hr5 hR5).mono ?_
  rintro e w4 ⟨rfl, hw4⟩
  rw [decide_eq_true rfl]
  have hb6 : Below ((w3.alloc (.cells (arr [0, 0, 0, 0]) 46)).setRow w3.heap.size (arr (nibs n))).heap.size ((w3.alloc (.cells (arr [0, 0, 0, 0]) 46)).setRow w3.heap.size (arr (nibs n))) w4 := by
    obtain ⟨r, rfl⟩ := hw4
    exact below_drewN (Below.refl _ _) r
  have H63 := Lib.hid (H62.out.below hb6 H62.out.lt)
  have H81 := Lib.hid (H8.out.below hb6 H8.out.lt)
  have hc6 := tr hc5 hb6
  have hs4 := H63.out.lt
  have hs8 := H81.out.lt
  clear hw4 hb5 hb6 hc4 hc5 hr4 hr5 hR5 H61 H62 H80 H8
  obtain ⟨n0, n1⟩ : 0 ≤ n ∧ n ≤ 65535 := by have := O.out; simp [outB] at this; omega
  have N2 := eq_nibs n
  have k0 : w4.cell? ⟨w3.heap.size, 0, none⟩ = some (.int .i64 (n / 4096 % 16)) := H81.out.cell 0
  have k1 : w4.cell? ⟨w3.heap.size, 1, none⟩ = some (.int .i64 (n / 256 % 16)) := H81.out.cell 1
  have k2 : w4.cell? ⟨w3.heap.size, 2, none⟩ = some (.int .i64 (n / 16 % 16)) := H81.out.cell 2
  have k3 : w4.cell? ⟨w3.heap.size, 3, none⟩ = some (.int .i64 (n % 16)) := H81.out.cell 3
  go_wp2
  go_region_held3 (fun w' => w'.cell? ⟨w3.heap.size, 0, none⟩ = some (.int .i64 (n / 4096 % 16)) ∧ w'.cell? ⟨w3.heap.size, 1, none⟩ = some (.int .i64 (n / 256 % 16)) ∧ w'.cell? ⟨w3.heap.size, 2, none⟩ = some (.int .i64 (n / 16 % 16)) ∧ w'.cell? ⟨w3.heap.size, 3, none⟩ = some (.int .i64 (n % 16)) ∧ Below w4.heap.size w4 w')
    (first | exact ⟨k0, k1, k2, k3, (Below.refl _ _).drew⟩ | assumption | exact ⟨cell_tr hbk (by exact k0), cell_tr hbk (by exact k1), cell_tr hbk (by exact k2), cell_tr hbk (by exact k3), tr (Below.drew (Below.refl w4.heap.size w4)) hbk⟩)
    (first | (go_at_call 32; refine (refMothers_any n n0 n1 _).mono ?_; rintro e w' ⟨rfl, hbk⟩))
  rename_i hh
  obtain ⟨_, _, _, _, hbx⟩ := hh
  have H64 := Lib.hid (H63.out.below hbx hs4)
  have hc7 := tr hc6 hbx
  clear k0 k1 k2 k3 hbk hbx N2
  have h16 := hL.out
  have x1 : ((rows.length : Int) != 16) = false := by simp; omega
  have x2 : decide ((rows.length : Int) = 16) = true := by simp; omega
  have hlr : rows.length = 16 := h16
  have HLR := Lib.hid hlr
  clear hlr h16
  go_wp2
  clear x1 x2
  have hsx : w2.heap.size < w'.heap.size := H64.out.lt
  have HWN := Lib.hid (show Blk (w'.alloc (.cells (arr [0, 0, 0, 0]) 46)) w'.heap.size 46 (arr (castTo rows 0)) from Blk.new _ _ _)
  have HW6 := Lib.hid (H64.out.alloc (.cells (arr [0, 0, 0, 0]) 46))
  have hc8 : Below w.heap.size w (w'.alloc (.cells (arr [0, 0, 0, 0]) 46)) := hc7.alloc hc7.size _
  generalize hWz : w'.alloc (.cells (arr [0, 0, 0, 0]) 46) = wz at HWN HW6 hc8
  try rw [show w'.alloc (.cells #[.int .i64 0, .int .i64 0, .int .i64 0, .int .i64 0] 46) = wz from hWz]
  clear hWz
  have hszn : w'.heap.size < wz.heap.size := HWN.out.lt
  go_loopw [11] (fun v wr => ∃ i : Nat, i ≤ 4 ∧ v = .int .i64 i ∧ Hid (Blk wr w'.heap.size 46 (arr (castTo rows i))) ∧ Hid (∀ t, t < 4 * i → Row1 (nth rows t)) ∧ Below w'.heap.size wz wr) (fun v _ => 4 - (intOf v).toNat)
  case atStart => exact ⟨0, by omega, rfl, HWN, fun t ht => by omega, Below.refl _ _⟩
  case round =>
    obtain ⟨i, hi4, rfl, HI, HO, hBi⟩ := hrel
    have HX6 := Lib.hid (HW6.out.below hBi hsx)
    have hsi := HI.out.lt
    by_cases hil : i < 4
    · have bi : decide ((i : Int) < 4) = true := by simp; omega
      have HMK := Lib.hid (show Blk (wr.alloc (.cells (arr [0, 0, 0, 0]) 27)) wr.heap.size 27 (arr (rmTo rows i 0)) from Blk.new _ _ _)
      have hBa : Below wr.heap.size wr (wr.alloc (.cells (arr [0, 0, 0, 0]) 27)) := (Below.refl _ _).alloc (Nat.le_refl _) _
      go_wp2
      generalize hWy : wr.alloc (.cells (arr [0, 0, 0, 0]) 27) = wy at HMK hBa
      try rw [show wr.alloc (.cells #[.int .i64 0, .int .i64 0, .int .i64 0, .int .i64 0] 27) = wy from hWy]
      clear hWy
      obtain ⟨wo, rfl⟩ : ∃ wo : World, wo = wr := ⟨_, rfl⟩
      have hszy : wo.heap.size < wy.heap.size := HMK.out.lt
      go_loopw [13, 14] (fun v _ wr => ∃ j : Nat, j ≤ 4 ∧ v = .int .i64 j ∧ Hid (Blk wr wo.heap.size 27 (arr (rmTo rows i j))) ∧ Hid (∀ t, t < 4 * i + j → Row1 (nth rows t)) ∧ Below wo.heap.size wy wr) (fun v _ _ => 4 - (intOf v).toNat)
      case atStart => exact ⟨0, by omega, rfl, HMK, HO, Below.refl _ _⟩
      case round =>
        obtain ⟨j, hj4, rfl, HJ, HT, hBj⟩ := hrel
        by_cases hjl : j < 4
        · have hbw : Below w.heap.size w wr := hc8.trans ((hBi.trans ((hBa.trans hBj).mono (by omega))).mono (by have := hc8.size; have := hc7.size; omega))
          obtain ⟨q, o, rfl, hcr⟩ := hC.2.1.below hbw (Nat.le_refl _) (4 * i + j) (by have := HLR.out; omega)
          have q1 : 4 * (i : Int) + (j : Int) < 16 := by omega
          have q2 : 0 ≤ 4 * (i : Int) + (j : Int) := by omega
          have q3 : (4 * (i : Int) + (j : Int)).toNat = 4 * i + j := by omega
          have q4 : 4 * (i : Int) + (j : Int) < (rows.length : Int) := by have := HLR.out; omega
          have q5 : 4 * i + j < rows.length := by have := HLR.out; omega
          by_cases hok : Row1 (nth rows (4 * i + j))
          · have HT2 : Hid (∀ t, t < 4 * i + (j + 1) → Row1 (nth rows t)) := fun t ht => by by_cases e : t = 4 * i + j; exact e ▸ hok; exact HT.out t (by omega)
            obtain ⟨ok1, ok2⟩ := hok
            have hcm : wr.cell? ⟨wo.heap.size, j, none⟩ = some (.int .i64 (nth (rmTo rows i j) j)) := by rw [HJ.out.cell j, arr_get (by rw [rmTo_len]; exact hjl)]
            have hfm := HJ.out.frozen j
            have HST := Lib.hid (HJ.out.set_ j (.int .i64 (rMark (nth rows (4 * i + j)))))
            have HSS := Lib.hid (rmTo_succ rows i hjl)
            go_wp2
            go_roundw
            case rel =>
              have HSTf := HST.out
              rw [arr_set, HSS.out] at HSTf
              first
                | exact ⟨j + 1, by omega, by go_num, HSTf, HT2, hBj.setCell (Nat.le_refl _) _⟩
                | ((repeat apply Exists.intro); exact ⟨⟨j + 1, by omega, by go_num, HSTf, HT2, hBj.setCell (Nat.le_refl _) _⟩, rfl⟩)
            case measure => simp [intOf]; omega
          · have hrr : nth rows (4 * i + j) < 1 ∨ 1000 < nth rows (4 * i + j) := by unfold Row1 at hok; omega
            clear hok
            have HY6 := Lib.hid (HX6.out.below (hBa.trans hBj) (by have := hsi; omega))
            rcases hrr with hrr | hrr
            all_goals
              go_wp2_with (first
                | (refine wpList_load_row rfl 46 (.tmp 6) rfl w2.heap.size rfl 46 (arr [0, 0, 0, 0]) (0, 0) _ HY6.out Tryd.underlying46 rfl I6.out ?_)
                | (go_at_call 22; refine (known_any _ (hp.below hbw (Nat.le_refl _)) (hn.below hbw (Nat.le_refl _))).mono ?_; rintro e wk ⟨rfl, hbk⟩))
              go_ret
              exact ⟨rfl, tr hbw hbk⟩
        · obtain rfl : j = 4 := by omega
          have HR4 : Hid (∀ t, t < 4 * (i + 1) → Row1 (nth rows t)) := fun t ht => HT.out t (by omega)
          have HI2 := Lib.hid (show (Tryd.prog.info? 27).map (·.size) = some (arr (rmTo rows i 4)).size by rw [arr_size, rmTo_len]; exact info_marks)
          have hBk : Below w'.heap.size wz wr := hBi.trans ((hBa.trans hBj).mono (by omega))
          have HIk := Lib.hid (HI.out.below (hBa.trans hBj) hsi)
          have hRS := Lib.hid (rm_sum rows i (fun t ht => HT.out (4 * i + t) (by omega)))
          go_wp2_with (refine wpList_load_row rfl 27 (.tmp 12) rfl wo.heap.size rfl 27 (arr (rmTo rows i 4)) (0, 0) _ HJ.out Tryd.underlying27 rfl HI2.out ?_)
          refine (refOf_any (rmTo rows i 4) (Lib.hid (rmTo_len rows i 4)) (rm_mks rows i) _).mono ?_
          rintro e wq ⟨rfl, hwq⟩
          rw [hRS.out]
          have hbq : Below wr.heap.size wr wq := hwq ▸ (Below.refl _ _).alloc (Nat.le_refl _) _
          have HIq := Lib.hid (HIk.out.below hbq HIk.out.lt)
          have hBq : Below w'.heap.size wz wq := hBk.trans (hbq.mono (by have := hBk.size; omega))
          clear hwq hbq hBk hBj HIk
          have hcq : wq.cell? ⟨w'.heap.size, i, none⟩ = some (.int .i64 (nth (castTo rows i) i)) := by rw [HIq.out.cell i, arr_get (by rw [castTo_len]; exact hil)]
          have hfq := HIq.out.frozen i
          have HSQ := Lib.hid (HIq.out.set_ i (.int .i64 (figTo (fun j => oddB (nth rows (i * 4 + j))) 4)))
          have HSR := Lib.hid (castTo_succ rows hil)
          go_wp2
          go_roundw
          case rel => exact ⟨i + 1, by omega, by go_num, by have := HSQ.out; rw [arr_set, HSR.out] at this; exact this, HR4, hBq.setCell (Nat.le_refl _) _⟩
          case measure => simp [intOf]; omega
    · obtain rfl : i = 4 := by omega
      exact absurd (no_row (fun t ht => HO.out t (by have := HLR.out; omega))) (by rw [HB.out]; simp)
theorem casts_any (p : Option Addr) (rows : List Int) (c : Nat) (n : Int) (w : World) (hC : Came w p rows c) (hp : Par w) (hn : Nam w) :
    Calls Tryd.prog 5 #[.slice p rows.length c, .int .i64 n] w fun e w' => e = .returned (.bool true) ∧ Below w.heap.size w w' := by
  by_cases hm : 40 < rows.length
  · exact casts_over p rows c n w hm hp hn
  · have hm' : rows.length ≤ 40 := by omega
    by_cases hL : rows.length = 16
    · cases hB : anyB (outB 1 1000) rows <;> cases hO : outB 0 65535 n
      · exact casts_in_good p rows c n w hC hm' hO hL hB hp hn
      · exact casts_out_good p rows c n w hC hm' hO hL hB hp hn
      · exact casts_in_bad p rows c n w hC hm' hO hL hB hp hn
      · exact casts_out_bad p rows c n w hC hm' hO hL hB hp hn
    · cases hO : outB 0 65535 n
      · exact casts_in_long p rows c n w hC hm' hO hL hp hn
      · exact casts_out_long p rows c n w hC hm' hO hL hp hn
end Go.Proofs.YtgaljmhhagldlaaDoor
