/-
  HouseCharts: the walk of the law.
-/
import Derived.Test.YtojlopfjhhiilaaDoorHoD
import Derived.Deep.CutRange
namespace Go.Proofs.YtojlopfjhhiilaaDoor
open Go Go.RowKit
set_option linter.unusedVariables false

theorem guard_houses : Tryd.prog.eqGuardType Tryd.prog.depth 26 = false := by kernel_rfl
theorem same_zeros (w : World) : (Op.equalIn 10000 26 (.agg (arr zeros12)) (.agg (arr zeros12))).run Tryd.prog w = .ok true w := by
  have := run_equalIn_ints w 9998 26 22 12 Tryd.underlying26 Tryd.underlying22 info_fig zeros12 zeros12 rfl rfl
  simpa using this
/-- What is known of houses: whether they are valid, the marks, the fortune. -/
structure HousesOf (h : List Int) (v : Bool) (e n a : Int) : Prop where
  valid : v = decide (chkF h = 0)
  err : chkF h = e
  marks : fortV h = n
  house : fortH h = a
set_option maxRecDepth 100000 in
set_option maxHeartbeats 16000000 in
theorem charts_1 (s h x : List Int) (E : Int) (v : Bool) (e n a : Int) (hs : Hid (s.length = 16)) (hh : Hid (h.length = 12)) (hx : Hid (x.length = 12)) (HX : Hid (ofH s = x)) (HE : Hid (ofE s = E)) (K : Hid (HousesOf h v e n a)) (hv : (v = false ∧ e = 2 ∧ n = 0 ∧ a = 0) ∨ (v = true ∧ e = 0 ∧ Hid (chkF h = 0) ∧ 48 ≤ n ∧ n ≤ 96 ∧ Hid (marksTo h 12 = n) ∧ a = (n - 1) % 12 + 1)) (hS0 : Hid (false = decide (chkF s = 0))) (hx0 : Hid (x = zeros12)) (hE : Hid (E = 2)) (w : World) (hw : 7 ≤ w.heap.size) (hp : Par w) (hr : Rul w) :
    Calls Tryd.prog 3 #[.agg (arr s), .agg (arr h)] w fun e w' => e = .returned (.bool true) ∧ Below w.heap.size w w' := by
  have bel0 : Below w.heap.size w ((w.alloc (.cells (arr s) 24)).alloc (.cells (arr h) 26)) := ((Below.refl _ _).alloc (Nat.le_refl _) _).alloc (by simp) _
  have HS := Lib.hid (Blk.alloc (Blk.new w 24 (arr s)) (.cells (arr h) 26))
  have HH : Hid (Blk ((w.alloc (.cells (arr s) 24)).alloc (.cells (arr h) 26)) (w.heap.size + 1) 26 (arr h)) := Lib.hid (newAt (by simp))
  have HIs := Lib.hid (show (Tryd.prog.info? 24).map (·.size) = some (arr s).size by rw [arr_size, hs.out]; exact info_shield)
  have HIh := Lib.hid (show (Tryd.prog.info? 26).map (·.size) = some (arr h).size by rw [arr_size, hh.out]; exact info_houses)
  have HIx := Lib.hid (show (Tryd.prog.info? 26).map (·.size) = some (arr x).size by rw [arr_size, hx.out]; exact info_houses)
  have HOx := Lib.hid (show (arr zeros12).size = (arr x).size by rw [arr_size, arr_size, hx.out]; rfl)
  go_enter Tryd.func3, Tryd.ntmps3
  go_wp2_with (refine wpList_load_row rfl 24 (.tmp 2) rfl w.heap.size rfl 24 (arr s) (0, 0) _ HS.out Tryd.underlying24 rfl HIs.out ?_)
  refine (of_any s hs.out _ (hp.below bel0 (Nat.le_refl _))).mono ?_
  rintro e1 w1 ⟨rfl, hb1⟩
  rw [HX.out, HE.out]
  have hB1 := tr bel0 hb1
  have HS1 := Lib.hid (HS.out.below hb1 (by simp; omega))
  have HH1 := Lib.hid (HH.out.below hb1 (by simp))
  have hs1 : w.heap.size + 1 < w1.heap.size := HH1.out.lt
  clear hb1 bel0 HS HH
  have bel : Below w1.heap.size w1 ((w1.alloc (.cells (arr zeros12) 26)).setRow w1.heap.size (arr x)) := below_setRow ((Below.refl _ _).alloc (Nat.le_refl _) _) (Nat.le_refl _) _
  have hX : Blk ((w1.alloc (.cells (arr zeros12) 26)).setRow w1.heap.size (arr x)) w1.heap.size 26 (arr x) := (Blk.new w1 26 (arr zeros12)).row _
  have hS := HS1.out.below bel (by omega)
  have hH := HH1.out.below bel (by omega)
  have hB2 := hB1.trans (bel.mono hB1.size)
  go_upto_region 2 with (refine wpList_store_row rfl 26 (.tmp 5) (.tmp 16) rfl w1.heap.size (arr x) rfl rfl 26 _ (Blk.new w1 26 (arr zeros12)) HIx.out HOx.out (arr_one _) ?_)
  generalize hW : World.setRow _ _ _ = W2
  replace hX : Blk W2 w1.heap.size 26 (arr x) := by rw [← hW]; exact hX
  replace hS : Blk W2 w.heap.size 24 (arr s) := by rw [← hW]; exact hS
  replace hH : Blk W2 (w.heap.size + 1) 26 (arr h) := by rw [← hW]; exact hH
  replace hB2 : Below w.heap.size w W2 := by rw [← hW]; exact hB2
  clear hW bel HS1 HH1 hB1
  obtain ⟨g, hg⟩ : ∃ g, w1.heap.size = g := ⟨_, rfl⟩
  rw [hg] at hX hs1 ⊢
  clear hg
  go_wp2_with (refine wpList_load_row rfl 26 (.tmp 3) rfl (w.heap.size + 1) rfl 26 (arr h) (0, 0) _ hH Tryd.underlying26 rfl HIh.out ?_)
  refine (checkHs_any h hh _).mono ?_
  rintro e1 w3 ⟨rfl, hb3⟩
  rw [K.out.err]
  replace hX := hX.below hb3 hX.lt
  replace hS := hS.below hb3 hS.lt
  replace hH := hH.below hb3 hH.lt
  replace hB2 := tr hB2 hb3
  clear hb3
  go_wp2_with (refine wpList_load_row rfl 26 (.tmp 3) rfl (w.heap.size + 1) rfl 26 (arr h) (0, 0) _ hH Tryd.underlying26 rfl HIh.out ?_)
  refine (fortune_any h hh _ (by have := hB2.size; omega)).mono ?_
  rintro e1 w4 ⟨rfl, hb3⟩
  rw [K.out.err, K.out.marks, K.out.house]
  replace hX := hX.below hb3 hX.lt
  replace hS := hS.below hb3 hS.lt
  replace hH := hH.below hb3 hH.lt
  replace hB2 := tr hB2 hb3
  clear hb3
  obtain rfl := hE.out
  clear hE
  go_wp2_with (refine wpList_load_row rfl 24 (.tmp 2) rfl w.heap.size rfl 24 (arr s) (0, 0) _ hS Tryd.underlying24 rfl HIs.out ?_)
  refine (refShield_any s hs false hS0 _).mono ?_
  rintro e1 w5 ⟨rfl, hb3⟩
  replace hX := hX.below hb3 hX.lt
  replace hS := hS.below hb3 hS.lt
  replace hH := hH.below hb3 hH.lt
  replace hB2 := tr hB2 hb3
  clear hb3
  obtain rfl := hx0.out
  clear hx0
  have G := guard_houses
  have Z : ∀ wx : World, (Op.equalIn 10000 26 (.agg (arr zeros12)) (.agg #[.int .i64 0, .int .i64 0, .int .i64 0, .int .i64 0, .int .i64 0, .int .i64 0, .int .i64 0, .int .i64 0, .int .i64 0, .int .i64 0, .int .i64 0, .int .i64 0])).run Tryd.prog wx = .ok true wx := same_zeros
  go_upto_region 17 with (refine wpList_load_row rfl 26 (.tmp 5) rfl g rfl 26 (arr zeros12) (0, 0) _ hX Tryd.underlying26 rfl info_houses ?_)
  go_wp2_with (refine wpList_load_row rfl 26 (.tmp 3) rfl (w.heap.size + 1) rfl 26 (arr h) (0, 0) _ hH Tryd.underlying26 rfl HIh.out ?_)
  refine (refHouses_any h hh v (Lib.hid K.out.valid) _).mono ?_
  rintro e1 w6 ⟨rfl, hb3⟩
  replace hX := hX.below hb3 hX.lt
  replace hS := hS.below hb3 hS.lt
  replace hH := hH.below hb3 hH.lt
  replace hB2 := tr hB2 hb3
  clear hb3
  rcases hv with ⟨rfl, rfl, rfl, rfl⟩ | ⟨rfl, rfl, hf, b1, b2, b3, ha⟩
  · go_wp2_with fail
    refine (known_any _ (by have := hB2.size; omega) (hr.below hB2 (Nat.le_refl _))).mono ?_
    rintro e1 w5 ⟨rfl, hb5⟩
    go_wp2
    go_ret
    exact ⟨rfl, tr hB2 hb5⟩
  · go_wp2_with (refine wpList_load_row rfl 26 (.tmp 3) rfl (w.heap.size + 1) rfl 26 (arr h) (0, 0) _ hH Tryd.underlying26 rfl HIh.out ?_)
    refine (refMarks_any h hh hf _).mono ?_
    rintro e1 w7 ⟨rfl, hb3⟩
    rw [b3.out]
    replace hB2 := tr hB2 hb3
    clear hb3 hX hS hH
    subst ha
    go_wp2_with fail
    refine (known_any _ (by have := hB2.size; omega) (hr.below hB2 (Nat.le_refl _))).mono ?_
    rintro e1 w5 ⟨rfl, hb5⟩
    go_wp2
    go_ret
    exact ⟨rfl, tr hB2 hb5⟩
set_option maxRecDepth 100000 in
set_option maxHeartbeats 16000000 in
theorem charts_2 (s h x : List Int) (E : Int) (v : Bool) (e n a : Int) (hs : Hid (s.length = 16)) (hh : Hid (h.length = 12)) (hx : Hid (x.length = 12)) (HX : Hid (ofH s = x)) (HE : Hid (ofE s = E)) (K : Hid (HousesOf h v e n a)) (hv : (v = false ∧ e = 2 ∧ n = 0 ∧ a = 0) ∨ (v = true ∧ e = 0 ∧ Hid (chkF h = 0) ∧ 48 ≤ n ∧ n ≤ 96 ∧ Hid (marksTo h 12 = n) ∧ a = (n - 1) % 12 + 1)) (hS0 : Hid (true = decide (chkF s = 0))) (hF : Figs s) (hx0 : Hid (x = zeros12)) (hE : Hid (E = 30)) (L : Nat) (hL : Hid ((wrongTo s 16).length = L)) (hL0 : 0 < L) (w : World) (hw : 7 ≤ w.heap.size) (hp : Par w) (hr : Rul w) :
    Calls Tryd.prog 3 #[.agg (arr s), .agg (arr h)] w fun e w' => e = .returned (.bool true) ∧ Below w.heap.size w w' := by
  have bel0 : Below w.heap.size w ((w.alloc (.cells (arr s) 24)).alloc (.cells (arr h) 26)) := ((Below.refl _ _).alloc (Nat.le_refl _) _).alloc (by simp) _
  have HS := Lib.hid (Blk.alloc (Blk.new w 24 (arr s)) (.cells (arr h) 26))
  have HH : Hid (Blk ((w.alloc (.cells (arr s) 24)).alloc (.cells (arr h) 26)) (w.heap.size + 1) 26 (arr h)) := Lib.hid (newAt (by simp))
  have HIs := Lib.hid (show (Tryd.prog.info? 24).map (·.size) = some (arr s).size by rw [arr_size, hs.out]; exact info_shield)
  have HIh := Lib.hid (show (Tryd.prog.info? 26).map (·.size) = some (arr h).size by rw [arr_size, hh.out]; exact info_houses)
  have HIx := Lib.hid (show (Tryd.prog.info? 26).map (·.size) = some (arr x).size by rw [arr_size, hx.out]; exact info_houses)
  have HOx := Lib.hid (show (arr zeros12).size = (arr x).size by rw [arr_size, arr_size, hx.out]; rfl)
  go_enter Tryd.func3, Tryd.ntmps3
  go_wp2_with (refine wpList_load_row rfl 24 (.tmp 2) rfl w.heap.size rfl 24 (arr s) (0, 0) _ HS.out Tryd.underlying24 rfl HIs.out ?_)
  refine (of_any s hs.out _ (hp.below bel0 (Nat.le_refl _))).mono ?_
  rintro e1 w1 ⟨rfl, hb1⟩
  rw [HX.out, HE.out]
  have hB1 := tr bel0 hb1
  have HS1 := Lib.hid (HS.out.below hb1 (by simp; omega))
  have HH1 := Lib.hid (HH.out.below hb1 (by simp))
  have hs1 : w.heap.size + 1 < w1.heap.size := HH1.out.lt
  clear hb1 bel0 HS HH
  have bel : Below w1.heap.size w1 ((w1.alloc (.cells (arr zeros12) 26)).setRow w1.heap.size (arr x)) := below_setRow ((Below.refl _ _).alloc (Nat.le_refl _) _) (Nat.le_refl _) _
  have hX : Blk ((w1.alloc (.cells (arr zeros12) 26)).setRow w1.heap.size (arr x)) w1.heap.size 26 (arr x) := (Blk.new w1 26 (arr zeros12)).row _
  have hS := HS1.out.below bel (by omega)
  have hH := HH1.out.below bel (by omega)
  have hB2 := hB1.trans (bel.mono hB1.size)
  go_upto_region 2 with (refine wpList_store_row rfl 26 (.tmp 5) (.tmp 16) rfl w1.heap.size (arr x) rfl rfl 26 _ (Blk.new w1 26 (arr zeros12)) HIx.out HOx.out (arr_one _) ?_)
  generalize hW : World.setRow _ _ _ = W2
  replace hX : Blk W2 w1.heap.size 26 (arr x) := by rw [← hW]; exact hX
  replace hS : Blk W2 w.heap.size 24 (arr s) := by rw [← hW]; exact hS
  replace hH : Blk W2 (w.heap.size + 1) 26 (arr h) := by rw [← hW]; exact hH
  replace hB2 : Below w.heap.size w W2 := by rw [← hW]; exact hB2
  clear hW bel HS1 HH1 hB1
  obtain ⟨g, hg⟩ : ∃ g, w1.heap.size = g := ⟨_, rfl⟩
  rw [hg] at hX hs1 ⊢
  clear hg
  go_wp2_with (refine wpList_load_row rfl 26 (.tmp 3) rfl (w.heap.size + 1) rfl 26 (arr h) (0, 0) _ hH Tryd.underlying26 rfl HIh.out ?_)
  refine (checkHs_any h hh _).mono ?_
  rintro e1 w3 ⟨rfl, hb3⟩
  rw [K.out.err]
  replace hX := hX.below hb3 hX.lt
  replace hS := hS.below hb3 hS.lt
  replace hH := hH.below hb3 hH.lt
  replace hB2 := tr hB2 hb3
  clear hb3
  go_wp2_with (refine wpList_load_row rfl 26 (.tmp 3) rfl (w.heap.size + 1) rfl 26 (arr h) (0, 0) _ hH Tryd.underlying26 rfl HIh.out ?_)
  refine (fortune_any h hh _ (by have := hB2.size; omega)).mono ?_
  rintro e1 w4 ⟨rfl, hb3⟩
  rw [K.out.err, K.out.marks, K.out.house]
  replace hX := hX.below hb3 hX.lt
  replace hS := hS.below hb3 hS.lt
  replace hH := hH.below hb3 hH.lt
  replace hB2 := tr hB2 hb3
  clear hb3
  obtain rfl := hE.out
  clear hE
  go_wp2_with (refine wpList_load_row rfl 24 (.tmp 2) rfl w.heap.size rfl 24 (arr s) (0, 0) _ hS Tryd.underlying24 rfl HIs.out ?_)
  refine (refShield_any s hs true hS0 _).mono ?_
  rintro e1 w5 ⟨rfl, hb3⟩
  replace hX := hX.below hb3 hX.lt
  replace hS := hS.below hb3 hS.lt
  replace hH := hH.below hb3 hH.lt
  replace hB2 := tr hB2 hb3
  clear hb3
  obtain rfl := hx0.out
  clear hx0
  go_wp2_with (refine wpList_load_row rfl 24 (.tmp 2) rfl w.heap.size rfl 24 (arr s) (0, 0) _ hS Tryd.underlying24 rfl HIs.out ?_)
  refine (refWrong_any s hs hF _).mono ?_
  rintro e1 w6 ⟨⟨qw, cw, rfl, _⟩, hb3⟩
  rw [hL.out]
  replace hX := hX.below hb3 hX.lt
  replace hS := hS.below hb3 hS.lt
  replace hH := hH.below hb3 hH.lt
  replace hB2 := tr hB2 hb3
  clear hb3
  have G := guard_houses
  have Z : ∀ wx : World, (Op.equalIn 10000 26 (.agg (arr zeros12)) (.agg #[.int .i64 0, .int .i64 0, .int .i64 0, .int .i64 0, .int .i64 0, .int .i64 0, .int .i64 0, .int .i64 0, .int .i64 0, .int .i64 0, .int .i64 0, .int .i64 0])).run Tryd.prog wx = .ok true wx := same_zeros
  go_upto_region 17 with (refine wpList_load_row rfl 26 (.tmp 5) rfl g rfl 26 (arr zeros12) (0, 0) _ hX Tryd.underlying26 rfl info_houses ?_)
  go_wp2_with (refine wpList_load_row rfl 26 (.tmp 3) rfl (w.heap.size + 1) rfl 26 (arr h) (0, 0) _ hH Tryd.underlying26 rfl HIh.out ?_)
  refine (refHouses_any h hh v (Lib.hid K.out.valid) _).mono ?_
  rintro e1 w6 ⟨rfl, hb3⟩
  replace hX := hX.below hb3 hX.lt
  replace hS := hS.below hb3 hS.lt
  replace hH := hH.below hb3 hH.lt
  replace hB2 := tr hB2 hb3
  clear hb3
  rcases hv with ⟨rfl, rfl, rfl, rfl⟩ | ⟨rfl, rfl, hf, b1, b2, b3, ha⟩
  · go_wp2_with fail
    refine (known_any _ (by have := hB2.size; omega) (hr.below hB2 (Nat.le_refl _))).mono ?_
    rintro e1 w5 ⟨rfl, hb5⟩
    go_wp2
    go_ret
    exact ⟨rfl, tr hB2 hb5⟩
  · go_wp2_with (refine wpList_load_row rfl 26 (.tmp 3) rfl (w.heap.size + 1) rfl 26 (arr h) (0, 0) _ hH Tryd.underlying26 rfl HIh.out ?_)
    refine (refMarks_any h hh hf _).mono ?_
    rintro e1 w7 ⟨rfl, hb3⟩
    rw [b3.out]
    replace hB2 := tr hB2 hb3
    clear hb3 hX hS hH
    subst ha
    go_wp2_with fail
    refine (known_any _ (by have := hB2.size; omega) (hr.below hB2 (Nat.le_refl _))).mono ?_
    rintro e1 w5 ⟨rfl, hb5⟩
    go_wp2
    go_ret
    exact ⟨rfl, tr hB2 hb5⟩
set_option maxRecDepth 100000 in
set_option maxHeartbeats 16000000 in
theorem charts_3 (s h x : List Int) (E : Int) (v : Bool) (e n a : Int) (hs : Hid (s.length = 16)) (hh : Hid (h.length = 12)) (hx : Hid (x.length = 12)) (HX : Hid (ofH s = x)) (HE : Hid (ofE s = E)) (K : Hid (HousesOf h v e n a)) (hv : (v = false ∧ e = 2 ∧ n = 0 ∧ a = 0) ∨ (v = true ∧ e = 0 ∧ Hid (chkF h = 0) ∧ 48 ≤ n ∧ n ≤ 96 ∧ Hid (marksTo h 12 = n) ∧ a = (n - 1) % 12 + 1)) (hS0 : Hid (true = decide (chkF s = 0))) (hF : Figs s) (hx0 : Hid (∀ k, k < 12 → nth x k = nth s k)) (hE : Hid (E = 0)) (hL : Hid (wrongTo s 16 = [])) (w : World) (hw : 7 ≤ w.heap.size) (hp : Par w) (hr : Rul w) :
    Calls Tryd.prog 3 #[.agg (arr s), .agg (arr h)] w fun e w' => e = .returned (.bool true) ∧ Below w.heap.size w w' := by
  have bel0 : Below w.heap.size w ((w.alloc (.cells (arr s) 24)).alloc (.cells (arr h) 26)) := ((Below.refl _ _).alloc (Nat.le_refl _) _).alloc (by simp) _
  have HS := Lib.hid (Blk.alloc (Blk.new w 24 (arr s)) (.cells (arr h) 26))
  have HH : Hid (Blk ((w.alloc (.cells (arr s) 24)).alloc (.cells (arr h) 26)) (w.heap.size + 1) 26 (arr h)) := Lib.hid (newAt (by simp))
  have HIs := Lib.hid (show (Tryd.prog.info? 24).map (·.size) = some (arr s).size by rw [arr_size, hs.out]; exact info_shield)
  have HIh := Lib.hid (show (Tryd.prog.info? 26).map (·.size) = some (arr h).size by rw [arr_size, hh.out]; exact info_houses)
  have HIx := Lib.hid (show (Tryd.prog.info? 26).map (·.size) = some (arr x).size by rw [arr_size, hx.out]; exact info_houses)
  have HOx := Lib.hid (show (arr zeros12).size = (arr x).size by rw [arr_size, arr_size, hx.out]; rfl)
  go_enter Tryd.func3, Tryd.ntmps3
  go_wp2_with (refine wpList_load_row rfl 24 (.tmp 2) rfl w.heap.size rfl 24 (arr s) (0, 0) _ HS.out Tryd.underlying24 rfl HIs.out ?_)
  refine (of_any s hs.out _ (hp.below bel0 (Nat.le_refl _))).mono ?_
  rintro e1 w1 ⟨rfl, hb1⟩
  rw [HX.out, HE.out]
  have hB1 := tr bel0 hb1
  have HS1 := Lib.hid (HS.out.below hb1 (by simp; omega))
  have HH1 := Lib.hid (HH.out.below hb1 (by simp))
  have hs1 : w.heap.size + 1 < w1.heap.size := HH1.out.lt
  clear hb1 bel0 HS HH
  have bel : Below w1.heap.size w1 ((w1.alloc (.cells (arr zeros12) 26)).setRow w1.heap.size (arr x)) := below_setRow ((Below.refl _ _).alloc (Nat.le_refl _) _) (Nat.le_refl _) _
  have hX : Blk ((w1.alloc (.cells (arr zeros12) 26)).setRow w1.heap.size (arr x)) w1.heap.size 26 (arr x) := (Blk.new w1 26 (arr zeros12)).row _
  have hS := HS1.out.below bel (by omega)
  have hH := HH1.out.below bel (by omega)
  have hB2 := hB1.trans (bel.mono hB1.size)
  go_upto_region 2 with (refine wpList_store_row rfl 26 (.tmp 5) (.tmp 16) rfl w1.heap.size (arr x) rfl rfl 26 _ (Blk.new w1 26 (arr zeros12)) HIx.out HOx.out (arr_one _) ?_)
  generalize hW : World.setRow _ _ _ = W2
  replace hX : Blk W2 w1.heap.size 26 (arr x) := by rw [← hW]; exact hX
  replace hS : Blk W2 w.heap.size 24 (arr s) := by rw [← hW]; exact hS
  replace hH : Blk W2 (w.heap.size + 1) 26 (arr h) := by rw [← hW]; exact hH
  replace hB2 : Below w.heap.size w W2 := by rw [← hW]; exact hB2
  clear hW bel HS1 HH1 hB1
  obtain ⟨g, hg⟩ : ∃ g, w1.heap.size = g := ⟨_, rfl⟩
  rw [hg] at hX hs1 ⊢
  clear hg
  go_wp2_with (refine wpList_load_row rfl 26 (.tmp 3) rfl (w.heap.size + 1) rfl 26 (arr h) (0, 0) _ hH Tryd.underlying26 rfl HIh.out ?_)
  refine (checkHs_any h hh _).mono ?_
  rintro e1 w3 ⟨rfl, hb3⟩
  rw [K.out.err]
  replace hX := hX.below hb3 hX.lt
  replace hS := hS.below hb3 hS.lt
  replace hH := hH.below hb3 hH.lt
  replace hB2 := tr hB2 hb3
  clear hb3
  go_wp2_with (refine wpList_load_row rfl 26 (.tmp 3) rfl (w.heap.size + 1) rfl 26 (arr h) (0, 0) _ hH Tryd.underlying26 rfl HIh.out ?_)
  refine (fortune_any h hh _ (by have := hB2.size; omega)).mono ?_
  rintro e1 w4 ⟨rfl, hb3⟩
  rw [K.out.err, K.out.marks, K.out.house]
  replace hX := hX.below hb3 hX.lt
  replace hS := hS.below hb3 hS.lt
  replace hH := hH.below hb3 hH.lt
  replace hB2 := tr hB2 hb3
  clear hb3
  obtain rfl := hE.out
  clear hE
  go_wp2_with (refine wpList_load_row rfl 24 (.tmp 2) rfl w.heap.size rfl 24 (arr s) (0, 0) _ hS Tryd.underlying24 rfl HIs.out ?_)
  refine (refShield_any s hs true hS0 _).mono ?_
  rintro e1 w5 ⟨rfl, hb3⟩
  replace hX := hX.below hb3 hX.lt
  replace hS := hS.below hb3 hS.lt
  replace hH := hH.below hb3 hH.lt
  replace hB2 := tr hB2 hb3
  clear hb3
  go_wp2_with (refine wpList_load_row rfl 24 (.tmp 2) rfl w.heap.size rfl 24 (arr s) (0, 0) _ hS Tryd.underlying24 rfl HIs.out ?_)
  refine (refWrong_any s hs hF _).mono ?_
  rintro e1 w6 ⟨⟨qw, cw, rfl, _⟩, hb3⟩
  rw [hL.out]
  replace hX := hX.below hb3 hX.lt
  replace hS := hS.below hb3 hS.lt
  replace hH := hH.below hb3 hH.lt
  replace hB2 := tr hB2 hb3
  clear hb3
  have HX6 := Lib.hid hX
  have HS6 := Lib.hid hS
  have HH6 := Lib.hid hH
  clear hX hS hH
  go_wp2
  go_loopw [11] (fun i wz => ∃ k : Nat, k ≤ 12 ∧ i = .int .i64 k ∧ ∃ r, wz = w6.drewN r) (fun i _ => 12 - (intOf i).toNat)
  case atStart => exact ⟨0, by omega, rfl, 0, rfl⟩
  case round =>
    obtain ⟨k, hk, rfl, r, rfl⟩ := hrel
    by_cases hlt : k < 12
    · have hcx : w6.cell? ⟨g, k, none⟩ = some (.int .i64 (nth s k)) := by rw [HX6.out.cell, arr_get (by rw [hx.out]; exact hlt), hx0.out k hlt]
      have hcs : w6.cell? ⟨w.heap.size, k, none⟩ = some (.int .i64 (nth s k)) := by rw [HS6.out.cell, arr_get (by rw [hs.out]; omega)]
      go_wp2
      go_quiet (fail)
      go_wp2
      go_roundw
      case rel => exact ⟨k + 1, by omega, by go_num, _, rfl⟩
      case measure => simp [intOf]; omega
    · obtain rfl : k = 12 := by omega
      replace hB2 := below_drewN hB2 r
      have hH : Blk (w6.drewN r) (w.heap.size + 1) 26 (arr h) := HH6.out.below (below_drewN (Below.refl w6.heap.size w6) r) HH6.out.lt
      have hX : Blk (w6.drewN r) g 26 (arr x) := HX6.out.below (below_drewN (Below.refl w6.heap.size w6) r) HX6.out.lt
      have hS : Blk (w6.drewN r) w.heap.size 24 (arr s) := HS6.out.below (below_drewN (Below.refl w6.heap.size w6) r) HS6.out.lt
      go_wp2_with (refine wpList_load_row rfl 26 (.tmp 3) rfl (w.heap.size + 1) rfl 26 (arr h) (0, 0) _ hH Tryd.underlying26 rfl HIh.out ?_)
      refine (refHouses_any h hh v (Lib.hid K.out.valid) _).mono ?_
      rintro e1 w6 ⟨rfl, hb3⟩
      replace hX := hX.below hb3 hX.lt
      replace hS := hS.below hb3 hS.lt
      replace hH := hH.below hb3 hH.lt
      replace hB2 := tr hB2 hb3
      clear hb3
      rcases hv with ⟨rfl, rfl, rfl, rfl⟩ | ⟨rfl, rfl, hf, b1, b2, b3, ha⟩
      · go_wp2_with fail
        refine (known_any _ (by have := hB2.size; omega) (hr.below hB2 (Nat.le_refl _))).mono ?_
        rintro e1 w5 ⟨rfl, hb5⟩
        go_wp2
        go_ret
        exact ⟨rfl, tr hB2 hb5⟩
      · go_wp2_with (refine wpList_load_row rfl 26 (.tmp 3) rfl (w.heap.size + 1) rfl 26 (arr h) (0, 0) _ hH Tryd.underlying26 rfl HIh.out ?_)
        refine (refMarks_any h hh hf _).mono ?_
        rintro e1 w7 ⟨rfl, hb3⟩
        rw [b3.out]
        replace hB2 := tr hB2 hb3
        clear hb3 hX hS hH
        subst ha
        go_wp2_with fail
        refine (known_any _ (by have := hB2.size; omega) (hr.below hB2 (Nat.le_refl _))).mono ?_
        rintro e1 w5 ⟨rfl, hb5⟩
        go_wp2
        go_ret
        exact ⟨rfl, tr hB2 hb5⟩

theorem charts_law (s h : List Int) (hs : s.length = 16) (hh : h.length = 12) (w : World) (hw : 6 < w.heap.size) (hp : Par w) (hr : Rul w) :
    Calls Tryd.prog 3 #[.agg (arr s), .agg (arr h)] w fun e w' => e = .returned (.bool true) ∧ Below w.heap.size w w' := by
  have hK : ∃ v e n a, Hid (HousesOf h v e n a) ∧ ((v = false ∧ e = 2 ∧ n = 0 ∧ a = 0) ∨ (v = true ∧ e = 0 ∧ Hid (chkF h = 0) ∧ 48 ≤ n ∧ n ≤ 96 ∧ Hid (marksTo h 12 = n) ∧ a = (n - 1) % 12 + 1)) := by
    rcases chkF_or h with e | e
    · have hb := marksTo_bd h 12
      exact ⟨true, 0, marksTo h 12, (marksTo h 12 - 1) % 12 + 1, Lib.hid ⟨by simp [e], e, by unfold fortV; rw [if_pos e], by unfold fortH; rw [if_pos e]⟩, .inr ⟨rfl, rfl, Lib.hid e, by omega, by omega, Lib.hid rfl, rfl⟩⟩
    · exact ⟨false, 2, 0, 0, Lib.hid ⟨by simp [e], e, by unfold fortV; rw [if_neg (by omega)], by unfold fortH; rw [if_neg (by omega)]⟩, .inl ⟨rfl, rfl, rfl, rfl⟩⟩
  obtain ⟨v, e, n, a, K, hv⟩ := hK
  rcases chkF_or s with hc | hc
  · have hF : Figs s := fun k hk => chkF_zero hc k (by omega)
    have hwv : wrongV s = wrongTo s 16 := by unfold wrongV; rw [if_pos hc]
    by_cases hwr : wrongV s = []
    · refine charts_3 s h (s.take 12) 0 v e n a (Lib.hid hs) (Lib.hid hh) (Lib.hid (by rw [List.length_take, hs]; rfl)) (Lib.hid (by unfold ofH; rw [if_pos ⟨hc, hwr⟩])) (Lib.hid (by unfold ofE; rw [if_pos hc, if_pos hwr])) K hv (Lib.hid (by simp [hc])) hF (Lib.hid fun k hk => ?_) (Lib.hid rfl) (Lib.hid (hwv ▸ hwr)) w hw hp hr
      rw [nth_eq (by rw [List.length_take, hs]; exact hk), nth_eq (by omega), List.getElem_take]
    · exact charts_2 s h zeros12 30 v e n a (Lib.hid hs) (Lib.hid hh) (Lib.hid rfl) (Lib.hid (by unfold ofH; rw [if_neg (fun e => hwr e.2)])) (Lib.hid (by unfold ofE; rw [if_pos hc, if_neg hwr])) K hv (Lib.hid (by simp [hc])) hF (Lib.hid rfl) (Lib.hid rfl) _ (Lib.hid rfl) (by rw [← hwv]; exact List.length_pos_iff.2 hwr) w hw hp hr
  · exact charts_1 s h zeros12 2 v e n a (Lib.hid hs) (Lib.hid hh) (Lib.hid rfl) (Lib.hid (by unfold ofH; rw [if_neg (by omega)])) (Lib.hid (by unfold ofE; rw [if_neg (by omega)])) K hv (Lib.hid (by simp [hc])) (Lib.hid rfl) (Lib.hid rfl) w hw hp hr
end Go.Proofs.YtojlopfjhhiilaaDoor
