/-
  ShieldGroup: the walk of the law.
-/
import Derived.Test.YtgaljmhhagldlaaDoorShMa
import Derived.Test.YtgaljmhhagldlaaDoorShVb
import Derived.Test.YtgaljmhhagldlaaDoorShP
namespace Go.Proofs.YtgaljmhhagldlaaDoor
open Go Go.RowKit
set_option linter.unusedVariables false

theorem sum2_any (a b : Int) (ha : Fig a) (hb : Fig b) (W : World) :
    Calls Tryd.prog 47 #[.slice (some ⟨W.heap.size, 0, none⟩) 2 2] (W.alloc (.cells #[.int .i64 a, .int .i64 b] 22)) fun e w' => e = .returned (.tuple #[.int .i64 (xorF a b), .bool true]) ∧ Below W.heap.size W w' := by
  refine (lawSum_any _ [a, b] 2 2 _ (Lib.hid rfl) (by omega) (reads_at _ _ [a, b] _ rfl) (fun k hk => ?_)).mono ?_
  · have hc : k = 0 ∨ k = 1 := by omega
    rcases hc with rfl | rfl
    · exact ha
    · exact hb
  · rintro e w' ⟨rfl, h⟩
    exact ⟨by rw [show sumL 0 [a, b] = xorF a b by simp only [sumL]; rw [zero_xor _ ha]], ((Below.refl _ _).alloc (Nat.le_refl _) _).trans (h.mono (by simp))⟩
theorem chk_one {f : Int} (hf : Fig f) : chkF [f] = 0 := chkF_of fun k hk => by
  obtain rfl : k = 0 := by simpa using hk
  exact hf
/-- The opposite, the turned figure. -/
def oppF (f : Int) : Int := figTo (fun i => !bitB f i) 4
def turF (f : Int) : Int := figTo (fun i => bitB f (3 - i)) 4
theorem oppF_fig (f : Int) : Fig (oppF f) := figTo_bd _ (Nat.le_refl _)
theorem turF_fig (f : Int) : Fig (turF f) := figTo_bd _ (Nat.le_refl _)
theorem opp_good (f : Int) (hf : Fig f) (w : World) : Calls Tryd.prog 20 #[.int .i64 f] w fun e w' => e = .returned (.tuple #[.int .i64 (oppF f), .int .i64 0]) ∧ Below w.heap.size w w' := by
  have := oppositeS_any f w
  rwa [show oppositeV f = oppF f by unfold oppositeV; rw [if_pos (chk_one hf)]; rfl, chk_one hf] at this
theorem tur_good (f : Int) (hf : Fig f) (w : World) : Calls Tryd.prog 19 #[.int .i64 f] w fun e w' => e = .returned (.tuple #[.int .i64 (turF f), .int .i64 0]) ∧ Below w.heap.size w w' := by
  have := turnedS_any f w
  rwa [show turnedV f = turF f by unfold turnedV; rw [if_pos (chk_one hf)]; rfl, chk_one hf] at this
theorem opp_opp (x : Int) (hx : Fig x) : oppF (oppF x) = x := by
  refine figs1 (P := fun x => oppF (oppF x) = x) (fun i => ?_) hx
  revert i; decide +kernel
theorem tur_tur (x : Int) (hx : Fig x) : turF (turF x) = x := by
  refine figs1 (P := fun x => turF (turF x) = x) (fun i => ?_) hx
  revert i; decide +kernel
theorem xor_opp (x : Int) (hx : Fig x) : xorF x (oppF x) = 15 := by
  refine figs1 (P := fun x => xorF x (oppF x) = 15) (fun i => ?_) hx
  revert i; decide +kernel
theorem xor_self (x : Int) (hx : Fig x) : xorF x x = 0 := by
  refine figs1 (P := fun x => xorF x x = 0) (fun i => ?_) hx
  revert i; decide +kernel
theorem tur_xor (x y : Int) (hx : Fig x) (hy : Fig y) : xorF (turF x) (turF y) = turF (xorF x y) := by
  refine figs1 (P := fun x => xorF (turF x) (turF y) = turF (xorF x y)) (fun i => ?_) hx
  refine figs1 (P := fun y => xorF (turF (i.val : Int)) (turF y) = turF (xorF (i.val : Int) y)) (fun j => ?_) hy
  revert i j; decide +kernel
theorem of_marks (x : Int) (hx : Fig x) : ofV (markTo x 4) = x ∧ ofE (markTo x 4) = 0 := by
  refine figs1 (P := fun x => ofV (markTo x 4) = x ∧ ofE (markTo x 4) = 0) (fun i => ?_) hx
  revert i; decide +kernel
theorem parse_name (x : Int) (hx : Fig x) : parseV (nameB x.toNat) = x ∧ parseE (nameB x.toNat) = 0 := by
  refine figs1 (P := fun x => parseV (nameB x.toNat) = x ∧ parseE (nameB x.toNat) = 0) (fun i => ?_) hx
  revert i; decide +kernel
theorem name_good (f : Int) (hf : Fig f) (w : World) (hn : Nam w) : Calls Tryd.prog 16 #[.int .i64 f] w fun e w' => e = .returned (.tuple #[.string (nameB f.toNat), .int .i64 0]) ∧ Below w.heap.size w w' := by
  have := nameS_any f w hn
  rwa [show nameV f = nameB f.toNat by unfold nameV; rw [if_pos (chk_one hf)], chk_one hf] at this
theorem parse_good (f : Int) (hf : Fig f) (w : World) (hn : Nam w) : Calls Tryd.prog 27 #[.string (nameB f.toNat)] w fun e w' => e = .returned (.tuple #[.int .i64 f, .int .i64 0]) ∧ w = w' := by
  have := parse_any (nameB f.toNat) w hn
  rwa [(parse_name f hf).1, (parse_name f hf).2] at this
theorem marks_good (f : Int) (hf : Fig f) (w : World) : Calls Tryd.prog 17 #[.int .i64 f] w fun e w' => e = .returned (.tuple #[.agg (arr (markTo f 4)), .int .i64 0]) ∧ Below w.heap.size w w' := by
  have := marks_any f w
  rwa [show marksV f = markTo f 4 by unfold marksV; rw [if_pos (chk_one hf)], chk_one hf] at this
theorem of_good (f : Int) (hf : Fig f) (w : World) : Calls Tryd.prog 28 #[.agg (arr (markTo f 4))] w fun e w' => e = .returned (.tuple #[.int .i64 f, .int .i64 0]) ∧ Below w.heap.size w w' := by
  obtain ⟨a, b, c, d, e⟩ := four (markTo_len f 4)
  have h := of_any a b c d w
  rw [← e, (of_marks f hf).1, (of_marks f hf).2] at h
  exact h

set_option maxRecDepth 100000 in
set_option maxHeartbeats 32000000 in
theorem group_any (x y z : Int) (x0 : 0 ≤ x) (x1 : x ≤ 255) (y0 : 0 ≤ y) (y1 : y ≤ 255) (z0 : 0 ≤ z) (z1 : z ≤ 255) (w : World) (hp : Par w) (hn : Nam w) :
    Calls Tryd.prog 10 #[.int .u8 x, .int .u8 y, .int .u8 z] w fun e w' => e = .returned (.bool true) ∧ Below w.heap.size w w' := by
  have fa : Fig (x % 16) := ⟨by omega, by omega⟩
  have fb : Fig (y % 16) := ⟨by omega, by omega⟩
  have fc : Fig (z % 16) := ⟨by omega, by omega⟩
  go_enter Tryd.func10, Tryd.ntmps10
  go_wp2_with (go_at_call 46; refine (lawFigure_any _ (by omega) (by omega) _).mono ?_; rintro e w' ⟨rfl, rfl⟩)
  generalize x % 16 = a at *
  generalize y % 16 = b at *
  generalize z % 16 = c at *
  clear x0 x1 y0 y1 z0 z1
  have fab := xorF_fig fa fb
  have fba := xorF_fig fb fa
  have fbc := xorF_fig fb fc
  refine (sum2_any (a) (b) fa fb _).mono ?_
  rintro e w1 ⟨rfl, hb1⟩
  have hc1 := hb1
  clear hb1
  go_wp2_with fail
  refine (sum2_any (b) (a) fb fa _).mono ?_
  rintro e w2 ⟨rfl, hb2⟩
  have hc2 := tr hc1 hb2
  clear hc1 hb2
  go_wp2_with fail
  refine (sum2_any (xorF a b) (c) fab fc _).mono ?_
  rintro e w3 ⟨rfl, hb3⟩
  have hc3 := tr hc2 hb3
  clear hc2 hb3
  go_wp2_with fail
  refine (sum2_any (b) (c) fb fc _).mono ?_
  rintro e w4 ⟨rfl, hb4⟩
  have hc4 := tr hc3 hb4
  clear hc3 hb4
  go_wp2_with fail
  refine (sum2_any (a) (xorF b c) fa fbc _).mono ?_
  rintro e w5 ⟨rfl, hb5⟩
  have hc5 := tr hc4 hb5
  clear hc4 hb5
  go_wp2_with fail
  refine (sum2_any (a) (a) fa fa _).mono ?_
  rintro e w6 ⟨rfl, hb6⟩
  have hc6 := tr hc5 hb6
  clear hc5 hb6
  rw [xor_self _ fa]
  have e1 : (xorF a b != xorF b a) = false := by rw [xor_comm _ _ fa fb]; simp
  have e2 : (xorF (xorF a b) c != xorF a (xorF b c)) = false := by rw [xor_assoc _ _ _ fa fb fc]; simp
  go_wp2_with fail
  clear e1 e2
  refine (opp_good a fa _).mono ?_
  rintro e w7 ⟨rfl, hb7⟩
  have hc7 := tr hc6 hb7
  clear hc6 hb7
  go_wp2_with fail
  refine (opp_good (oppF a) (oppF_fig a) _).mono ?_
  rintro e w8 ⟨rfl, hb8⟩
  have hc8 := tr hc7 hb8
  clear hc7 hb8
  rw [opp_opp _ fa]
  go_wp2_with fail
  refine (sum2_any a (oppF a) fa (oppF_fig a) _).mono ?_
  rintro e w9 ⟨rfl, hb9⟩
  have hc9 := tr hc8 hb9
  clear hc8 hb9
  rw [xor_opp _ fa]
  go_wp2_with fail
  refine (tur_good a fa _).mono ?_
  rintro e w10 ⟨rfl, hb10⟩
  have hc10 := tr hc9 hb10
  clear hc9 hb10
  go_wp2_with fail
  refine (tur_good b fb _).mono ?_
  rintro e w11 ⟨rfl, hb11⟩
  have hc11 := tr hc10 hb11
  clear hc10 hb11
  go_wp2_with fail
  refine (tur_good (xorF a b) fab _).mono ?_
  rintro e w12 ⟨rfl, hb12⟩
  have hc12 := tr hc11 hb12
  clear hc11 hb12
  go_wp2_with fail
  refine (tur_good (turF a) (turF_fig a) _).mono ?_
  rintro e w13 ⟨rfl, hb13⟩
  have hc13 := tr hc12 hb13
  clear hc12 hb13
  rw [tur_tur _ fa]
  go_wp2_with fail
  refine (sum2_any (turF a) (turF b) (turF_fig a) (turF_fig b) _).mono ?_
  rintro e w14 ⟨rfl, hb14⟩
  have hc14 := tr hc13 hb14
  clear hc13 hb14
  rw [tur_xor _ _ fa fb]
  go_wp2_with fail
  refine (name_good a fa _ (hn.below hc14 (Nat.le_refl _))).mono ?_
  rintro e w15 ⟨rfl, hb15⟩
  have hc15 := tr hc14 hb15
  clear hc14 hb15
  go_wp2_with fail
  refine (parse_good a fa _ (hn.below hc15 (Nat.le_refl _))).mono ?_
  rintro e wq16 ⟨rfl, rfl⟩
  go_wp2_with fail
  refine (marks_good a fa _).mono ?_
  rintro e w16 ⟨rfl, hb16⟩
  have hc16 := tr hc15 hb16
  clear hc15 hb16
  have HM := Lib.hid (Blk.new w16 27 (arr [0, 0, 0, 0]))
  have HI := Lib.hid (show (Tryd.prog.info? 27).map (·.size) = some (arr (markTo a 4)).size by rw [arr_size, markTo_len]; exact info_marks)
  have HM2 := Lib.hid (HM.out.row (arr (markTo a 4)))
  have hd : Below w.heap.size w ((w16.alloc (.cells (arr [0, 0, 0, 0]) 27)).setRow w16.heap.size (arr (markTo a 4))) := below_setRow (hc16.alloc hc16.size _) hc16.size _
  go_wp2_with (first
    | (refine wpList_store_row rfl 27 (.tmp 37) (.tmp 227) rfl w16.heap.size (arr (markTo a 4)) rfl rfl 27 _ HM.out HI.out (by rw [arr_size, arr_size, markTo_len]; rfl) (arr_one _) ?_)
    | (refine wpList_load_row rfl 27 (.tmp 37) rfl w16.heap.size rfl 27 (arr (markTo a 4)) (0, 0) _ HM2.out Tryd.underlying27 rfl HI.out ?_))
  refine (of_good a fa _).mono ?_
  rintro e wx ⟨rfl, hbx⟩
  have hdx := tr hd hbx
  go_wp2_with fail
  refine (known_any _ (hp.below hdx (Nat.le_refl _)) (hn.below hdx (Nat.le_refl _))).mono ?_
  rintro e wy ⟨rfl, hby⟩
  go_wp2
  go_ret
  exact ⟨rfl, tr hdx hby⟩
end Go.Proofs.YtgaljmhhagldlaaDoor
