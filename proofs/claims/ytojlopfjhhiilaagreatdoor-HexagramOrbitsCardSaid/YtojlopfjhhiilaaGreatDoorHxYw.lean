/-
  Package hexagram: Maps.
-/
import Derived.Test.YtojlopfjhhiilaaGreatDoorHxYv
import Derived.Test.YtojlopfjhhiilaaGreatDoorHxU
namespace Go.Proofs.YtojlopfjhhiilaaGreatDoor
open Go Go.RowKit Go.Shelf Go.Maps
set_option linter.unusedVariables false

theorem info_mapF : (Tryz.prog.info? 47).map (fun i => (i.zero, i.size, i.bytes)) = some (some (.agg (arr zero64)), 64, 512) := by kernel_rfl
theorem reachedM_any (set : Int) (h0s : 0 ≤ set) (h15 : set ≤ 15) (w : World) (hs : Src w) :
    Calls Tryz.prog 20 #[.agg (arr idL), .int .i64 set, .func (.func 21) #[] #[]] w fun e W' => ∃ v, e = .returned v ∧ W'.ownsRow w.heap.size 47 64 v (reachM set 52).length (flatM (reachM set 52)) ∧ Below w.heap.size w W' := by
  obtain ⟨ie, hie, hz, hsz, hby⟩ := info_parts info_mapF
  exact (callsIn_wide (n := 6)).1 (reachedM_in set h0s h15 w hs idL idL_map rfl ⟨ie, hie, hz, hsz, hby⟩ (by rw [arr_size, idL_map.1]; exact info_map))
/-- What Maps returns. -/
def mapsR (set : Int) : Int := if setE set = 0 then (mapsN set : Nat) else 0

set_option maxRecDepth 100000 in
set_option maxHeartbeats 2000000 in
theorem mapsOf_any (set : Int) (w : World) (hs : Src w) :
    Calls Tryz.prog 6 #[.int .i64 set] w fun e w' => e = .returned (.tuple #[.int .i64 (mapsR set), .int .i64 (setE set)]) ∧ Below w.heap.size w w' := by
  rcases setE_or set with h1 | h1
  · have H1 := Lib.hid h1
    obtain ⟨s0, s1⟩ := setE_zero h1
    have E := Lib.hid (show mapsR set = ((reachM set 52).length : Nat) by unfold mapsR mapsN; rw [if_pos h1])
    have HI := Lib.hid (show (Tryz.prog.info? 47).map (·.size) = some (arr idL).size by rw [arr_size, idL_map.1]; exact info_map)
    have HO := Lib.hid (show (arr (List.replicate 64 0)).size = (arr idL).size by rw [arr_size, arr_size, idL_map.1]; rfl)
    have C := Lib.hid (fun W hW => reachedM_any set s0 s1 W hW)
    have CI := Lib.hid mapped_id
    clear h1
    obtain ⟨R, hR⟩ : ∃ R, reachM set 52 = R := ⟨_, rfl⟩
    rw [hR] at E C
    clear hR
    obtain ⟨I, hI⟩ : ∃ I, idL = I := ⟨_, rfl⟩
    rw [hI] at HI HO C CI
    clear hI
    go_enter Tryz.func6, Tryz.ntmps6
    go_wp2_with fail
    refine (checkSet_any set _).mono ?_
    rintro e w1 ⟨rfl, hb1⟩
    rw [H1.out]
    go_wp2_with fail
    refine (CI.out w1).mono ?_
    rintro e w2 ⟨rfl, hb2⟩
    have hb3 := tr hb1 hb2
    have N := Lib.hid (newAt (W := w2) (o := .cells (arr (List.replicate 64 0)) 47) rfl)
    clear hb1 hb2
    go_upto_region 5 with (first | (refine wpList_store_row rfl 47 (.tmp 5) (.tmp 11) rfl w2.heap.size (arr I) rfl rfl 47 _ N.out HI.out HO.out (arr_one _) ?_) | fail)
    generalize hW3 : World.setRow _ _ _ = w3
    have HK := Lib.hid (show Blk w3 w2.heap.size 47 (arr I) by rw [← hW3]; exact Blk.row N.out (arr I))
    have hb4 : Below w.heap.size w w3 := by rw [← hW3]; exact below_setRow (hb3.alloc hb3.size _) hb3.size _
    clear hW3 N hb3
    generalize w2.heap.size = gI at HK ⊢
    go_wp2_with (first | (refine wpList_load_row rfl 47 (.tmp 5) rfl gI rfl 47 (arr I) (0, 0) _ HK.out Tryz.underlying47 rfl HI.out ?_) | fail)
    refine (C.out _ (hs.below hb4 (Nat.le_refl _))).mono ?_
    rintro e w5 ⟨v, rfl, hown, hb5⟩
    have hb6 := tr hb4 hb5
    have hv : ∃ q c, v = .slice q R.length c := by
      rcases hown.2 with ⟨rfl, h0⟩ | ⟨g, cap, cur, rfl, _⟩
      · exact ⟨none, 0, by rw [h0]⟩
      · exact ⟨_, cap, rfl⟩
    obtain ⟨q, c, rfl⟩ := hv
    clear hown hb4 hb5
    go_wp2_with fail
    go_ret2
    exact ⟨by rw [E.out, H1.out]; rfl, hb6⟩
  · have H1 := Lib.hid h1
    have E := Lib.hid (show mapsR set = 0 by unfold mapsR; rw [h1]; rfl)
    clear h1
    go_enter Tryz.func6, Tryz.ntmps6
    go_wp2_with fail
    refine (checkSet_any set _).mono ?_
    rintro e w1 ⟨rfl, hb1⟩
    rw [H1.out]
    go_wp2_with fail
    go_ret2
    exact ⟨by rw [E.out, H1.out]; rfl, hb1⟩
end Go.Proofs.YtojlopfjhhiilaaGreatDoor
