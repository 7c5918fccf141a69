/-
  The document's examples, as the statements of chapter 3 ask for them: known returns true.
-/
import Derived.Test.YthioojappmnnaaaDoorShE
import Derived.Test.YthioojappmnnaaaDoorShH
namespace Go.Proofs.YthioojappmnnaaaDoor
open Go Go.RowKit
set_option linter.unusedVariables false

theorem k_sum (w : World) : Calls Tryd.prog 10 #[.int .i64 15, .int .i64 4] w fun e w' => e = .returned (.tuple #[.int .i64 11, .int .i64 0]) ∧ Below w.heap.size w w' := sumS_any 15 4 w
theorem k_derive (w : World) (hp : Par w) : Calls Tryd.prog 6 #[.agg #[.int .i64 15, .int .i64 0, .int .i64 0, .int .i64 0]] w fun e w' => e = .returned (.tuple #[.agg (arr loneL), .int .i64 0]) ∧ Below w.heap.size w w' := by
  have := derive_any 15 0 0 0 w hp
  rwa [show deriveV [15, 0, 0, 0] = loneL by decide, show chkF [15, 0, 0, 0] = 0 by decide] at this
theorem k_way (w : World) (hp : Par w) : Calls Tryd.prog 11 #[.agg (arr loneL), .int .i64 0] w fun e w' => (∃ q c, e = .returned (.tuple #[.slice q 4 c, .int .i64 0]) ∧ Reads w' q [14, 12, 8, 0]) ∧ Below w.heap.size w w' := by
  have := way_any loneL 0 rfl w hp
  rwa [show wayV loneL 0 = [14, 12, 8, 0] by decide, show wayE loneL 0 = 0 by decide] at this
/-- The lone chart with Puer for the judge. -/
def badL : List Int := [15, 0, 0, 0, 1, 1, 1, 1, 15, 0, 0, 0, 15, 0, 11, 0]
theorem k_wrong (w : World) (hp : Par w) : Calls Tryd.prog 8 #[.agg (arr badL)] w fun e w' => (∃ q c, e = .returned (.tuple #[.slice q 2 c, .int .i64 0]) ∧ Reads w' q [14, 15]) ∧ Below w.heap.size w w' := by
  have := wrong_any badL rfl w hp
  rwa [show wrongV badL = [14, 15] by decide, show chkF badL = 0 by decide] at this
theorem k_name (w : World) (hn : Nam w) : Calls Tryd.prog 13 #[.int .i64 12] w fun e w' => e = .returned (.tuple #[.string (nameB 12), .int .i64 0]) ∧ Below w.heap.size w w' := nameS_any 12 w hn
theorem eq_lone (wx : World) : (Op.equalIn 10000 33 (.agg (arr loneL)) (.agg (arr loneL))).run Tryd.prog wx = .ok true wx := by
  have := neq_shield (a := loneL) (b := loneL) rfl rfl wx
  rwa [show decide (loneL = loneL) = true by decide] at this

theorem keepS {gw ow b : Nat} {w5 W W' : World} (h : W.cell? ⟨gw, ow, none⟩ = some (.int .i64 14) ∧ W.cell? ⟨gw, ow + 1, none⟩ = some (.int .i64 12) ∧ W.cell? ⟨gw, ow + 2, none⟩ = some (.int .i64 8) ∧ W.cell? ⟨gw, ow + 3, none⟩ = some (.int .i64 0) ∧ W.rangeAt b 0 (loneL.map (Value.int .i64)) ∧ Below w5.heap.size w5 W) (hb : Below W.heap.size W W') : W'.cell? ⟨gw, ow, none⟩ = some (.int .i64 14) ∧ W'.cell? ⟨gw, ow + 1, none⟩ = some (.int .i64 12) ∧ W'.cell? ⟨gw, ow + 2, none⟩ = some (.int .i64 8) ∧ W'.cell? ⟨gw, ow + 3, none⟩ = some (.int .i64 0) ∧ W'.rangeAt b 0 (loneL.map (Value.int .i64)) ∧ Below w5.heap.size w5 W' :=
  ⟨cell_tr hb h.1, cell_tr hb h.2.1, cell_tr hb h.2.2.1, cell_tr hb h.2.2.2.1, range_tr hb h.2.2.2.2.1, h.2.2.2.2.2.trans (hb.mono h.2.2.2.2.2.size)⟩
theorem readsS {gw ow b : Nat} {w5 W W' : World} (h : W.cell? ⟨gw, ow, none⟩ = some (.int .i64 14) ∧ W.cell? ⟨gw, ow + 1, none⟩ = some (.int .i64 12) ∧ W.cell? ⟨gw, ow + 2, none⟩ = some (.int .i64 8) ∧ W.cell? ⟨gw, ow + 3, none⟩ = some (.int .i64 0) ∧ W.rangeAt b 0 (loneL.map (Value.int .i64)) ∧ Below w5.heap.size w5 W) (hb : Below W.heap.size W W') : Reads W' (some ⟨gw, ow, none⟩) [14, 12, 8, 0] := fun k hk => by
  obtain ⟨a, b, c, d, _⟩ := keepS h hb
  have : k = 0 ∨ k = 1 ∨ k = 2 ∨ k = 3 := by simp at hk; omega
  rcases this with rfl | rfl | rfl | rfl
  · exact ⟨gw, ow, rfl, a⟩
  · exact ⟨gw, ow, rfl, b⟩
  · exact ⟨gw, ow, rfl, c⟩
  · exact ⟨gw, ow, rfl, d⟩
theorem below1 (W : World) (o : Obj) : Below W.heap.size W (W.alloc o) := (Below.refl _ _).alloc (Nat.le_refl _) _
theorem lone_below {w w' : World} (h : w.alloc (.cells (arr loneL) 33) = w') : Below w.heap.size w w' := h ▸ (Below.refl _ _).alloc (Nat.le_refl _) _

set_option maxRecDepth 100000 in
set_option maxHeartbeats 4000000 in
theorem known_any (w : World) (hp : Par w) (hn : Nam w) :
    Calls Tryd.prog 4 #[] w fun e w' => e = .returned (.bool true) ∧ Below w.heap.size w w' := by
  have G := guard_shield
  go_enter Tryd.func4, Tryd.ntmps4
  go_wp2_with fail
  refine (k_sum _).mono ?_
  rintro e w1 ⟨rfl, hb1⟩
  have hp1 := hp.below hb1 (Nat.le_refl _)
  go_wp2_with fail
  refine (k_derive _ hp1).mono ?_
  rintro e w2 ⟨rfl, hb2⟩
  have hb3 := tr hb1 hb2
  have HD := Lib.hid (newAt (W := w2) (o := .cells (arr (List.replicate 16 0)) 33) rfl)
  go_wp2_with (first | (refine wpList_store_row rfl 33 (.tmp 3) (.tmp 18) rfl w2.heap.size (arr loneL) rfl rfl 33 _ HD.out info_shield rfl (arr_one _) ?_) | fail)
  refine (lone_any _).mono ?_
  rintro e w3 ⟨rfl, hw3⟩
  have HS := Lib.hid (show Blk w3 w2.heap.size 33 (arr loneL) from hw3 ▸ Blk.alloc (Blk.row HD.out _) _)
  have hb4 : Below w.heap.size w w3 := hw3 ▸ (below_setRow (hb3.alloc hb3.size _) hb3.size _).alloc (by simp; have := hb3.size; omega) _
  have hs3 : w2.heap.size < w3.heap.size := HS.out.lt
  clear hw3 HD hb1 hb2 hp1
  have hz2 := hb3.size
  go_wp2_with fail
  refine (k_way _ (hp.below hb4 (Nat.le_refl _))).mono ?_
  rintro e w4 ⟨⟨qw, cw, rfl, hrw⟩, hb5⟩
  have HS4 := Lib.hid (HS.out.below hb5 hs3)
  have hb6 := tr hb4 hb5
  go_wp2_with fail
  refine (k_name _ (hn.below hb6 (Nat.le_refl _))).mono ?_
  rintro e w5 ⟨rfl, hb7⟩
  have HS5 := Lib.hid (HS4.out.below hb7 HS4.out.lt)
  have hrw5 := hrw.below hb7 (Nat.le_refl _)
  have hb8 := tr hb6 hb7
  clear HS HS4 hrw hb3 hb4 hb5 hb6 hb7 hs3
  obtain ⟨gw, ow, rfl, r0⟩ := hrw5 0 (by simp)
  obtain ⟨_, _, h1, r1⟩ := hrw5 1 (by simp)
  cases h1
  obtain ⟨_, _, h1, r2⟩ := hrw5 2 (by simp)
  cases h1
  obtain ⟨_, _, h1, r3⟩ := hrw5 3 (by simp)
  cases h1
  simp only [nth, List.getD_cons_zero, List.getD_cons_succ, Nat.add_zero] at r0 r1 r2 r3
  have kr : w5.rangeAt w2.heap.size 0 (loneL.map (Value.int .i64)) := HS5.out.range
  have U : Tryd.prog.underlying 33 = some (.array 16 26) := Tryd.underlying33
  have I : (Tryd.prog.info? 33).map (·.size) = some (loneL.map (Value.int .i64)).length := info_shield
  have N : ∀ wx : World, (Op.equalIn 10000 33 (.agg (loneL.map (Value.int .i64)).toArray) (.agg (arr loneL))).run Tryd.prog wx = .ok true wx := eq_lone
  have hlt5 := HS5.out.lt
  have nm : ((nameB 12).toList == [102, 111, 114, 116, 117, 110, 97, 32, 109, 97, 106, 111, 114]) = true := by rw [ByteArray.toList_eq]; rfl
  go_wp2
  go_region_held3 (fun w' => w'.cell? ⟨gw, ow, none⟩ = some (.int .i64 14) ∧ w'.cell? ⟨gw, ow + 1, none⟩ = some (.int .i64 12) ∧ w'.cell? ⟨gw, ow + 2, none⟩ = some (.int .i64 8) ∧ w'.cell? ⟨gw, ow + 3, none⟩ = some (.int .i64 0) ∧ w'.rangeAt w2.heap.size 0 (loneL.map (Value.int .i64)) ∧ Below w5.heap.size w5 w')
    (first | exact ⟨r0, r1, r2, r3, kr, (Below.refl _ _).drew⟩ | assumption | exact keepS (by assumption) (below1 _ _) | exact keepS (W := w5.drew) ⟨r0, r1, r2, r3, kr, (Below.refl _ _).drew⟩ hbk | (obtain ⟨r, rfl⟩ := hw'; exact keepS (by assumption) (below_drewN (Below.refl _ _) r)))
    (first
     | (go_at_call 12; refine (lone_any _).mono ?_; rintro e w' ⟨rfl, hw'⟩; have hbk := lone_below hw'; clear hw')
     | (go_at_call 14; refine (same_any _ [14, 12, 8, 0] 4 _ _ [14, 12, 8, 0] 4 _ _ (Lib.hid rfl) (Lib.hid rfl) (by omega) ?hx ?hy).mono ?_; (case hx => exact readsS (by assumption) (Below.refl _ _)); (case hy => exact reads_at _ _ [14, 12, 8, 0] _ rfl); rintro e w' ⟨rfl, hw'⟩))
  rename_i hh
  obtain ⟨_, _, _, _, _, hbx⟩ := hh
  have hb9 := tr hb8 hbx
  clear hw' hbk r0 r1 r2 r3 kr U I N hbx hb8 hrw5 HS5 hlt5
  go_wp2_with fail
  refine (lone_any _).mono ?_
  rintro e w7 ⟨rfl, hw7⟩
  have hb10 := tr hb9 (lone_below hw7)
  clear hw7 hb9
  have HZ : Blk (w7.alloc (.cells #[.int .i64 0, .int .i64 0, .int .i64 0, .int .i64 0, .int .i64 0, .int .i64 0, .int .i64 0, .int .i64 0, .int .i64 0, .int .i64 0, .int .i64 0, .int .i64 0, .int .i64 0, .int .i64 0, .int .i64 0, .int .i64 0] 33)) w7.heap.size 33 #[.int .i64 0, .int .i64 0, .int .i64 0, .int .i64 0, .int .i64 0, .int .i64 0, .int .i64 0, .int .i64 0, .int .i64 0, .int .i64 0, .int .i64 0, .int .i64 0, .int .i64 0, .int .i64 0, .int .i64 0, .int .i64 0] := Blk.new _ _ _
  have hc14 : ((w7.alloc (.cells #[.int .i64 0, .int .i64 0, .int .i64 0, .int .i64 0, .int .i64 0, .int .i64 0, .int .i64 0, .int .i64 0, .int .i64 0, .int .i64 0, .int .i64 0, .int .i64 0, .int .i64 0, .int .i64 0, .int .i64 0, .int .i64 0] 33)).setRow w7.heap.size (arr loneL)).cell? ⟨w7.heap.size, 14, none⟩ = some (.int .i64 15) := (HZ.row (arr loneL)).cell 14
  have hf14 : ((w7.alloc (.cells #[.int .i64 0, .int .i64 0, .int .i64 0, .int .i64 0, .int .i64 0, .int .i64 0, .int .i64 0, .int .i64 0, .int .i64 0, .int .i64 0, .int .i64 0, .int .i64 0, .int .i64 0, .int .i64 0, .int .i64 0, .int .i64 0] 33)).setRow w7.heap.size (arr loneL)).frozen? ⟨w7.heap.size, 14, none⟩ = false := (HZ.row (arr loneL)).frozen 14
  have HB : Blk (((w7.alloc (.cells #[.int .i64 0, .int .i64 0, .int .i64 0, .int .i64 0, .int .i64 0, .int .i64 0, .int .i64 0, .int .i64 0, .int .i64 0, .int .i64 0, .int .i64 0, .int .i64 0, .int .i64 0, .int .i64 0, .int .i64 0, .int .i64 0] 33)).setRow w7.heap.size (arr loneL)).setCell ⟨w7.heap.size, 14, none⟩ (.int .i64 11)) w7.heap.size 33 (arr badL) := (HZ.row (arr loneL)).set_ 14 (.int .i64 11)
  have hb11 : Below w.heap.size w (((w7.alloc (.cells #[.int .i64 0, .int .i64 0, .int .i64 0, .int .i64 0, .int .i64 0, .int .i64 0, .int .i64 0, .int .i64 0, .int .i64 0, .int .i64 0, .int .i64 0, .int .i64 0, .int .i64 0, .int .i64 0, .int .i64 0, .int .i64 0] 33)).setRow w7.heap.size (arr loneL)).setCell ⟨w7.heap.size, 14, none⟩ (.int .i64 11)) := (below_setRow (hb10.alloc hb10.size _) hb10.size _).setCell hb10.size _
  have HZ' := Lib.hid HZ
  have HB' := Lib.hid HB
  clear HZ HB
  go_wp2_with (first
    | (refine wpList_store_row rfl 33 (.tmp 9) (.tmp 62) rfl w7.heap.size (arr loneL) rfl rfl 33 _ HZ'.out info_shield rfl (arr_one _) ?_)
    | (refine wpList_load_row rfl 33 (.tmp 9) rfl w7.heap.size rfl 33 (arr badL) (0, 0) _ HB'.out Tryd.underlying33 rfl info_shield ?_))
  refine (k_wrong _ (hp.below hb11 (Nat.le_refl _))).mono ?_
  rintro e w8 ⟨⟨q8, c8, rfl, hr8⟩, hb12⟩
  have hb13 := tr hb11 hb12
  clear hb12 hb11 hc14 hf14 HZ' HB'
  go_wp2_with fail
  refine (same_any q8 [14, 15] 2 c8 _ [14, 15] 2 _ _ (Lib.hid rfl) (Lib.hid rfl) (by omega) (hr8.below ((Below.refl _ _).alloc (Nat.le_refl _) _) (Nat.le_refl _)) (reads_at _ _ [14, 15] _ rfl)).mono ?_
  rintro e w9 ⟨rfl, r, rfl⟩
  go_wp2
  go_ret
  exact ⟨rfl, below_drewN (hb13.alloc hb13.size _) r⟩
end Go.Proofs.YthioojappmnnaaaDoor
