/-
  The reference of chapter 3: what follows at a place, and the chart of mothers.
-/
import Derived.Test.YtojlopfjhhiilaaDoorShRb
import Derived.Test.YtojlopfjhhiilaaDoorShQ
namespace Go.Proofs.YtojlopfjhhiilaaDoor
open Go Go.RowKit
set_option linter.unusedVariables false

set_option maxHeartbeats 400000 in
theorem refParents_any (p : Nat) (h8 : 8 ≤ p) (h16 : p < 16) (w : World) :
    Calls Tryd.prog 52 #[.int .i64 p] w fun e w' => e = .returned (.tuple #[.int .i64 (parA p : Nat), .int .i64 (parB p : Nat)]) ∧ w = w' := by
  have hc : p = 8 ∨ p = 9 ∨ p = 10 ∨ p = 11 ∨ p = 12 ∨ p = 13 ∨ p = 14 ∨ p = 15 := by omega
  rcases hc with rfl | rfl | rfl | rfl | rfl | rfl | rfl | rfl
  all_goals
    go_enter Tryd.func52, Tryd.ntmps52
    go_wp2
    go_ret2
    exact ⟨rfl, rfl⟩

theorem followF_marks {s : List Int} {p : Nat} (h8 : p < 8) (h4 : 4 ≤ p) : followF s p = fig4 (bitB (nth s 0) (p - 4 : Nat)) (bitB (nth s 1) (p - 4 : Nat)) (bitB (nth s 2) (p - 4 : Nat)) (bitB (nth s 3) (p - 4 : Nat)) := by
  unfold followF
  rw [if_pos h8, figTo4]
  have e : ((p : Int) - 4) = ((p - 4 : Nat) : Int) := by omega
  rw [e]
/-- The marks of a daughter. -/
def dMark (s : List Int) (l k : Nat) : Int := markF (nth s k) l
def dMarkTo (s : List Int) (l k : Nat) : List Int := (List.range 4).map fun j => if j < k then dMark s l j else 0
theorem dMarkTo_len (s : List Int) (l k : Nat) : (dMarkTo s l k).length = 4 := by simp [dMarkTo]
theorem dMarkTo_succ (s : List Int) (l : Nat) {k : Nat} (hk : k < 4) : (dMarkTo s l k).set k (dMark s l k) = dMarkTo s l (k + 1) := by
  have e : k = 0 ∨ k = 1 ∨ k = 2 ∨ k = 3 := by omega
  rcases e with rfl | rfl | rfl | rfl <;> rfl
theorem dMark_mks (s : List Int) (l : Nat) : Mks (dMarkTo s l 4) := fun k hk => by
  have e : k = 0 ∨ k = 1 ∨ k = 2 ∨ k = 3 := by omega
  rcases e with rfl | rfl | rfl | rfl
  · exact markF_bd _ _
  · exact markF_bd _ _
  · exact markF_bd _ _
  · exact markF_bd _ _
theorem ofR_four : ∀ a b c d : Bool, ofR [if a = true then 1 else 2, if b = true then 1 else 2, if c = true then 1 else 2, if d = true then 1 else 2] = fig4 a b c d := by decide +kernel
theorem dMark_sum (s : List Int) (l : Nat) : ofR (dMarkTo s l 4) = fig4 (bitB (nth s 0) l) (bitB (nth s 1) l) (bitB (nth s 2) l) (bitB (nth s 3) l) :=
  ofR_four (bitB (nth s 0) l) (bitB (nth s 1) l) (bitB (nth s 2) l) (bitB (nth s 3) l)

set_option maxRecDepth 100000 in
set_option maxHeartbeats 4000000 in
theorem refFollows_high (s : List Int) (hs : Hid (s.length = 16)) (hf : Figs s) (p : Nat) (h8 : 8 ≤ p) (h16 : p < 16) (w : World) :
    Calls Tryd.prog 33 #[.agg (arr s), .int .i64 p] w fun e w' => e = .returned (.int .i64 (followF s p)) ∧ Below w.heap.size w w' := by
  have HM := Lib.hid (Blk.new w 24 (arr s))
  have hB0 : Below w.heap.size w (w.alloc (.cells (arr s) 24)) := (Below.refl _ _).alloc (Nat.le_refl _) _
  have E := Lib.hid (show followF s p = xorF (nth s (parA p)) (nth s (parB p)) by unfold followF; rw [if_neg (by omega)])
  obtain ⟨pa, pb⟩ := parAB_lt h8 h16
  have fa := hf _ pa
  have fb := hf _ pb
  go_enter Tryd.func33, Tryd.ntmps33
  go_wp2_with fail
  refine (refParents_any p h8 h16 _).mono ?_
  rintro e w' ⟨rfl, rfl⟩
  have ca : (w.alloc (.cells (arr s) 24)).cell? ⟨w.heap.size, parA p, none⟩ = some (.int .i64 (nth s (parA p))) := HM.out.chart hs.out _ pa
  have cb : (w.alloc (.cells (arr s) 24)).cell? ⟨w.heap.size, parB p, none⟩ = some (.int .i64 (nth s (parB p))) := HM.out.chart hs.out _ pb
  generalize hW : (w.alloc (.cells (arr s) 24)) = W at *
  clear hW HM
  have E2 := E.out
  generalize parA p = a at *
  generalize parB p = b at *
  have E3 := Lib.hid E2
  clear E E2
  have q1 : (a : Int) < 16 := by omega
  have q2 : (b : Int) < 16 := by omega
  have q3 : (0 : Int) ≤ (a : Int) := by omega
  have q4 : (0 : Int) ≤ (b : Int) := by omega
  go_wp2
  go_region_held3 (fun w' => w'.cell? ⟨w.heap.size, a, none⟩ = some (.int .i64 (nth s a)) ∧ w'.cell? ⟨w.heap.size, b, none⟩ = some (.int .i64 (nth s b)) ∧ Below W.heap.size W w')
    (first | exact ⟨ca, cb, (Below.refl _ _).drew⟩ | assumption | exact ⟨cell_tr hbk (by exact ca), cell_tr hbk (by exact cb), tr (Below.drew (Below.refl W.heap.size W)) hbk⟩)
    (first | (go_at_call 45; refine (refSum_any _ _ fa fb _).mono ?_; rintro e w' ⟨rfl, hbk⟩))
  rename_i hh
  obtain ⟨_, _, hbx⟩ := hh
  have hb5 := hB0.trans (hbx.mono hB0.size)
  clear hbk hbx ca cb
  go_wp2
  go_ret
  exact ⟨by rw [E3.out]; rfl, hb5⟩

set_option maxRecDepth 100000 in
set_option maxHeartbeats 4000000 in
theorem refFollows_low (s : List Int) (hs : Hid (s.length = 16)) (hf : Figs s) (p : Nat) (h4 : 4 ≤ p) (h8 : p < 8) (w : World) :
    Calls Tryd.prog 33 #[.agg (arr s), .int .i64 p] w fun e w' => e = .returned (.int .i64 (followF s p)) ∧ Below w.heap.size w w' := by
  have HM := Lib.hid (Blk.new w 24 (arr s))
  have hB0 : Below w.heap.size w (w.alloc (.cells (arr s) 24)) := (Below.refl _ _).alloc (Nat.le_refl _) _
  have E := Lib.hid (show followF s p = ofR (dMarkTo s (p - 4) 4) by rw [followF_marks h8 h4, dMark_sum])
  have Hf := Lib.hid hf
  have q1 : ((p : Int) - 4) = ((p - 4 : Nat) : Int) := by omega
  have Q1 := Lib.hid q1
  clear hf q1
  have HD := Lib.hid (show Blk ((w.alloc (.cells (arr s) 24)).alloc (.cells (arr [0, 0, 0, 0]) 109)) (w.heap.size + 1) 109 (arr (dMarkTo s (p - 4) 0)) from newAt (by simp))
  have HM1 := Lib.hid (show Blk ((w.alloc (.cells (arr s) 24)).alloc (.cells (arr [0, 0, 0, 0]) 109)) w.heap.size 24 (arr s) from HM.out.alloc _)
  have hB1 : Below w.heap.size w ((w.alloc (.cells (arr s) 24)).alloc (.cells (arr [0, 0, 0, 0]) 109)) := hB0.alloc (by simp) _
  go_enter Tryd.func33, Tryd.ntmps33
  go_wp2
  generalize hW : ((w.alloc (.cells (arr s) 24)).alloc (.cells (arr [0, 0, 0, 0]) 109)) = W at HD HM1 hB1
  rw [show ((w.alloc (.cells (arr s) 24)).alloc (.cells #[.int .i64 0, .int .i64 0, .int .i64 0, .int .i64 0] 109)) = W from hW]
  clear hW HM hB0
  have hzW : w.heap.size + 1 < W.heap.size := HD.out.lt
  go_loopw [8] (fun i wr => ∃ k : Nat, k ≤ 4 ∧ i = .int .i64 k ∧ Hid (Blk wr (w.heap.size + 1) 109 (arr (dMarkTo s (p - 4) k))) ∧ Below (w.heap.size + 1) W wr) (fun i _ => 4 - (intOf i).toNat)
  case atStart => exact ⟨0, by omega, rfl, HD, Below.refl _ _⟩
  case round =>
    obtain ⟨k, hk, rfl, HX, hB⟩ := hrel
    by_cases hlt : k < 4
    · have HM2 := Lib.hid (HM1.out.below hB (by omega))
      have hc : wr.cell? ⟨w.heap.size + 1, k, none⟩ = some (.int .i64 (nth (dMarkTo s (p - 4) k) k)) := by rw [HX.out.cell k, arr_get (by rw [dMarkTo_len]; exact hlt)]
      have hfz := HX.out.frozen k
      have hcs : wr.cell? ⟨w.heap.size, k, none⟩ = some (.int .i64 (nth s k)) := HM2.out.chart hs.out k (by omega)
      have H2 := Lib.hid (HX.out.set_ k (.int .i64 (dMark s (p - 4) k)))
      have HK := Lib.hid (dMarkTo_succ s (p - 4) hlt)
      go_wp2_with fail
      rw [Q1.out]
      refine (refLine_any _ (p - 4) (Hf.out k (by omega)) (by omega) _).mono ?_
      rintro e w' ⟨rfl, rfl⟩
      go_wp2
      go_roundw
      case rel => exact ⟨k + 1, by omega, by go_num, by have := H2.out; rw [arr_set, HK.out] at this; exact this, hB.setCell (by simp) _⟩
      case measure => simp [intOf]; omega
    · obtain rfl : k = 4 := by omega
      have hb4 := hB1.trans (hB.mono (by omega))
      have HI := Lib.hid (show (Tryd.prog.info? 109).map (·.size) = some (arr (dMarkTo s (p - 4) 4)).size by rw [arr_size, dMarkTo_len]; exact info_marks)
      clear hB hB1
      go_wp2_with (refine wpList_load_row rfl 109 (.tmp 7) rfl (w.heap.size + 1) rfl 109 (arr (dMarkTo s (p - 4) 4)) (0, 0) _ HX.out Tryd.underlying109 rfl HI.out ?_)
      refine (refOf_any (dMarkTo s (p - 4) 4) (Lib.hid (dMarkTo_len s (p - 4) 4)) (dMark_mks s (p - 4)) _).mono ?_
      rintro e w' ⟨rfl, rfl⟩
      go_wp2
      go_ret
      exact ⟨by rw [E.out]; rfl, hb4.alloc hb4.size _⟩
theorem refFollows_any (s : List Int) (hs : Hid (s.length = 16)) (hf : Figs s) (p : Nat) (h4 : 4 ≤ p) (h16 : p < 16) (w : World) :
    Calls Tryd.prog 33 #[.agg (arr s), .int .i64 p] w fun e w' => e = .returned (.int .i64 (followF s p)) ∧ Below w.heap.size w w' := by
  by_cases h8 : 8 ≤ p
  · exact refFollows_high s hs hf p h8 h16 w
  · exact refFollows_low s hs hf p h4 (by omega) w
end Go.Proofs.YtojlopfjhhiilaaDoor
