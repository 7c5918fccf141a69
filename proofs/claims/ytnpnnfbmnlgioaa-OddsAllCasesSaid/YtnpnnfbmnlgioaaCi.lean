/-
  What checkChances of package odds returns for whatever chances.
-/
import Derived.Test.YtnpnnfbmnlgioaaX
import Derived.Test.YtnpnnfbmnlgioaaY
namespace Go.Proofs.Ytnpnnfbmnlgioaa
open Go.RowKit
set_option linter.unusedVariables false
set_option linter.unusedSimpArgs false

set_option maxRecDepth 100000 in
set_option maxHeartbeats 4000000 in
theorem wrong_b1 (n d : Int) (w : World) (h1 : outB 1 1000000000000000 d = true) :
    Calls Try.prog 51 #[.agg #[.int .i64 n, .int .i64 d]] w fun e w' => e = .returned (.bool true) ∧ Below w.heap.size w w' := by
  have k0 : (w.alloc (.cells #[.int .i64 n, .int .i64 d] 23)).drew.cell? ⟨w.heap.size, 0, none⟩ = some (.int .i64 n) := by go_simp
  have k1 : (w.alloc (.cells #[.int .i64 n, .int .i64 d] 23)).drew.cell? ⟨w.heap.size, 1, none⟩ = some (.int .i64 d) := by go_simp
  have hB := (below1 w (.cells #[.int .i64 n, .int .i64 d] 23)).drew
  have H1 := Lib.hid h1
  clear h1
  go_enter Try.func51, Try.ntmps51
  go_wp2
  refine wp_region_held_drew (S := fun w' => w'.cell? ⟨w.heap.size, 0, none⟩ = some (.int .i64 n) ∧ w'.cell? ⟨w.heap.size, 1, none⟩ = some (.int .i64 d) ∧ Below w.heap.size w w') (by kernel_rfl) ⟨k0, k1, hB⟩ (fun hHeld => ?_)
  generalize (w.alloc (.cells #[.int .i64 n, .int .i64 d] 23)).drew = W at *
  refine wpAnyH_take (i := 1) (v := ?zv1) rfl (by kernel_rfl) (by kernel_rfl) (by kernel_rfl) (fun _ _ _ h => h) (Or.inl ⟨by rfl, ?zy1⟩) (by assumption) ?zr1
  case zy1 => (intro w hSw; (try dsimp only at hSw); go_simp; try with_reducible rfl)
  case' zr1 => (try simp only [Act.put, List.setIfInBounds_toArray, List.set_cons_zero, List.set_cons_succ, List.getElem_toArray, List.getElem_cons_succ, List.getElem_cons_zero])
  refine wpAnyH_take (i := 2) (v := ?zv2) rfl (by kernel_rfl) (by kernel_rfl) (by kernel_rfl) (fun _ _ _ h => h) (Or.inl ⟨by rfl, ?zy2⟩) (by assumption) ?zr2
  case zy2 => (intro w hSw; (try dsimp only at hSw); go_simp; try with_reducible rfl)
  case' zr2 => (try simp only [Act.put, List.setIfInBounds_toArray, List.set_cons_zero, List.set_cons_succ, List.getElem_toArray, List.getElem_cons_succ, List.getElem_cons_zero])
  refine wpAnyH_ready (rs := [0]) (by kernel_rfl) (by simp) (AllReadyH.cons rfl (fun K hK => ?_) AllReadyH.nil)
  go_simp
  (go_at_call 48; refine (outside_c _ _ _).mono ?_; rintro e w1 ⟨a1, b1, rfl, ha1, hb1, hbk1⟩)
  obtain ⟨k0, k1, hB⟩ : w1.cell? ⟨w.heap.size, 0, none⟩ = some (.int .i64 n) ∧ w1.cell? ⟨w.heap.size, 1, none⟩ = some (.int .i64 d) ∧ Below w.heap.size w w1 := ⟨cell_tr hbk1 k0, cell_tr hbk1 k1, tr hB hbk1⟩
  refine hK.out _ _ ⟨k0, k1, hB⟩ (fun hHeld => ?_)
  clear hK K
  (try simp only [Act.put, List.setIfInBounds_toArray, List.set_cons_zero, List.set_cons_succ, List.getElem_toArray, List.getElem_cons_succ, List.getElem_cons_zero])
  refine wpAnyH_ready (rs := [3]) (by kernel_rfl) (by simp) (AllReadyH.cons rfl (fun K hK => ?_) AllReadyH.nil)
  go_simp
  (go_at_call 66; refine (outside1_any _ _ _ _ _ _ ha1 hb1).mono ?_; rintro e w' ⟨rfl, rfl⟩; rw [H1.out])
  refine hK.out _ _ ⟨k0, k1, hB⟩ (fun hHeld => ?_)
  clear hK K
  (try simp only [Act.put, List.setIfInBounds_toArray, List.set_cons_zero, List.set_cons_succ, List.getElem_toArray, List.getElem_cons_succ, List.getElem_cons_zero])
  refine wpAnyH_take (i := 4) (v := .bool true) rfl (by kernel_rfl) (by kernel_rfl) (by kernel_rfl) (fun _ _ _ h => h) (Or.inl ⟨by rfl, fun w hSw => by go_simp⟩) (by assumption) ?_
  (try simp only [Act.put, List.setIfInBounds_toArray, List.set_cons_zero, List.set_cons_succ, List.getElem_toArray, List.getElem_cons_succ, List.getElem_cons_zero])
  refine wpAnyH_take (i := 5) (v := undef) rfl (by kernel_rfl) (by kernel_rfl) (by kernel_rfl) (fun _ _ _ h => h) (Or.inr ⟨by rfl, rfl⟩) (by assumption) ?_
  (try simp only [Act.put, List.setIfInBounds_toArray, List.set_cons_zero, List.set_cons_succ, List.getElem_toArray, List.getElem_cons_succ, List.getElem_cons_zero])
  refine wpAnyH_take (i := 6) (v := undef) rfl (by kernel_rfl) (by kernel_rfl) (by kernel_rfl) (fun _ _ _ h => h) (Or.inr ⟨by rfl, rfl⟩) (by assumption) ?_
  (try simp only [Act.put, List.setIfInBounds_toArray, List.set_cons_zero, List.set_cons_succ, List.getElem_toArray, List.getElem_cons_succ, List.getElem_cons_zero])
  refine wpAnyH_take (i := 7) (v := undef) rfl (by kernel_rfl) (by kernel_rfl) (by kernel_rfl) (fun _ _ _ h => h) (Or.inr ⟨by rfl, rfl⟩) (by assumption) ?_
  (try simp only [Act.put, List.setIfInBounds_toArray, List.set_cons_zero, List.set_cons_succ, List.getElem_toArray, List.getElem_cons_succ, List.getElem_cons_zero])
  refine wpAnyH_take (i := 8) (v := undef) rfl (by kernel_rfl) (by kernel_rfl) (by kernel_rfl) (fun _ _ _ h => h) (Or.inr ⟨by rfl, rfl⟩) (by assumption) ?_
  (try simp only [Act.put, List.setIfInBounds_toArray, List.set_cons_zero, List.set_cons_succ, List.getElem_toArray, List.getElem_cons_succ, List.getElem_cons_zero])
  refine wpAnyH_take (i := 9) (v := undef) rfl (by kernel_rfl) (by kernel_rfl) (by kernel_rfl) (fun _ _ _ h => h) (Or.inr ⟨by rfl, rfl⟩) (by assumption) ?_
  (try simp only [Act.put, List.setIfInBounds_toArray, List.set_cons_zero, List.set_cons_succ, List.getElem_toArray, List.getElem_cons_succ, List.getElem_cons_zero])
  refine wpAnyH_take (i := 10) (v := undef) rfl (by kernel_rfl) (by kernel_rfl) (by kernel_rfl) (fun _ _ _ h => h) (Or.inr ⟨by rfl, rfl⟩) (by assumption) ?_
  (try simp only [Act.put, List.setIfInBounds_toArray, List.set_cons_zero, List.set_cons_succ, List.getElem_toArray, List.getElem_cons_succ, List.getElem_cons_zero])
  refine wpAnyH_take (i := 11) (v := .bool true) rfl (by kernel_rfl) (by kernel_rfl) (by kernel_rfl) (fun _ _ _ h => h) (Or.inl ⟨by rfl, fun w hSw => by go_simp⟩) (by assumption) ?_
  (try simp only [Act.put, List.setIfInBounds_toArray, List.set_cons_zero, List.set_cons_succ, List.getElem_toArray, List.getElem_cons_succ, List.getElem_cons_zero])
  refine wpAnyH_take (i := 12) (v := .bool true) rfl (by kernel_rfl) (by kernel_rfl) (by kernel_rfl) (fun _ _ _ h => h) (Or.inl ⟨by rfl, fun w hSw => by go_simp⟩) (by assumption) ?_
  (try simp only [Act.put, List.setIfInBounds_toArray, List.set_cons_zero, List.set_cons_succ, List.getElem_toArray, List.getElem_cons_succ, List.getElem_cons_zero])
  refine wpAnyH_take (i := 13) (v := undef) rfl (by kernel_rfl) (by kernel_rfl) (by kernel_rfl) (fun _ _ _ h => h) (Or.inr ⟨by rfl, rfl⟩) (by assumption) ?_
  (try simp only [Act.put, List.setIfInBounds_toArray, List.set_cons_zero, List.set_cons_succ, List.getElem_toArray, List.getElem_cons_succ, List.getElem_cons_zero])
  refine wpAnyH_take (i := 14) (v := undef) rfl (by kernel_rfl) (by kernel_rfl) (by kernel_rfl) (fun _ _ _ h => h) (Or.inr ⟨by rfl, rfl⟩) (by assumption) ?_
  (try simp only [Act.put, List.setIfInBounds_toArray, List.set_cons_zero, List.set_cons_succ, List.getElem_toArray, List.getElem_cons_succ, List.getElem_cons_zero])
  refine wpAnyH_take (i := 15) (v := undef) rfl (by kernel_rfl) (by kernel_rfl) (by kernel_rfl) (fun _ _ _ h => h) (Or.inr ⟨by rfl, rfl⟩) (by assumption) ?_
  (try simp only [Act.put, List.setIfInBounds_toArray, List.set_cons_zero, List.set_cons_succ, List.getElem_toArray, List.getElem_cons_succ, List.getElem_cons_zero])
  refine wpAnyH_take (i := 16) (v := undef) rfl (by kernel_rfl) (by kernel_rfl) (by kernel_rfl) (fun _ _ _ h => h) (Or.inr ⟨by rfl, rfl⟩) (by assumption) ?_
  (try simp only [Act.put, List.setIfInBounds_toArray, List.set_cons_zero, List.set_cons_succ, List.getElem_toArray, List.getElem_cons_succ, List.getElem_cons_zero])
  refine wpAnyH_take (i := 17) (v := undef) rfl (by kernel_rfl) (by kernel_rfl) (by kernel_rfl) (fun _ _ _ h => h) (Or.inr ⟨by rfl, rfl⟩) (by assumption) ?_
  (try simp only [Act.put, List.setIfInBounds_toArray, List.set_cons_zero, List.set_cons_succ, List.getElem_toArray, List.getElem_cons_succ, List.getElem_cons_zero])
  refine wpAnyH_take (i := 18) (v := undef) rfl (by kernel_rfl) (by kernel_rfl) (by kernel_rfl) (fun _ _ _ h => h) (Or.inr ⟨by rfl, rfl⟩) (by assumption) ?_
  (try simp only [Act.put, List.setIfInBounds_toArray, List.set_cons_zero, List.set_cons_succ, List.getElem_toArray, List.getElem_cons_succ, List.getElem_cons_zero])
  refine wpAnyH_take (i := 19) (v := undef) rfl (by kernel_rfl) (by kernel_rfl) (by kernel_rfl) (fun _ _ _ h => h) (Or.inr ⟨by rfl, rfl⟩) (by assumption) ?_
  (try simp only [Act.put, List.setIfInBounds_toArray, List.set_cons_zero, List.set_cons_succ, List.getElem_toArray, List.getElem_cons_succ, List.getElem_cons_zero])
  refine wpAnyH_take (i := 20) (v := .bool true) rfl (by kernel_rfl) (by kernel_rfl) (by kernel_rfl) (fun _ _ _ h => h) (Or.inl ⟨by rfl, fun w hSw => by go_simp⟩) (by assumption) ?_
  (try simp only [Act.put, List.setIfInBounds_toArray, List.set_cons_zero, List.set_cons_succ, List.getElem_toArray, List.getElem_cons_succ, List.getElem_cons_zero])
  refine wpAnyH_take (i := 21) (v := .bool true) rfl (by kernel_rfl) (by kernel_rfl) (by kernel_rfl) (fun _ _ _ h => h) (Or.inl ⟨by rfl, fun w hSw => by go_simp⟩) (by assumption) ?_
  (try simp only [Act.put, List.setIfInBounds_toArray, List.set_cons_zero, List.set_cons_succ, List.getElem_toArray, List.getElem_cons_succ, List.getElem_cons_zero])
  refine wpAnyH_done (by kernel_rfl) ?_ _
  go_wp2
  go_ret
  exact ⟨rfl, hB⟩

set_option maxRecDepth 100000 in
set_option maxHeartbeats 4000000 in
theorem wrong_b2 (n d : Int) (w : World) (h1 : outB 1 1000000000000000 d = false) (h2 : outB 0 d n = true) :
    Calls Try.prog 51 #[.agg #[.int .i64 n, .int .i64 d]] w fun e w' => e = .returned (.bool true) ∧ Below w.heap.size w w' := by
  have k0 : (w.alloc (.cells #[.int .i64 n, .int .i64 d] 23)).drew.cell? ⟨w.heap.size, 0, none⟩ = some (.int .i64 n) := by go_simp
  have k1 : (w.alloc (.cells #[.int .i64 n, .int .i64 d] 23)).drew.cell? ⟨w.heap.size, 1, none⟩ = some (.int .i64 d) := by go_simp
  have hB := (below1 w (.cells #[.int .i64 n, .int .i64 d] 23)).drew
  have H1 := Lib.hid h1
  have H2 := Lib.hid h2
  clear h1 h2
  go_enter Try.func51, Try.ntmps51
  go_wp2
  refine wp_region_held_drew (S := fun w' => w'.cell? ⟨w.heap.size, 0, none⟩ = some (.int .i64 n) ∧ w'.cell? ⟨w.heap.size, 1, none⟩ = some (.int .i64 d) ∧ Below w.heap.size w w') (by kernel_rfl) ⟨k0, k1, hB⟩ (fun hHeld => ?_)
  generalize (w.alloc (.cells #[.int .i64 n, .int .i64 d] 23)).drew = W at *
  refine wpAnyH_take (i := 1) (v := ?zv3) rfl (by kernel_rfl) (by kernel_rfl) (by kernel_rfl) (fun _ _ _ h => h) (Or.inl ⟨by rfl, ?zy3⟩) (by assumption) ?zr3
  case zy3 => (intro w hSw; (try dsimp only at hSw); go_simp; try with_reducible rfl)
  case' zr3 => (try simp only [Act.put, List.setIfInBounds_toArray, List.set_cons_zero, List.set_cons_succ, List.getElem_toArray, List.getElem_cons_succ, List.getElem_cons_zero])
  refine wpAnyH_take (i := 2) (v := ?zv4) rfl (by kernel_rfl) (by kernel_rfl) (by kernel_rfl) (fun _ _ _ h => h) (Or.inl ⟨by rfl, ?zy4⟩) (by assumption) ?zr4
  case zy4 => (intro w hSw; (try dsimp only at hSw); go_simp; try with_reducible rfl)
  case' zr4 => (try simp only [Act.put, List.setIfInBounds_toArray, List.set_cons_zero, List.set_cons_succ, List.getElem_toArray, List.getElem_cons_succ, List.getElem_cons_zero])
  refine wpAnyH_ready (rs := [0]) (by kernel_rfl) (by simp) (AllReadyH.cons rfl (fun K hK => ?_) AllReadyH.nil)
  go_simp
  (go_at_call 48; refine (outside_c _ _ _).mono ?_; rintro e w1 ⟨a1, b1, rfl, ha1, hb1, hbk1⟩)
  obtain ⟨k0, k1, hB⟩ : w1.cell? ⟨w.heap.size, 0, none⟩ = some (.int .i64 n) ∧ w1.cell? ⟨w.heap.size, 1, none⟩ = some (.int .i64 d) ∧ Below w.heap.size w w1 := ⟨cell_tr hbk1 k0, cell_tr hbk1 k1, tr hB hbk1⟩
  refine hK.out _ _ ⟨k0, k1, hB⟩ (fun hHeld => ?_)
  clear hK K
  (try simp only [Act.put, List.setIfInBounds_toArray, List.set_cons_zero, List.set_cons_succ, List.getElem_toArray, List.getElem_cons_succ, List.getElem_cons_zero])
  refine wpAnyH_ready (rs := [3]) (by kernel_rfl) (by simp) (AllReadyH.cons rfl (fun K hK => ?_) AllReadyH.nil)
  go_simp
  (go_at_call 66; refine (outside1_any _ _ _ _ _ _ ha1 hb1).mono ?_; rintro e w' ⟨rfl, rfl⟩; rw [H1.out])
  refine hK.out _ _ ⟨k0, k1, hB⟩ (fun hHeld => ?_)
  clear hK K
  (try simp only [Act.put, List.setIfInBounds_toArray, List.set_cons_zero, List.set_cons_succ, List.getElem_toArray, List.getElem_cons_succ, List.getElem_cons_zero])
  refine wpAnyH_take (i := 4) (v := .bool false) rfl (by kernel_rfl) (by kernel_rfl) (by kernel_rfl) (fun _ _ _ h => h) (Or.inl ⟨by rfl, fun w hSw => by go_simp⟩) (by assumption) ?_
  (try simp only [Act.put, List.setIfInBounds_toArray, List.set_cons_zero, List.set_cons_succ, List.getElem_toArray, List.getElem_cons_succ, List.getElem_cons_zero])
  refine wpAnyH_take (i := 5) (v := ?zv5) rfl (by kernel_rfl) (by kernel_rfl) (by kernel_rfl) (fun _ _ _ h => h) (Or.inl ⟨by rfl, ?zy5⟩) (by assumption) ?zr5
  case zy5 => (intro w hSw; (try dsimp only at hSw); go_simp; try with_reducible rfl)
  case' zr5 => (try simp only [Act.put, List.setIfInBounds_toArray, List.set_cons_zero, List.set_cons_succ, List.getElem_toArray, List.getElem_cons_succ, List.getElem_cons_zero])
  refine wpAnyH_take (i := 8) (v := ?zv6) rfl (by kernel_rfl) (by kernel_rfl) (by kernel_rfl) (fun _ _ _ h => h) (Or.inl ⟨by rfl, ?zy6⟩) (by assumption) ?zr6
  case zy6 => (intro w hSw; (try dsimp only at hSw); go_simp; try with_reducible rfl)
  case' zr6 => (try simp only [Act.put, List.setIfInBounds_toArray, List.set_cons_zero, List.set_cons_succ, List.getElem_toArray, List.getElem_cons_succ, List.getElem_cons_zero])
  refine wpAnyH_take (i := 6) (v := ?zv7) rfl (by kernel_rfl) (by kernel_rfl) (by kernel_rfl) (fun _ _ _ h => h) (Or.inl ⟨by rfl, ?zy7⟩) (by assumption) ?zr7
  case zy7 => (intro w hSw; (try dsimp only at hSw); go_simp; try with_reducible rfl)
  case' zr7 => (try simp only [Act.put, List.setIfInBounds_toArray, List.set_cons_zero, List.set_cons_succ, List.getElem_toArray, List.getElem_cons_succ, List.getElem_cons_zero])
  refine wpAnyH_take (i := 9) (v := ?zv8) rfl (by kernel_rfl) (by kernel_rfl) (by kernel_rfl) (fun _ _ _ h => h) (Or.inl ⟨by rfl, ?zy8⟩) (by assumption) ?zr8
  case zy8 => (intro w hSw; (try dsimp only at hSw); go_simp; try with_reducible rfl)
  case' zr8 => (try simp only [Act.put, List.setIfInBounds_toArray, List.set_cons_zero, List.set_cons_succ, List.getElem_toArray, List.getElem_cons_succ, List.getElem_cons_zero])
  refine wpAnyH_ready (rs := [7]) (by kernel_rfl) (by simp) (AllReadyH.cons rfl (fun K hK => ?_) AllReadyH.nil)
  go_simp
  (go_at_call 48; refine (outside_c _ _ _).mono ?_; rintro e w2 ⟨a2, b2, rfl, ha2, hb2, hbk2⟩)
  obtain ⟨k0, k1, hB⟩ : w2.cell? ⟨w.heap.size, 0, none⟩ = some (.int .i64 n) ∧ w2.cell? ⟨w.heap.size, 1, none⟩ = some (.int .i64 d) ∧ Below w.heap.size w w2 := ⟨cell_tr hbk2 k0, cell_tr hbk2 k1, tr hB hbk2⟩
  refine hK.out _ _ ⟨k0, k1, hB⟩ (fun hHeld => ?_)
  clear hK K
  (try simp only [Act.put, List.setIfInBounds_toArray, List.set_cons_zero, List.set_cons_succ, List.getElem_toArray, List.getElem_cons_succ, List.getElem_cons_zero])
  refine wpAnyH_ready (rs := [10]) (by kernel_rfl) (by simp) (AllReadyH.cons rfl (fun K hK => ?_) AllReadyH.nil)
  go_simp
  (go_at_call 66; refine (outside1_any _ _ _ _ _ _ ha2 hb2).mono ?_; rintro e w' ⟨rfl, rfl⟩; rw [H2.out])
  refine hK.out _ _ ⟨k0, k1, hB⟩ (fun hHeld => ?_)
  clear hK K
  (try simp only [Act.put, List.setIfInBounds_toArray, List.set_cons_zero, List.set_cons_succ, List.getElem_toArray, List.getElem_cons_succ, List.getElem_cons_zero])
  refine wpAnyH_take (i := 11) (v := .bool true) rfl (by kernel_rfl) (by kernel_rfl) (by kernel_rfl) (fun _ _ _ h => h) (Or.inl ⟨by rfl, fun w hSw => by go_simp⟩) (by assumption) ?_
  (try simp only [Act.put, List.setIfInBounds_toArray, List.set_cons_zero, List.set_cons_succ, List.getElem_toArray, List.getElem_cons_succ, List.getElem_cons_zero])
  refine wpAnyH_take (i := 12) (v := .bool true) rfl (by kernel_rfl) (by kernel_rfl) (by kernel_rfl) (fun _ _ _ h => h) (Or.inl ⟨by rfl, fun w hSw => by go_simp⟩) (by assumption) ?_
  (try simp only [Act.put, List.setIfInBounds_toArray, List.set_cons_zero, List.set_cons_succ, List.getElem_toArray, List.getElem_cons_succ, List.getElem_cons_zero])
  refine wpAnyH_take (i := 13) (v := undef) rfl (by kernel_rfl) (by kernel_rfl) (by kernel_rfl) (fun _ _ _ h => h) (Or.inr ⟨by rfl, rfl⟩) (by assumption) ?_
  (try simp only [Act.put, List.setIfInBounds_toArray, List.set_cons_zero, List.set_cons_succ, List.getElem_toArray, List.getElem_cons_succ, List.getElem_cons_zero])
  refine wpAnyH_take (i := 14) (v := undef) rfl (by kernel_rfl) (by kernel_rfl) (by kernel_rfl) (fun _ _ _ h => h) (Or.inr ⟨by rfl, rfl⟩) (by assumption) ?_
  (try simp only [Act.put, List.setIfInBounds_toArray, List.set_cons_zero, List.set_cons_succ, List.getElem_toArray, List.getElem_cons_succ, List.getElem_cons_zero])
  refine wpAnyH_take (i := 15) (v := undef) rfl (by kernel_rfl) (by kernel_rfl) (by kernel_rfl) (fun _ _ _ h => h) (Or.inr ⟨by rfl, rfl⟩) (by assumption) ?_
  (try simp only [Act.put, List.setIfInBounds_toArray, List.set_cons_zero, List.set_cons_succ, List.getElem_toArray, List.getElem_cons_succ, List.getElem_cons_zero])
  refine wpAnyH_take (i := 16) (v := undef) rfl (by kernel_rfl) (by kernel_rfl) (by kernel_rfl) (fun _ _ _ h => h) (Or.inr ⟨by rfl, rfl⟩) (by assumption) ?_
  (try simp only [Act.put, List.setIfInBounds_toArray, List.set_cons_zero, List.set_cons_succ, List.getElem_toArray, List.getElem_cons_succ, List.getElem_cons_zero])
  refine wpAnyH_take (i := 17) (v := undef) rfl (by kernel_rfl) (by kernel_rfl) (by kernel_rfl) (fun _ _ _ h => h) (Or.inr ⟨by rfl, rfl⟩) (by assumption) ?_
  (try simp only [Act.put, List.setIfInBounds_toArray, List.set_cons_zero, List.set_cons_succ, List.getElem_toArray, List.getElem_cons_succ, List.getElem_cons_zero])
  refine wpAnyH_take (i := 18) (v := undef) rfl (by kernel_rfl) (by kernel_rfl) (by kernel_rfl) (fun _ _ _ h => h) (Or.inr ⟨by rfl, rfl⟩) (by assumption) ?_
  (try simp only [Act.put, List.setIfInBounds_toArray, List.set_cons_zero, List.set_cons_succ, List.getElem_toArray, List.getElem_cons_succ, List.getElem_cons_zero])
  refine wpAnyH_take (i := 19) (v := undef) rfl (by kernel_rfl) (by kernel_rfl) (by kernel_rfl) (fun _ _ _ h => h) (Or.inr ⟨by rfl, rfl⟩) (by assumption) ?_
  (try simp only [Act.put, List.setIfInBounds_toArray, List.set_cons_zero, List.set_cons_succ, List.getElem_toArray, List.getElem_cons_succ, List.getElem_cons_zero])
  refine wpAnyH_take (i := 20) (v := .bool true) rfl (by kernel_rfl) (by kernel_rfl) (by kernel_rfl) (fun _ _ _ h => h) (Or.inl ⟨by rfl, fun w hSw => by go_simp⟩) (by assumption) ?_
  (try simp only [Act.put, List.setIfInBounds_toArray, List.set_cons_zero, List.set_cons_succ, List.getElem_toArray, List.getElem_cons_succ, List.getElem_cons_zero])
  refine wpAnyH_take (i := 21) (v := .bool true) rfl (by kernel_rfl) (by kernel_rfl) (by kernel_rfl) (fun _ _ _ h => h) (Or.inl ⟨by rfl, fun w hSw => by go_simp⟩) (by assumption) ?_
  (try simp only [Act.put, List.setIfInBounds_toArray, List.set_cons_zero, List.set_cons_succ, List.getElem_toArray, List.getElem_cons_succ, List.getElem_cons_zero])
  refine wpAnyH_done (by kernel_rfl) ?_ _
  go_wp2
  go_ret
  exact ⟨rfl, hB⟩

set_option maxRecDepth 100000 in
set_option maxHeartbeats 4000000 in
theorem wrong_b3 (n d : Int) (w : World) (d1 : 1 ≤ d) (d2 : d ≤ 1000000000000000) (n1 : 0 ≤ n) (n2 : n ≤ d) (h3 : decide ((1 : Int) < (Int.gcd n d : Int)) = true) :
    Calls Try.prog 51 #[.agg #[.int .i64 n, .int .i64 d]] w fun e w' => e = .returned (.bool true) ∧ Below w.heap.size w w' := by
  have k0 : (w.alloc (.cells #[.int .i64 n, .int .i64 d] 23)).cell? ⟨w.heap.size, 0, none⟩ = some (.int .i64 n) := by go_simp
  have k1 : (w.alloc (.cells #[.int .i64 n, .int .i64 d] 23)).cell? ⟨w.heap.size, 1, none⟩ = some (.int .i64 d) := by go_simp
  have hB := below1 w (.cells #[.int .i64 n, .int .i64 d] 23)
  have h1 : outB 1 1000000000000000 d = false := by simp [outB]; omega
  have h2 : outB 0 d n = false := by simp [outB]; omega
  have H1 := Lib.hid h1
  have H2 := Lib.hid h2
  have H3 := Lib.hid h3
  clear h1 h2 h3
  go_enter Try.func51, Try.ntmps51
  go_wp2
  generalize (w.alloc (.cells #[.int .i64 n, .int .i64 d] 23)) = W at *
  go_region_held3 (fun w' => w'.cell? ⟨w.heap.size, 0, none⟩ = some (.int .i64 n) ∧ w'.cell? ⟨w.heap.size, 1, none⟩ = some (.int .i64 d) ∧ Below w.heap.size w w')
    (first | exact ⟨k0, k1, hB.drew⟩ | assumption | (go_split_ands; first | exact ⟨by assumption, by assumption, by assumption⟩ | exact ⟨cell_tr hbk (by assumption), cell_tr hbk (by assumption), tr (by assumption) hbk⟩ | exact ⟨cell_tr hbk (by assumption), cell_tr hbk (by assumption), tr hB.drew hbk⟩ | exact ⟨cell_tr (below1 _ _) (by assumption), cell_tr (below1 _ _) (by assumption), tr (by assumption) (below1 _ _)⟩))
    (first
      | (go_at_call 48; refine (outside_c _ _ _).mono ?_; rintro e w' ⟨a, b, rfl, ha, hb, hbk⟩)
      | (go_at_call 66; refine (outside1_any _ _ _ _ _ _ (by assumption) (by assumption)).mono ?_; rintro e w' ⟨rfl, rfl⟩; first | rw [H1.out] | rw [H2.out])
      | (go_at_call 27; refine (divisor2 n d _ _ n1 (by omega) (by go_simp) (by go_simp)).mono ?_; rintro e w' ⟨rfl, hbk⟩))
  rename_i hh
  obtain ⟨_, _, hBf⟩ := hh
  rw [H3.out]
  go_wp2
  go_ret
  exact ⟨rfl, hBf⟩

theorem wrong_any (n d : Int) (w : World) :
    Calls Try.prog 51 #[.agg #[.int .i64 n, .int .i64 d]] w fun e w' => e = .returned (.bool (badC n d)) ∧ Below w.heap.size w w' := by
  by_cases h : badC n d = true
  · rw [h]
    by_cases h1 : outB 1 1000000000000000 d = true
    · exact wrong_b1 n d w h1
    · have h1' : outB 1 1000000000000000 d = false := by simpa using h1
      by_cases h2 : outB 0 d n = true
      · exact wrong_b2 n d w h1' h2
      · have h2' : outB 0 d n = false := by simpa using h2
        have h3 : decide ((1 : Int) < (Int.gcd n d : Int)) = true := by
          unfold badC at h
          rw [h1', h2'] at h
          simpa using h
        have q1 : 1 ≤ d ∧ d ≤ 1000000000000000 := by simp [outB] at h1'; omega
        have q2 : 0 ≤ n ∧ n ≤ d := by simp [outB] at h2'; omega
        exact wrong_b3 n d w q1.1 q1.2 q2.1 q2.2 h3
  · have h' : badC n d = false := by simpa using h
    rw [h']; exact wrong_ok n d w h'

/-- Whether one of the chances is not valid. -/
def anyC (cs : List (Int × Int)) : Bool := cs.any fun c => badC c.1 c.2
theorem anyC_false {cs : List (Int × Int)} (h : ∀ i, i < cs.length → badC (nthC cs i).1 (nthC cs i).2 = false) : anyC cs = false := by
  unfold anyC
  rw [List.any_eq_false]
  intro c hc
  obtain ⟨i, hi, rfl⟩ := List.getElem_of_mem hc
  have := h i hi
  simp [nthC, hi] at this
  simp [this]
theorem anyC_true {cs : List (Int × Int)} {i : Nat} (hi : i < cs.length) (h : badC (nthC cs i).1 (nthC cs i).2 = true) : anyC cs = true := by
  unfold anyC
  rw [List.any_eq_true]
  refine ⟨cs[i], List.getElem_mem _, ?_⟩
  simpa [nthC, hi] using h

set_option maxHeartbeats 1000000 in
theorem indexFunc_any (q : Nat) (cs : List (Int × Int)) (c : Nat) (w : World) (hl : cs.length ≤ 1000000) (hc : ∀ k, k < cs.length → w.cell? ⟨q, k * 2, none⟩ = some (.int .i64 (nthC cs k).1) ∧ w.cell? ⟨q, k * 2 + 1, none⟩ = some (.int .i64 (nthC cs k).2)) :
    Calls Try.prog 69 #[.slice (some ⟨q, 0, none⟩) cs.length c, .func (.func 51) #[] #[]] w fun e w' => (∃ r : Int, e = .returned (.int .i64 r) ∧ decide (0 ≤ r) = anyC cs) ∧ Below w.heap.size w w' := by
  have Hc := Lib.hid hc
  clear hc
  go_enter Try.func69, Try.ntmps69
  go_wp2
  go_loopw [8] (fun i wr => ∃ k : Nat, k ≤ cs.length ∧ i = .int .i64 k ∧ Hid (∀ i, i < k → badC (nthC cs i).1 (nthC cs i).2 = false) ∧ Below w.heap.size w wr) (fun i _ => cs.length - (intOf i).toNat)
  case atStart => exact ⟨0, Nat.zero_le _, rfl, fun i hi => by omega, Below.refl _ _⟩
  case round =>
    obtain ⟨k, hk, rfl, HN, hb⟩ := hrel
    by_cases hlt : k < cs.length
    · obtain ⟨c0, c1⟩ := Hc.out k hlt
      have d0 := cell_tr hb c0
      have d1 := cell_tr hb c1
      have HT : Hid (badC (nthC cs k).1 (nthC cs k).2 = true → anyC cs = true) := fun h => anyC_true hlt h
      have HF : Hid (badC (nthC cs k).1 (nthC cs k).2 = false → ∀ i, i < k + 1 → badC (nthC cs i).1 (nthC cs i).2 = false) := fun h i hi => by
        by_cases e : i = k
        · subst e; exact h
        · exact HN.out i (by omega)
      obtain ⟨n, hn⟩ : ∃ n, (nthC cs k).1 = n := ⟨_, rfl⟩
      obtain ⟨d, hd⟩ : ∃ d, (nthC cs k).2 = d := ⟨_, rfl⟩
      rw [hn] at d0 HT HF
      rw [hd] at d1 HT HF
      have hW := fun w => wrong_any n d w
      clear c0 c1 hn hd
      by_cases hbad : badC n d = true
      · rw [hbad] at hW
        have HA := Lib.hid (HT.out hbad)
        clear HT HF hbad
        go_wp2_with fail
        go_call (hW _) as e w1 ⟨rfl, hb1⟩
        go_wp2
        go_ret
        refine ⟨⟨(k : Int), rfl, ?_⟩, hb.trans (hb1.mono hb.size)⟩
        rw [HA.out]; simp
      · have hbad' : badC n d = false := by simpa using hbad
        rw [hbad'] at hW
        have HA := Lib.hid (HF.out hbad')
        clear HT HF hbad hbad'
        go_wp2_with fail
        go_call (hW _) as e w1 ⟨rfl, hb1⟩
        go_wp2
        go_roundw
        case rel => exact ⟨k + 1, by omega, by go_num, HA, hb.trans (hb1.mono hb.size)⟩
        case measure => simp [intOf]; omega
    · obtain rfl : k = cs.length := by omega
      have HA : Hid (anyC cs = false) := anyC_false HN.out
      clear HN
      go_wp2
      go_ret
      exact ⟨⟨-1, rfl, by rw [HA.out]; rfl⟩, hb⟩

set_option maxHeartbeats 400000 in
theorem checkChances_any (q : Nat) (cs : List (Int × Int)) (c : Nat) (w : World) (hl : cs.length ≤ 1000000) (hc : ∀ k, k < cs.length → w.cell? ⟨q, k * 2, none⟩ = some (.int .i64 (nthC cs k).1) ∧ w.cell? ⟨q, k * 2 + 1, none⟩ = some (.int .i64 (nthC cs k).2)) (h : anyC cs = true) :
    Calls Try.prog 22 #[.slice (some ⟨q, 0, none⟩) cs.length c] w fun e w' => e = .returned (.int .i64 2) ∧ Below w.heap.size w w' := by
  have hI := indexFunc_any q cs c w hl hc
  rw [h] at hI
  have hC : Calls Try.prog 52 #[.slice (some ⟨q, 0, none⟩) cs.length c, .func (.func 51) #[] #[]] w fun e w' => e = .returned (.bool true) ∧ Below w.heap.size w w' := by
    clear hc h
    go_enter Try.func52, Try.ntmps52
    go_wp2_with fail
    refine hI.mono ?_
    rintro e w' ⟨⟨r, rfl, hr⟩, hb⟩
    have hr' : 0 ≤ r := by simpa using hr
    clear hr
    go_wp2
    go_ret
    exact ⟨rfl, hb⟩
  clear hI hc h
  go_enter Try.func22, Try.ntmps22
  go_wp2_with fail
  refine hC.mono ?_
  rintro e w' ⟨rfl, hb⟩
  go_wp2
  go_ret
  exact ⟨rfl, hb⟩

/-- Two chances in new memory, one of which is not valid. -/
theorem chances2_bad (q : Nat) (an ad bn bd : Int) (w : World) (h0 : w.cell? ⟨q, 0, none⟩ = some (.int .i64 an)) (h1 : w.cell? ⟨q, 1, none⟩ = some (.int .i64 ad)) (h2 : w.cell? ⟨q, 2, none⟩ = some (.int .i64 bn)) (h3 : w.cell? ⟨q, 3, none⟩ = some (.int .i64 bd)) (h : badC an ad = true ∨ badC bn bd = true) :
    Calls Try.prog 22 #[.slice (some ⟨q, 0, none⟩) 2 2] w fun e w' => e = .returned (.int .i64 2) ∧ Below w.heap.size w w' :=
  checkChances_any q [(an, ad), (bn, bd)] 2 w (by simp) (fun k hk => by
    rcases k with _ | _ | k
    · exact ⟨h0, h1⟩
    · exact ⟨h2, h3⟩
    · simp at hk; omega) (by simpa [anyC] using h)
/-- One chance in new memory. -/
theorem chances1_bad (q : Nat) (an ad : Int) (w : World) (h0 : w.cell? ⟨q, 0, none⟩ = some (.int .i64 an)) (h1 : w.cell? ⟨q, 1, none⟩ = some (.int .i64 ad)) (h : badC an ad = true) :
    Calls Try.prog 22 #[.slice (some ⟨q, 0, none⟩) 1 1] w fun e w' => e = .returned (.int .i64 2) ∧ Below w.heap.size w w' :=
  checkChances_any q [(an, ad)] 1 w (by simp) (fun k hk => by
    rcases k with _ | k
    · exact ⟨h0, h1⟩
    · simp at hk) (by simpa [anyC] using h)
theorem chances1 (q : Nat) (an ad : Int) (w : World) (h0 : w.cell? ⟨q, 0, none⟩ = some (.int .i64 an)) (h1 : w.cell? ⟨q, 1, none⟩ = some (.int .i64 ad)) (ha : badC an ad = false) :
    Calls Try.prog 22 #[.slice (some ⟨q, 0, none⟩) 1 1] w fun e w' => e = .returned (.int .i64 0) ∧ Below w.heap.size w w' :=
  checkChances_ok q [(an, ad)] 1 w (by simp) (fun k hk => by
    rcases k with _ | k
    · exact ⟨h0, h1⟩
    · simp at hk) (fun k hk => by
    rcases k with _ | k
    · exact ha
    · simp at hk)
end Go.Proofs.Ytnpnnfbmnlgioaa
