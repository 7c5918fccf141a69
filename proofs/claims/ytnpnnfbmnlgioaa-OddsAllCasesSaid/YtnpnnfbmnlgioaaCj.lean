/-
  What Compare and Not of package odds return for every two chances, and Both and Either where one is not valid.
-/
import Derived.Test.YtnpnnfbmnlgioaaCi
import Derived.Test.YtnpnnfbmnlgioaaCh
namespace Go.Proofs.Ytnpnnfbmnlgioaa
open Go.RowKit
set_option linter.unusedVariables false

set_option maxRecDepth 100000 in
set_option maxHeartbeats 4000000 in
theorem compare_bad (an ad bn bd : Int) (w : World) (h : badC an ad = true ∨ badC bn bd = true) :
    Calls Try.prog 6 #[.agg #[.int .i64 an, .int .i64 ad], .agg #[.int .i64 bn, .int .i64 bd]] w fun e w' => e = .returned (.tuple #[.int .i64 0, .int .i64 2]) ∧ Below w.heap.size w w' := by
  have H := Lib.hid h
  clear h
  go_enter Try.func6, Try.ntmps6
  go_wp2_with fail
  go_call (chances2_bad (w.heap.size + 1 + 1) an ad bn bd _ (by go_simp) (by go_simp) (by go_simp) (by go_simp) H.out) as e w1 ⟨rfl, hb1⟩
  have hB1 : Below w.heap.size w w1 := (((below1 _ _).alloc (by simp) _).alloc (by simp; omega) _).trans (hb1.mono (by simp; omega))
  go_wp2
  go_returns
  exact ⟨rfl, hB1⟩

set_option maxRecDepth 100000 in
set_option maxHeartbeats 4000000 in
theorem both_bad (an ad bn bd : Int) (w : World) (h : badC an ad = true ∨ badC bn bd = true) :
    Calls Try.prog 7 #[.agg #[.int .i64 an, .int .i64 ad], .agg #[.int .i64 bn, .int .i64 bd]] w fun e w' => e = .returned (.tuple #[.agg #[.int .i64 0, .int .i64 0], .int .i64 2]) ∧ Below w.heap.size w w' := by
  have H := Lib.hid h
  clear h
  go_enter Try.func7, Try.ntmps7
  go_wp2_with fail
  go_call (chances2_bad (w.heap.size + 1 + 1 + 1) an ad bn bd _ (by go_simp) (by go_simp) (by go_simp) (by go_simp) H.out) as e w1 ⟨rfl, hb1⟩
  have hB1 : Below w.heap.size w w1 := ((((below1 _ _).alloc (by simp) _).alloc (by simp; omega) _).alloc (by simp; omega) _).trans (hb1.mono (by simp; omega))
  have kr0 : w1.cell? ⟨w.heap.size + 1 + 1, 0, none⟩ = some (.int .i64 0) := cell_tr hb1 (by go_simp)
  have kr1 : w1.cell? ⟨w.heap.size + 1 + 1, 1, none⟩ = some (.int .i64 0) := cell_tr hb1 (by go_simp)
  have fr0 : w1.frozen? ⟨w.heap.size + 1 + 1, 0, none⟩ = false := free_tr hb1 (v := .int .i64 0) (by go_simp) (by go_simp)
  have fr1 : w1.frozen? ⟨w.heap.size + 1 + 1, 1, none⟩ = false := free_tr hb1 (v := .int .i64 0) (by go_simp) (by go_simp)
  clear hb1
  go_wp2
  have r0 := put0 (.int .i64 0) kr0
  have r1 := put1 (.int .i64 0) (.int .i64 0) kr1
  refine bodyPost_ret (v := .tuple #[.agg #[.int .i64 0, .int .i64 0], .int .i64 2]) (by simp [results, Try.results7, go_sem, r0, r1]) rfl ⟨rfl, ?_⟩
  exact (hB1.setCell (p := ⟨w.heap.size + 1 + 1, 0, none⟩) (by simp; omega) _).setCell (p := ⟨w.heap.size + 1 + 1, 1, none⟩) (by simp; omega) _

set_option maxRecDepth 100000 in
set_option maxHeartbeats 4000000 in
theorem either_bad (an ad bn bd : Int) (w : World) (h : badC an ad = true ∨ badC bn bd = true) :
    Calls Try.prog 9 #[.agg #[.int .i64 an, .int .i64 ad], .agg #[.int .i64 bn, .int .i64 bd]] w fun e w' => e = .returned (.tuple #[.agg #[.int .i64 0, .int .i64 0], .int .i64 2]) ∧ Below w.heap.size w w' := by
  have H := Lib.hid h
  clear h
  go_enter Try.func9, Try.ntmps9
  go_wp2_with fail
  go_call (chances2_bad (w.heap.size + 1 + 1 + 1) an ad bn bd _ (by go_simp) (by go_simp) (by go_simp) (by go_simp) H.out) as e w1 ⟨rfl, hb1⟩
  have hB1 : Below w.heap.size w w1 := ((((below1 _ _).alloc (by simp) _).alloc (by simp; omega) _).alloc (by simp; omega) _).trans (hb1.mono (by simp; omega))
  have kr0 : w1.cell? ⟨w.heap.size + 1 + 1, 0, none⟩ = some (.int .i64 0) := cell_tr hb1 (by go_simp)
  have kr1 : w1.cell? ⟨w.heap.size + 1 + 1, 1, none⟩ = some (.int .i64 0) := cell_tr hb1 (by go_simp)
  have fr0 : w1.frozen? ⟨w.heap.size + 1 + 1, 0, none⟩ = false := free_tr hb1 (v := .int .i64 0) (by go_simp) (by go_simp)
  have fr1 : w1.frozen? ⟨w.heap.size + 1 + 1, 1, none⟩ = false := free_tr hb1 (v := .int .i64 0) (by go_simp) (by go_simp)
  clear hb1
  go_wp2
  have r0 := put0 (.int .i64 0) kr0
  have r1 := put1 (.int .i64 0) (.int .i64 0) kr1
  refine bodyPost_ret (v := .tuple #[.agg #[.int .i64 0, .int .i64 0], .int .i64 2]) (by simp [results, Try.results9, go_sem, r0, r1]) rfl ⟨rfl, ?_⟩
  exact (hB1.setCell (p := ⟨w.heap.size + 1 + 1, 0, none⟩) (by simp; omega) _).setCell (p := ⟨w.heap.size + 1 + 1, 1, none⟩) (by simp; omega) _

set_option maxRecDepth 100000 in
set_option maxHeartbeats 4000000 in
theorem not_any (n d : Int) (w : World) :
    Calls Try.prog 8 #[.agg #[.int .i64 n, .int .i64 d]] w fun e w' => e = .returned (.tuple #[.agg #[.int .i64 (if badC n d = true then 0 else d - n), .int .i64 (if badC n d = true then 0 else d)], .int .i64 (if badC n d = true then 2 else 0)]) ∧ Below w.heap.size w w' := by
  by_cases h : badC n d = true
  · simp only [h, if_true]
    have H := Lib.hid h
    clear h
    go_enter Try.func8, Try.ntmps8
    go_wp2_with fail
    go_call (chances1_bad (w.heap.size + 1 + 1) n d _ (by go_simp) (by go_simp) H.out) as e w1 ⟨rfl, hb1⟩
    have hB1 : Below w.heap.size w w1 := (((below1 _ _).alloc (by simp) _).alloc (by simp; omega) _).trans (hb1.mono (by simp; omega))
    have kr0 : w1.cell? ⟨w.heap.size + 1, 0, none⟩ = some (.int .i64 0) := cell_tr hb1 (by go_simp)
    have kr1 : w1.cell? ⟨w.heap.size + 1, 1, none⟩ = some (.int .i64 0) := cell_tr hb1 (by go_simp)
    have fr0 : w1.frozen? ⟨w.heap.size + 1, 0, none⟩ = false := free_tr hb1 (v := .int .i64 0) (by go_simp) (by go_simp)
    have fr1 : w1.frozen? ⟨w.heap.size + 1, 1, none⟩ = false := free_tr hb1 (v := .int .i64 0) (by go_simp) (by go_simp)
    clear hb1
    go_wp2
    have r0 := put0 (.int .i64 0) kr0
    have r1 := put1 (.int .i64 0) (.int .i64 0) kr1
    refine bodyPost_ret (v := .tuple #[.agg #[.int .i64 0, .int .i64 0], .int .i64 2]) (by simp [results, Try.results8, go_sem, r0, r1]) rfl ⟨rfl, ?_⟩
    exact (hB1.setCell (p := ⟨w.heap.size + 1, 0, none⟩) (by simp) _).setCell (p := ⟨w.heap.size + 1, 1, none⟩) (by simp) _
  · have h' : badC n d = false := by simpa using h
    simp only [h', Bool.false_eq_true, if_false]
    obtain ⟨d1, d2, n1, n2, _⟩ := badC_ok h'
    have H := Lib.hid h'
    clear h h'
    go_enter Try.func8, Try.ntmps8
    go_wp2_with fail
    go_call (chances1 (w.heap.size + 1 + 1) n d _ (by go_simp) (by go_simp) H.out) as e w1 ⟨rfl, hb1⟩
    have hB1 : Below w.heap.size w w1 := (((below1 _ _).alloc (by simp) _).alloc (by simp; omega) _).trans (hb1.mono (by simp; omega))
    have ka0 : w1.cell? ⟨w.heap.size, 0, none⟩ = some (.int .i64 n) := cell_tr hb1 (by go_simp)
    have ka1 : w1.cell? ⟨w.heap.size, 1, none⟩ = some (.int .i64 d) := cell_tr hb1 (by go_simp)
    have kr0 : w1.cell? ⟨w.heap.size + 1, 0, none⟩ = some (.int .i64 0) := cell_tr hb1 (by go_simp)
    have kr1 : w1.cell? ⟨w.heap.size + 1, 1, none⟩ = some (.int .i64 0) := cell_tr hb1 (by go_simp)
    have fr0 : w1.frozen? ⟨w.heap.size + 1, 0, none⟩ = false := free_tr hb1 (v := .int .i64 0) (by go_simp) (by go_simp)
    have fr1 : w1.frozen? ⟨w.heap.size + 1, 1, none⟩ = false := free_tr hb1 (v := .int .i64 0) (by go_simp) (by go_simp)
    clear hb1
    have e1 : IntKind.i64.wrap (d - n) = d - n := IntWalk.i64_in _ (by omega)
    go_wp2
    have r0 := put0 (.int .i64 (d - n)) kr0
    have r1 := put1 (.int .i64 (d - n)) (.int .i64 d) kr1
    refine bodyPost_ret (v := .tuple #[.agg #[.int .i64 (d - n), .int .i64 d], .int .i64 0]) (by simp [results, Try.results8, go_sem, r0, r1]) rfl ⟨rfl, ?_⟩
    exact (hB1.setCell (p := ⟨w.heap.size + 1, 0, none⟩) (by simp) _).setCell (p := ⟨w.heap.size + 1, 1, none⟩) (by simp) _

set_option maxRecDepth 100000 in
set_option maxHeartbeats 8000000 in
theorem compare_ok (an ad bn bd : Int) (w : World) (ha : badC an ad = false) (hb : badC bn bd = false) :
    Calls Try.prog 6 #[.agg #[.int .i64 an, .int .i64 ad], .agg #[.int .i64 bn, .int .i64 bd]] w fun e w' => e = .returned (.tuple #[.int .i64 (cmp3 (an * bd) (bn * ad)), .int .i64 0]) ∧ Below w.heap.size w w' := by
  obtain ⟨a1, a2, a3, a4, _⟩ := badC_ok ha
  obtain ⟨b1, b2, b3, b4, _⟩ := badC_ok hb
  have Ha := Lib.hid ha
  have Hb := Lib.hid hb
  clear ha hb
  have hP := fun w => wideProduct_any an bd w (by omega) (by omega) (by omega) (by omega)
  have hQ := fun w => wideProduct_any bn ad w (by omega) (by omega) (by omega) (by omega)
  have hW := cmp_words (an * bd) (bn * ad) (Int.mul_nonneg a3 (by omega)) (Int.mul_nonneg b3 (by omega))
  have hC := fun w => wideCompare_any (hi64 (an * bd)) (lo64 (an * bd)) (hi64 (bn * ad)) (lo64 (bn * ad)) w
  rw [hW, show cmpI (an * bd) (bn * ad) = cmp3 (an * bd) (bn * ad) from rfl] at hC
  clear hW
  obtain ⟨r, hr⟩ : ∃ r, cmp3 (an * bd) (bn * ad) = r := ⟨_, rfl⟩
  rw [hr] at hC ⊢
  obtain ⟨x0, e0⟩ : ∃ r, hi64 (an * bd) = r := ⟨_, rfl⟩
  obtain ⟨x1, e1⟩ : ∃ r, lo64 (an * bd) = r := ⟨_, rfl⟩
  obtain ⟨y0, e2⟩ : ∃ r, hi64 (bn * ad) = r := ⟨_, rfl⟩
  obtain ⟨y1, e3⟩ : ∃ r, lo64 (bn * ad) = r := ⟨_, rfl⟩
  rw [e0, e1] at hP hC
  rw [e2, e3] at hQ hC
  clear hr e0 e1 e2 e3
  go_enter Try.func6, Try.ntmps6
  go_wp2_with fail
  go_call (chances2 (w.heap.size + 1 + 1) an ad bn bd _ (by go_simp) (by go_simp) (by go_simp) (by go_simp) Ha.out Hb.out) as e w1 ⟨rfl, hb1⟩
  have hB1 : Below w.heap.size w w1 := (((below1 _ _).alloc (by simp) _).alloc (by simp; omega) _).trans (hb1.mono (by simp; omega))
  have ka0 : w1.cell? ⟨w.heap.size, 0, none⟩ = some (.int .i64 an) := cell_tr hb1 (by go_simp)
  have ka1 : w1.cell? ⟨w.heap.size, 1, none⟩ = some (.int .i64 ad) := cell_tr hb1 (by go_simp)
  have kb0 : w1.cell? ⟨w.heap.size + 1, 0, none⟩ = some (.int .i64 bn) := cell_tr hb1 (by go_simp)
  have kb1 : w1.cell? ⟨w.heap.size + 1, 1, none⟩ = some (.int .i64 bd) := cell_tr hb1 (by go_simp)
  clear hb1
  go_wp2_with fail
  go_region_held3 (fun w' => w'.cell? ⟨w.heap.size, 0, none⟩ = some (.int .i64 an) ∧ w'.cell? ⟨w.heap.size, 1, none⟩ = some (.int .i64 ad) ∧ w'.cell? ⟨w.heap.size + 1, 0, none⟩ = some (.int .i64 bn) ∧ w'.cell? ⟨w.heap.size + 1, 1, none⟩ = some (.int .i64 bd) ∧ Below w1.heap.size w1 w')
    (first | exact ⟨ka0, ka1, kb0, kb1, (Below.refl _ _).drew⟩ | assumption | exact and5 (by assumption) hbk)
    (first
      | (go_at_call 23; (first | (with_reducible refine (hP _).mono ?_) | (with_reducible refine (hQ _).mono ?_)); rintro e w' ⟨rfl, hbk⟩)
      | (go_at_call 24; (with_reducible refine (hC _).mono ?_); rintro e w' ⟨rfl, hbk⟩))
  all_goals
    rename_i hh
    obtain ⟨_, _, _, _, hz⟩ := hh
    go_wp2
    go_returns
    exact ⟨rfl, tr hB1 hz⟩
end Go.Proofs.Ytnpnnfbmnlgioaa
