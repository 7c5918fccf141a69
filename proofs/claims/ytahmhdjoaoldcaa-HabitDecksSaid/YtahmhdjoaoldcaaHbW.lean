/-
  HabitDecks: what casts by a deck: by, start.
-/
import Derived.Test.YtahmhdjoaoldcaaHbV
namespace Go.Proofs.Ytahmhdjoaoldcaa
open Go Go.RowKit
set_option linter.unusedVariables false
set_option linter.unusedSimpArgs false

set_option maxRecDepth 100000 in
set_option maxHeartbeats 4000000 in
theorem byH_any (p : Option Addr) (row : List Int) (n c : Nat) (hx : Hid (row.length = n)) (hn : n ≤ 32) (hK0 : Hid (chk1 row = 0)) (S : Int) (hS : Hid (lsum row = S)) (w : World) (hR : Reads w p row) :
    Calls Try.prog 68 #[.slice p n c] w fun e w' => e = .returned (.agg #[.slice p n c, .int .i64 S]) ∧ Below w.heap.size w w' := by
  have hTot := fun V (h : Reads V p row) => totalH_any p row n c hx (by omega) hK0.out V h
  rw [hS.out] at hTot
  go_enter Try.func68, Try.ntmps68
  go_wp2_with fail
  refine (hTot _ (hR.below (below1 _ _) (Nat.le_refl _))).mono ?_
  rintro e w1 ⟨rfl, hb1⟩
  clear hTot
  have hf0 : w1.frozen? ⟨w.heap.size, 0, none⟩ = false := (hb1.frozen (p := ⟨w.heap.size, 0, none⟩) (by simp)).trans (by go_simp)
  have hf1 : w1.frozen? ⟨w.heap.size, 1, none⟩ = false := (hb1.frozen (p := ⟨w.heap.size, 1, none⟩) (by simp)).trans (by go_simp)
  have hc0 : w1.cell? ⟨w.heap.size, 0, none⟩ = some (.slice none 0 0) := (hb1.cell (p := ⟨w.heap.size, 0, none⟩) (by simp)).trans (by go_simp)
  have hc1 : w1.cell? ⟨w.heap.size, 1, none⟩ = some (.int .i64 0) := (hb1.cell (p := ⟨w.heap.size, 1, none⟩) (by simp)).trans (by go_simp)
  go_wp2
  have h0 : (w1.setCell ⟨w.heap.size, 0, none⟩ (.slice p n c)).cell? ⟨w.heap.size, 0, none⟩ = some (.slice p n c) := World.cell?_setCell_same' _ _ _ (by rw [hc0]; rfl)
  have h1 : ((w1.setCell ⟨w.heap.size, 0, none⟩ (.slice p n c)).setCell ⟨w.heap.size, 1, none⟩ (.int .i64 S)).cell? ⟨w.heap.size, 1, none⟩ = some (.int .i64 S) := World.cell?_setCell_same' _ _ _ (by go_simp)
  refine bodyPost_ret (v := .agg #[.slice p n c, .int .i64 S]) (by simp [results, Try.results68, go_sem, h0, h1]) rfl ⟨rfl, ?_⟩
  exact ((((Below.refl _ w).alloc (Nat.le_refl _) _).trans (hb1.mono (by simp))).setCell (Nat.le_refl _) _).setCell (Nat.le_refl _) _

/-- What casts by a deck: its row, the sum of it, after, how many cards lie aside, and which. -/
def DeckV (p : Option Addr) (n c : Nat) (S A a : Int) (D : List Int) : Value := .agg (.slice p n c :: .int .i64 S :: .int .i64 A :: .int .i64 a :: D.map (Value.int .i64)).toArray

set_option maxRecDepth 100000 in
set_option maxHeartbeats 4000000 in
theorem startH_any (pr : Nat) (A : Int) (p : Option Addr) (row : List Int) (n c : Nat) (hx : Hid (row.length = n)) (hn : n ≤ 32) (hK0 : Hid (chk1 row = 0)) (S : Int) (hS : Hid (lsum row = S)) (w : World)
    (hpr : pr < w.heap.size) (hp : w.cell? ⟨pr, 0, none⟩ = some (.slice p n c)) (hR : Reads w p row) :
    Calls Try.prog 52 #[.agg #[.int .i64 3, .slice (some ⟨pr, 0, none⟩) 1 1, .int .i64 A]] w fun e w' => e = .returned (.iface 120 (DeckV p n c S A 0 (List.replicate 32 0))) ∧ Below w.heap.size w w' := by
  have hb0 : Below w.heap.size w (w.alloc (.cells #[.int .i64 3, .slice (some ⟨pr, 0, none⟩) 1 1, .int .i64 A] 46)) := below1 _ _
  have hpW := (hb0.cell (p := ⟨pr, 0, none⟩) hpr).trans hp
  have hRW := hR.below hb0 (Nat.le_refl _)
  have hm : ModB (w.alloc (.cells #[.int .i64 3, .slice (some ⟨pr, 0, none⟩) 1 1, .int .i64 A] 46)) w.heap.size pr A := ⟨by go_simp, by go_simp, by go_simp⟩
  go_enter Try.func52, Try.ntmps52
  go_wp2_with fail
  refine (byH_any p row n c hx hn hK0 S hS _ hRW).mono ?_
  rintro e w1 ⟨rfl, hb1⟩
  obtain ⟨m0, m1, m2⟩ := hm.below hb1 (by simp)
  have hs1 := hb1.size
  simp at hs1
  have hne : ¬ w.heap.size = w1.heap.size := by omega
  have hne2 : ¬ w1.heap.size = w.heap.size := by omega
  have hlt1 : w.heap.size < w1.heap.size := by omega
  clear hm hpW hRW
  go_wp2
  go_ret
  refine ⟨rfl, ?_⟩
  exact (hb0.trans (hb1.mono hb0.size)).alloc (by omega) _
end Go.Proofs.Ytahmhdjoaoldcaa
