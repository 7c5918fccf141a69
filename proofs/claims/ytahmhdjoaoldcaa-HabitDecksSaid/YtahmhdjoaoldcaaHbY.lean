/-
  HabitDecks: what casts by a deck when an outcome has been cast.
-/
import Derived.Test.YtahmhdjoaoldcaaHbX
namespace Go.Proofs.Ytahmhdjoaoldcaa
open Go Go.RowKit
set_option linter.unusedVariables false
set_option linter.unusedSimpArgs false

theorem info_deck : (Try.prog.info? 120).map (·.size) = some 36 := by kernel_rfl
/-- The cells of what casts by a deck. -/
def deckL (p : Option Addr) (n c : Nat) (S A a : Int) (D : List Int) : List Value := .slice p n c :: .int .i64 S :: .int .i64 A :: .int .i64 a :: D.map (Value.int .i64)
theorem deckL_len (p : Option Addr) (n c : Nat) (S A a : Int) (D : List Int) : (deckL p n c S A a D).length = D.length + 4 := by simp [deckL]
theorem deckL_nth (p : Option Addr) (n c : Nat) (S A a : Int) (D : List Int) (x : Nat) (hx : x < D.length) : (deckL p n c S A a D)[4 + x]? = some (.int .i64 (nth D x)) := by
  unfold deckL
  rw [Nat.add_comm 4 x]
  simp only [List.getElem?_cons_succ, List.getElem?_map, List.getElem?_eq_getElem hx, Option.map_some]
  rw [← nth_eq hx]
theorem deckL_aside (p : Option Addr) (n c : Nat) (S A a b : Int) (D : List Int) : (deckL p n c S A a D).set 3 (.int .i64 b) = deckL p n c S A b D := rfl
theorem deckL_drawn (p : Option Addr) (n c : Nat) (S A a : Int) (D : List Int) (x : Nat) (v : Int) : (deckL p n c S A a D).set (4 + x) (.int .i64 v) = deckL p n c S A a (D.set x v) := by
  unfold deckL
  rw [Nat.add_comm 4 x]
  simp only [List.set_cons_succ, List.map_set]

set_option maxRecDepth 100000 in
set_option maxHeartbeats 8000000 in
theorem behindD_new (p : Option Addr) (n c : Nat) (S A a0 : Int) (D : List Int) (hD : Hid (D.length = 32)) (x : Int) (ha : a0 + 1 = A) (ha0 : 0 ≤ a0 ∧ a0 ≤ 1000000) (w : World) :
    Calls Try.prog 104 #[DeckV p n c S A a0 D, .int .i64 x] w fun e w' => e = .returned (.iface 120 (DeckV p n c S A 0 (List.replicate 32 0))) ∧ Below w.heap.size w w' := by
  have hw1 : IntKind.i64.wrap (a0 + 1) = A := by rw [← ha]; exact IntWalk.i64_in _ (by omega)
  clear ha
  unfold DeckV
  go_enter Try.func104, Try.ntmps104
  go_wp2
  go_ret
  exact ⟨rfl, below1 _ _⟩

set_option maxRecDepth 100000 in
set_option maxHeartbeats 8000000 in
theorem behindD_next (p : Option Addr) (n c : Nat) (S A a0 a1 : Int) (D : List Int) (hD : Hid (D.length = 32)) (x : Nat) (hx : x < 32) (ha : a0 + 1 = a1) (hA : ¬ a1 = A) (ha0 : 0 ≤ a0 ∧ a0 ≤ 1000000) (d : Int) (hd : nth D x = d) (hd0 : 0 ≤ d ∧ d ≤ 1000000) (w : World) :
    Calls Try.prog 104 #[DeckV p n c S A a0 D, .int .i64 (x : Int)] w fun e w' => e = .returned (.iface 120 (DeckV p n c S A a1 (incL D x))) ∧ Below w.heap.size w w' := by
  have hw1 : IntKind.i64.wrap (a0 + 1) = a1 := by rw [← ha]; exact IntWalk.i64_in _ (by omega)
  have hinc : incL D x = D.set x (d + 1) := by unfold incL; rw [hd]
  rw [hinc]
  obtain ⟨d1, hd1⟩ : ∃ d1, d + 1 = d1 := ⟨_, rfl⟩
  have hw2 : IntKind.i64.wrap (d + 1) = d1 := by rw [← hd1]; exact IntWalk.i64_in _ (by omega)
  rw [hd1]
  have hx32 : (x : Int) < 32 := by omega
  have hqA : (a1 == A) = false := by simpa using hA
  obtain ⟨W0, hW0⟩ : ∃ W0, w.alloc (.cells (deckL p n c S A a0 D).toArray 120) = W0 := ⟨_, rfl⟩
  obtain ⟨G, hG⟩ : ∃ G, w.heap.size = G := ⟨_, rfl⟩
  have g0 : W0.heap[G]? = some (.cells (deckL p n c S A a0 D).toArray 120 (0, 0)) := by subst hW0; subst hG; exact World.alloc_heap_new w _
  have g1 : (W0.setCell ⟨G, 3, none⟩ (.int .i64 a1)).heap[G]? = some (.cells (deckL p n c S A a1 D).toArray 120 (0, 0)) := by
    rw [heap_setCell_same _ _ _ _ _ _ g0]
    simp only [List.setIfInBounds_toArray, deckL_aside]
  have g2 : ((W0.setCell ⟨G, 3, none⟩ (.int .i64 a1)).setCell ⟨G, 4 + x, none⟩ (.int .i64 d1)).heap[G]? = some (.cells (deckL p n c S A a1 (D.set x d1)).toArray 120 (0, 0)) := by
    rw [heap_setCell_same _ _ _ _ _ _ g1]
    simp only [List.setIfInBounds_toArray, deckL_drawn]
  have hb0 : Below w.heap.size w W0 := by subst hW0; exact below1 _ _
  have HS := Lib.hid (show (Try.prog.info? 120).map (·.size) = some (deckL p n c S A a1 (D.set x d1)).toArray.size by rw [List.size_toArray, deckL_len, List.length_set, hD.out]; exact info_deck)
  have cA0 : W0.cell? ⟨G, 3, none⟩ = some (.int .i64 a0) := by
    subst hW0; subst hG
    unfold deckL
    go_simp
  have cA : W0.cell? ⟨G, 2, none⟩ = some (.int .i64 A) := by
    subst hW0; subst hG
    unfold deckL
    go_simp
  have cf3 : W0.frozen? ⟨G, 3, none⟩ = false := by
    subst hW0; subst hG
    unfold deckL
    go_simp
  have cfx : W0.frozen? ⟨G, 4 + x, none⟩ = false := by
    subst hW0; subst hG
    go_simp
  have cx : W0.cell? ⟨G, 4 + x, none⟩ = some (.int .i64 d) := by
    subst hW0; subst hG
    go_simp
    rw [deckL_nth _ _ _ _ _ _ _ _ (by rw [hD.out]; exact hx), hd]
  have hne : ¬ 4 + x = 3 := by omega
  have hne2 : ¬ 3 = 4 + x := by omega
  have HG2 := Lib.hid g2
  have HG := Lib.hid hG
  have HW := Lib.hid hW0
  clear ha hA hd hd1 hinc g0 g1 g2
  have hDV : DeckV p n c S A a0 D = .agg (deckL p n c S A a0 D).toArray := rfl
  rw [hDV]
  clear hDV
  go_enter Try.func104, Try.ntmps104
  go_wp2_with (refine wpList_load_row rfl 120 (.tmp 2) rfl G rfl 120 (deckL p n c S A a1 (D.set x d1)).toArray (0, 0) _ HG2.out Try.underlying120 rfl HS.out ?_)
  go_ret
  refine ⟨rfl, ?_⟩
  exact (hb0.setCell (by rw [HG.out]; exact Nat.le_refl _) _).setCell (by rw [HG.out]; exact Nat.le_refl _) _
end Go.Proofs.Ytahmhdjoaoldcaa
