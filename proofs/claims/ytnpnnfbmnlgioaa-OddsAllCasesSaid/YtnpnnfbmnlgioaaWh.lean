/-
  OddsMixes, the walk: own copies of lists, both sides, and what is compared.
-/
import Derived.Test.YtnpnnfbmnlgioaaWe
import Derived.Test.YtnpnnfbmnlgioaaWf
import Derived.Test.YtnpnnfbmnlgioaaWg
import Derived.Test.YtnpnnfbmnlgioaaZa
import Derived.Deep.AppendLies
import Derived.Deep.RegionHeld3
import Derived.WalkKit
import Derived.Below
namespace Go.Proofs.Ytnpnnfbmnlgioaa
open Go.RowKit
set_option linter.unusedVariables false

/-- A list that lies outside of a block. -/
def Far (w : World) (g : Nat) (r : Option Addr) (xs : List Int) : Prop := ∀ i, i < xs.length → ∃ q o, r = some ⟨q, o, none⟩ ∧ q ≠ g ∧ w.cell? ⟨q, o + i, none⟩ = some (.int .i64 (nth xs i))
theorem Far.reads {w : World} {g : Nat} {r : Option Addr} {xs : List Int} (h : Far w g r xs) : Reads w r xs := fun i hi => by
  obtain ⟨q, o, h1, _, h3⟩ := h i hi
  exact ⟨q, o, h1, h3⟩
theorem Far.below {w w' : World} {g : Nat} {r : Option Addr} {xs : List Int} (h : Far w g r xs) (hb : Below w.heap.size w w') : Far w' g r xs := fun i hi => by
  obtain ⟨q, o, h1, h2, h3⟩ := h i hi
  exact ⟨q, o, h1, h2, cell_tr hb h3⟩
theorem Far.grown {w w' : World} {g g' : Nat} {r : Option Addr} {xs : List Int} (h : Far w g r xs) (hg : w.grownBy w' (some g)) (hat : some g = some g' ∨ g' = w.heap.size) : Far w' g' r xs := fun i hi => by
  obtain ⟨q, o, h1, h2, h3⟩ := h i hi
  have hlt := World.block_lt_of_cell? w _ h3
  refine ⟨q, o, h1, ?_, ?_⟩
  · rcases hat with e | e
    · cases e; exact h2
    · simp at hlt; omega
  · rw [hg.cell_far _ (by simpa using hlt) (by show some q ≠ some g; simpa using h2)]
    exact h3
/-- The first k copies. -/
def Copies (w : World) (g : Nat) (ls : List (List Int)) (vals : List Value) (k : Nat) : Prop := ∀ j, j < k → ∃ r c, vals[j]? = some (.slice r (nthL ls j).length c) ∧ Far w g r (nthL ls j)
theorem owns_kept {w w' : World} {B e n : Nat} {v : Value} {xs : List Value} (h : w.ownsRow B e 1 v n xs) (hb : Below w.heap.size w w') : w'.ownsRow B e 1 v n xs := by
  refine ⟨h.1, ?_⟩
  rcases h.2 with h | ⟨g, cap, cur, h1, h2, h3, h4⟩
  · exact .inl h
  · refine .inr ⟨g, cap, cur, h1, h2, ?_, h4⟩
    have hlt : g < w.heap.size := by
      rcases Nat.lt_or_ge g w.heap.size with h | h
      · exact h
      · rw [Array.getElem?_eq_none h] at h3; cases h3
    rw [hb.block g hlt]; exact h3
theorem empty_ownsL (w : World) : (w.alloc (.cells #[] 34)).ownsRow w.heap.size 34 1 (.slice (some ⟨w.heap.size, 0, none⟩) 0 0) 0 [] :=
  ⟨rfl, Or.inr ⟨w.heap.size, 0, #[], rfl, Nat.le_refl _, heap_alloc_new w _, Nat.le_refl _, by simp [maxLen], rfl, rfl⟩⟩
theorem info_list : (Try.prog.info? 34).map (fun i => (i.zero, i.size, i.bytes)) = some (some (.slice none 0 0), 1, 24) := by kernel_rfl
theorem copies_readsL {w : World} {B g k cap : Nat} {ls : List (List Int)} {vals : List Value} (h : w.ownsRow B 34 1 (.slice (some ⟨g, 0, none⟩) k cap) k vals) (hc : Copies w g ls vals k) (hk : ls.length = k) : ReadsL w (some ⟨g, 0, none⟩) ls := fun j hj => by
  obtain ⟨r, c, h1, h2⟩ := hc j (by omega)
  have h3 := h.cells (g := g) rfl j _ h1
  rw [Go.WideShapes.add_plain] at h3
  exact ⟨g, 0, rfl, r, c, h3, h2.reads⟩

theorem oddsMixes_equal (L : List Int) (hL : L.length ≤ 1000000) (pa : Option Addr) (ca : Nat) (pb : Option Addr) (cb : Nat) (w : World) (hRa : Reads w pa L) (hRb : Reads w pb L) :
    Calls Try.prog 37 #[.slice pa L.length ca, .slice pb L.length cb] w fun e w' => e = .returned (.bool true) ∧ Below w.heap.size w w' := by
  have h := equal_any pa L ca pb L cb w (by omega) (by omega) hRa hRb
  rwa [eqL_self] at h
theorem sMix_length (cs : List Int) (ls : List (List Int)) : (sMix cs ls).1.length ≤ 4096 := by
  unfold sMix
  split
  · simp
  · rename_i hz
    split
    · simp
    · split
      · simp
      · have hl : (low (mixL (low cs) ls (nthL ls 0).length)).length = (nthL ls 0).length := by rw [low_length]; exact tab_length _ _
        rw [hl]
        have hz : chkM cs ls = 0 := by simpa using hz
        by_cases hn : 0 < ls.length
        · unfold chkM at hz
          by_cases h2 : chkL ls = 0
          · exact (chk1_ok (chkL_each h2 hn)).1
          · exfalso
            split at hz
            · rename_i h; exact h hz
            · split at hz
              · simp at hz
              · first | exact h2 hz | (rw [if_pos h2] at hz; exact h2 hz)
        · have : nthL ls 0 = [] := by unfold nthL; simp [show ls.length = 0 by omega] <;> (rcases ls with _ | ⟨x, r⟩ <;> simp at hn ⊢)
          rw [this]; simp

end Go.Proofs.Ytnpnnfbmnlgioaa
