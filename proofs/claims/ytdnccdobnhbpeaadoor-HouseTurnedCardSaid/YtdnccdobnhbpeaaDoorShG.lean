/-
  Package shield: the places of a copy that do not follow.
-/
import Derived.Test.YtdnccdobnhbpeaaDoorShF
import Derived.Deep.RegionHeld3
import Derived.Laws.AppendOwn
import Derived.Laws.AppendOwnNone
import Derived.OwnWalk
namespace Go.Proofs.YtdnccdobnhbpeaaDoor
open Go Go.RowKit
set_option linter.unusedVariables false

theorem cell_tr {w w' : World} (hb : Below w.heap.size w w') {a : Addr} {v : Value} (h : w.cell? a = some v) : w'.cell? a = some v :=
  (hb.cell (World.block_lt_of_cell? w _ h)).trans h
theorem info_int : (Tryd.prog.info? 3).map (fun i => (i.zero, i.size, i.bytes)) = some (some (.int .i64 0), 1, 8) := by kernel_rfl
theorem news_at {W : World} {n : Nat} (T : TypeId) (v : Value) (h : W.heap.size = n) : ∀ j u, ([v] : List Value)[j]? = some u → (W.alloc (.cells #[v] T)).cell? ((⟨n, 0, none⟩ : Addr).add j) = some u := fun j u hj => by
  subst h
  rw [Go.WideShapes.add_plain, Nat.zero_add, (Blk.new W T #[v]).cell]
  simpa using hj
theorem one_int (x : Int) : ∀ u ∈ [Value.int .i64 x], u.oneCell' = true := fun u hu => by
  rcases List.mem_singleton.1 hu with rfl
  rfl
theorem owns_below {w w' : World} {base : Nat} {e : TypeId} {size : Nat} {v : Value} {n : Nat} {xs : List Value} (h : w.ownsRow base e size v n xs) (hb : Below w.heap.size w w') : w'.ownsRow base e size v n xs := by
  obtain ⟨h1, h2⟩ := h
  refine ⟨h1, ?_⟩
  rcases h2 with h2 | ⟨g, cap, cur, hv, hg, hh, r⟩
  · exact Or.inl h2
  · have hlt : g < w.heap.size := by
      rcases Nat.lt_or_ge g w.heap.size with h | h
      · exact h
      · simp [Array.getElem?_eq_none h] at hh
    exact Or.inr ⟨g, cap, cur, hv, hg, by rw [hb.block g hlt]; exact hh, r⟩
theorem owns_base {w : World} {base : Nat} {e : TypeId} {size : Nat} {v : Value} {n : Nat} {xs : List Value} (h : w.ownsRow base e size v n xs) : ∀ k, v.ownBlock = some k → base ≤ k := fun k hk => by
  rcases h.2 with ⟨rfl, _⟩ | ⟨g, cap, cur, rfl, hg, _, _⟩
  · simp [Value.ownBlock] at hk
  · simp [Value.ownBlock] at hk; omega
/-- The places below k whose figure does not follow. -/
def wrongTo (s : List Int) : Nat → List Int
  | 0 => []
  | k + 1 => if k < 4 ∨ nth s k = followF s k then wrongTo s k else wrongTo s k ++ [(k : Int)]
theorem wrongTo_four (s : List Int) : wrongTo s 4 = [] := rfl
theorem wrongTo_len (s : List Int) (k : Nat) : (wrongTo s k).length ≤ k := by
  induction k with
  | zero => simp [wrongTo]
  | succ k ih =>
    unfold wrongTo; split
    · omega
    · simp; omega
/-- What Wrong returns. -/
def wrongV (s : List Int) : List Int := if chkF s = 0 then wrongTo s 16 else []

theorem checkF_n (p : Option Addr) (xs : List Int) (n c : Nat) (w : World) (hx : Hid (xs.length = n)) (hl : n ≤ 100) (hR : Reads w p xs) :
    Calls Tryd.prog 75 #[.slice p n c] w fun e w' => e = .returned (.int .i64 (chkF xs)) ∧ Below w.heap.size w w' := by
  obtain rfl := hx.out
  exact checkF_any p xs c w hl hR
theorem wrongTo_no {s : List Int} {p : Nat} (h : nth s p = followF s p) : wrongTo s (p + 1) = wrongTo s p := by rw [wrongTo, if_pos (.inr h)]
theorem wrongTo_yes {s : List Int} {p : Nat} (h4 : 4 ≤ p) (h : nth s p ≠ followF s p) : wrongTo s (p + 1) = wrongTo s p ++ [(p : Int)] := by rw [wrongTo, if_neg (by omega)]

end Go.Proofs.YtdnccdobnhbpeaaDoor
