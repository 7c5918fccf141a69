/-
  Package shield: the chart of mothers; and blocks that are known whole.
-/
import Derived.Test.YtdnccdobnhbpeaaDoorShC
import Derived.Laws.CopyOwn
import Derived.Deep.RegionLaw
namespace Go.Proofs.YtdnccdobnhbpeaaDoor
open Go Go.RowKit
set_option linter.unusedVariables false

def Blk (w : World) (g : Nat) (t : TypeId) (cs : Array Value) : Prop := w.heap[g]? = some (.cells cs t (0, 0))
section
variable {w w' : World} {g : Nat} {t : TypeId} {cs : Array Value}
theorem Blk.lt (h : Blk w g t cs) : g < w.heap.size := by
  rcases Nat.lt_or_ge g w.heap.size with hlt | hge
  · exact hlt
  · unfold Blk at h; rw [Array.getElem?_eq_none hge] at h; cases h
theorem Blk.cell (h : Blk w g t cs) (i : Nat) : w.cell? ⟨g, i, none⟩ = cs[i]? := cell_of_row w g i cs t (0, 0) h
theorem Blk.frozen (h : Blk w g t cs) (i : Nat) : w.frozen? ⟨g, i, none⟩ = false := by
  unfold Blk at h
  simp [World.frozen?, h]
theorem Blk.new (w : World) (t : TypeId) (cs : Array Value) : Blk (w.alloc (.cells cs t)) w.heap.size t cs := heap_alloc_new w _
theorem Blk.alloc (h : Blk w g t cs) (o : Obj) : Blk (w.alloc o) g t cs := (Below.heap_alloc w o g h.lt).trans h
theorem Blk.set_ (h : Blk w g t cs) (i : Nat) (u : Value) : Blk (w.setCell ⟨g, i, none⟩ u) g t (cs.setIfInBounds i u) := by
  unfold Blk at h ⊢
  simp [World.setCell, Array.getElem?_modify, h]
theorem Blk.far (h : Blk w g t cs) {p : Addr} (hp : g ≠ p.block) (u : Value) : Blk (w.setCell p u) g t cs := (Below.heap_setCell w p u g hp).trans h
theorem Blk.below {B : Nat} (h : Blk w g t cs) (hb : Below B w w') (hg : g < B) : Blk w' g t cs := (hb.block g hg).trans h
theorem Blk.row (h : Blk w g t cs) (ds : Array Value) : Blk (w.setRow g ds) g t ds := setRow_heap w g cs ds t _ h
theorem Blk.at_ (h : Blk w g t cs) : ∀ j v, cs.toList[j]? = some v → w.cell? ((⟨g, 0, none⟩ : Addr).add j) = some v := fun j v hv => by
  rw [Go.WideShapes.add_plain, Nat.zero_add, h.cell]
  simpa using hv
end

/-- The ints of a list as an array's parts. -/
def arr (xs : List Int) : Array Value := (xs.map (Value.int .i64)).toArray
theorem arr_get {xs : List Int} {k : Nat} (h : k < xs.length) : (arr xs)[k]? = some (.int .i64 (nth xs k)) := by simp [arr, nth_eq h, h]
theorem arr_set (xs : List Int) (k : Nat) (v : Int) : (arr xs).setIfInBounds k (.int .i64 v) = arr (xs.set k v) := by simp [arr, List.map_set]
theorem arr_size (xs : List Int) : (arr xs).size = xs.length := by simp [arr]
theorem arr_one (xs : List Int) : (arr xs).all (·.oneCell') = true := by simp [arr, Value.oneCell']
theorem Blk.chart {w : World} {g : Nat} {t : TypeId} {xs : List Int} (h : Blk w g t (arr xs)) (hl : xs.length = 16) : Chart w g xs := fun k hk => by
  rw [h.cell k, arr_get (by omega)]

/-- The chart with the places below 4 + k derived. -/
def dTo (m : List Int) : Nat → List Int
  | 0 => m ++ List.replicate 12 0
  | k + 1 => (dTo m k).set (4 + k) (followF (dTo m k) (4 + k))
theorem dTo_length (m : List Int) (h : m.length = 4) (k : Nat) : (dTo m k).length = 16 := by
  induction k with
  | zero => simp [dTo, h]
  | succ k ih => simp [dTo, ih]
theorem xorF_fig {x y : Int} (hx : Fig x) (hy : Fig y) : Fig (xorF x y) := by
  obtain ⟨a, b⟩ := hx
  obtain ⟨c, d⟩ := hy
  have key : ∀ i j : Fin 16, 0 ≤ xorF (i.val : Int) j.val ∧ xorF (i.val : Int) j.val ≤ 15 := by decide
  obtain ⟨n, rfl⟩ := Int.eq_ofNat_of_zero_le a
  obtain ⟨m, rfl⟩ := Int.eq_ofNat_of_zero_le c
  exact key ⟨n, by omega⟩ ⟨m, by omega⟩
theorem parAB_lt {p : Nat} (h8 : 8 ≤ p) (h : p < 16) : parA p < 16 ∧ parB p < 16 := by
  have : p = 8 ∨ p = 9 ∨ p = 10 ∨ p = 11 ∨ p = 12 ∨ p = 13 ∨ p = 14 ∨ p = 15 := by omega
  rcases this with rfl | rfl | rfl | rfl | rfl | rfl | rfl | rfl <;> decide
theorem followF_fig {s : List Int} {p : Nat} (hs : Figs s) (h : p < 16) : Fig (followF s p) := by
  unfold followF
  split
  · exact figTo_bd _ (Nat.le_refl _)
  · exact xorF_fig (hs _ (parAB_lt (by omega) h).1) (hs _ (parAB_lt (by omega) h).2)
theorem Figs.set {s : List Int} (h : Figs s) (hl : s.length = 16) {k : Nat} (hk : k < 16) {v : Int} (hv : Fig v) : Figs (s.set k v) := fun j hj => by
  rw [nth_set (by omega)]
  split
  · exact hv
  · exact h j hj
theorem dTo_figs {m : List Int} (h : m.length = 4) (hm : ∀ k, k < 4 → Fig (nth m k)) {k : Nat} (hk : k ≤ 12) : Figs (dTo m k) := by
  induction k with
  | zero =>
    intro j hj
    by_cases h4 : j < 4
    · have : nth (dTo m 0) j = nth m j := by simp [dTo, nth, List.getElem?_append, h, h4]
      rw [this]; exact hm j h4
    · have : nth (dTo m 0) j = 0 := by
        simp only [dTo, nth, List.getD_eq_getElem?_getD, List.getElem?_append]
        rw [if_neg (by omega), List.getElem?_replicate]
        split <;> rfl
      rw [this]; exact ⟨by omega, by omega⟩
  | succ k ih => exact (ih (by omega)).set (dTo_length m h k) (by omega) (followF_fig (ih (by omega)) (by omega))

theorem newAt {W : World} {o : Obj} {n : Nat} (h : W.heap.size = n) : (W.alloc o).heap[n]? = some o := by subst h; exact heap_alloc_new W o
/-- The chart with the places below p derived. -/
def dP (m : List Int) (p : Nat) : List Int := dTo m (p - 4)
theorem dP_succ (m : List Int) {p : Nat} (h : 4 ≤ p) : dP m (p + 1) = (dP m p).set p (followF (dP m p) p) := by
  unfold dP
  have e : p + 1 - 4 = (p - 4) + 1 := by omega
  have e2 : 4 + (p - 4) = p := by omega
  rw [e, dTo, e2]
theorem info_fig : (Tryd.prog.info? 22).map (·.size) = some 1 := by kernel_rfl
end Go.Proofs.YtdnccdobnhbpeaaDoor
