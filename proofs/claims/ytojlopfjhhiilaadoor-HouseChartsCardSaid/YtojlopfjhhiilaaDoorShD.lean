/-
  Package shield: the chart of mothers; and blocks that are known whole.
-/
import Derived.Test.YtojlopfjhhiilaaDoorShC
import Derived.Laws.CopyOwn
import Derived.Deep.RegionLaw
namespace Go.Proofs.YtojlopfjhhiilaaDoor
open Go Go.RowKit
set_option linter.unusedVariables false

def Blk (w : World) (g : Nat) (t : TypeId) (cs : Array Value) : Prop := w.heap[g]? = some (.cells cs t (0, 0))
section
variable {w w' : World} {g : Nat} {t : TypeId} {cs : Array Value}
theorem Blk.lt (h : Blk w g t cs) : g < w.heap.size := by
  rcases Nat.lt_or_ge g w.heap.size with hlt | hge
  · exact hlt
  · unfold Blk at h; rw [Array.getElem?_eq_none hge] at h; cases h
theorem Blk.cell (h : Blk w g t cs) (i : Nat) : w.cell? ⟨g, i, none⟩ = cs[i]? := cell_of_row w g i cs t (0, 0) h
theorem Blk.frozen (h : Blk w g t cs) (i : Nat) : w.frozen? ⟨g, i, none⟩ = false := by
  unfold Blk at h
  simp [World.frozen?, h]
theorem Blk.new (w : World) (t : TypeId) (cs : Array Value) : Blk (w.alloc (.cells cs t)) w.heap.size t cs := heap_alloc_new w _
theorem Blk.alloc (h : Blk w g t cs) (o : Obj) : Blk (w.alloc o) g t cs := (Below.heap_alloc w o g h.lt).trans h
theorem Blk.set_ (h : Blk w g t cs) (i : Nat) (u : Value) : Blk (w.setCell ⟨g, i, none⟩ u) g t (cs.setIfInBounds i u) := by
  unfold Blk at h ⊢
  simp [World.setCell, Array.getElem?_modify, h]
theorem Blk.far (h : Blk w g t cs) {p : Addr} (hp : g ≠ p.block) (u : Value) : Blk (w.setCell p u) g t cs := (Below.heap_setCell w p u g hp).trans h
theorem Blk.below {B : Nat} (h : Blk w g t cs) (hb : Below B w w') (hg : g < B) : Blk w' g t cs := (hb.block g hg).trans h
theorem Blk.row (h : Blk w g t cs) (ds : Array Value) : Blk (w.setRow g ds) g t ds := setRow_heap w g cs ds t _ h
theorem Blk.at_ (h : Blk w g t cs) : ∀ j v, cs.toList[j]? = some v → w.cell? ((⟨g, 0, none⟩ : Addr).add j) = some v := fun j v hv => by
  rw [Go.WideShapes.add_plain, Nat.zero_add, h.cell]
  simpa using hv
end

/-- The ints of a list as an array's parts. -/
def arr (xs : List Int) : Array Value := (xs.map (Value.int .i64)).toArray
theorem arr_get {xs : List Int} {k : Nat} (h : k < xs.length) : (arr xs)[k]? = some (.int .i64 (nth xs k)) := by simp [arr, nth_eq h, h]
theorem arr_set (xs : List Int) (k : Nat) (v : Int) : (arr xs).setIfInBounds k (.int .i64 v) = arr (xs.set k v) := by simp [arr, List.map_set]
theorem arr_size (xs : List Int) : (arr xs).size = xs.length := by simp [arr]
theorem arr_one (xs : List Int) : (arr xs).all (·.oneCell') = true := by simp [arr, Value.oneCell']
theorem Blk.chart {w : World} {g : Nat} {t : TypeId} {xs : List Int} (h : Blk w g t (arr xs)) (hl : xs.length = 16) : Chart w g xs := fun k hk => by
  rw [h.cell k, arr_get (by omega)]

theorem follow_any (b p : Nat) (s : List Int) (h4 : 4 ≤ p) (h16 : p < 16) (w : World) (hs : Chart w b s) (hf : Figs s) (hp : Par w) :
    Calls Tryd.prog 50 #[.pointer (some ⟨b, 0, none⟩), .int .i64 p] w fun e w' => e = .returned (.int .i64 (followF s p)) ∧ Below w.heap.size w w' := by
  by_cases h8 : p < 8
  · exact following_low b p s h4 h8 w hs hf
  · have : p = 8 ∨ p = 9 ∨ p = 10 ∨ p = 11 ∨ p = 12 ∨ p = 13 ∨ p = 14 ∨ p = 15 := by omega
    rcases this with rfl | rfl | rfl | rfl | rfl | rfl | rfl | rfl
    · exact following_8 b s w hs hf hp
    · exact following_9 b s w hs hf hp
    · exact following_10 b s w hs hf hp
    · exact following_11 b s w hs hf hp
    · exact following_12 b s w hs hf hp
    · exact following_13 b s w hs hf hp
    · exact following_14 b s w hs hf hp
    · exact following_15 b s w hs hf hp

/-- The chart with the places below 4 + k derived. -/
def dTo (m : List Int) : Nat → List Int
  | 0 => m ++ List.replicate 12 0
  | k + 1 => (dTo m k).set (4 + k) (followF (dTo m k) (4 + k))
theorem dTo_length (m : List Int) (h : m.length = 4) (k : Nat) : (dTo m k).length = 16 := by
  induction k with
  | zero => simp [dTo, h]
  | succ k ih => simp [dTo, ih]
theorem xorF_fig {x y : Int} (hx : Fig x) (hy : Fig y) : Fig (xorF x y) := by
  obtain ⟨a, b⟩ := hx
  obtain ⟨c, d⟩ := hy
  have key : ∀ i j : Fin 16, 0 ≤ xorF (i.val : Int) j.val ∧ xorF (i.val : Int) j.val ≤ 15 := by decide
  obtain ⟨n, rfl⟩ := Int.eq_ofNat_of_zero_le a
  obtain ⟨m, rfl⟩ := Int.eq_ofNat_of_zero_le c
  exact key ⟨n, by omega⟩ ⟨m, by omega⟩
theorem parAB_lt {p : Nat} (h8 : 8 ≤ p) (h : p < 16) : parA p < 16 ∧ parB p < 16 := by
  have : p = 8 ∨ p = 9 ∨ p = 10 ∨ p = 11 ∨ p = 12 ∨ p = 13 ∨ p = 14 ∨ p = 15 := by omega
  rcases this with rfl | rfl | rfl | rfl | rfl | rfl | rfl | rfl <;> decide
theorem followF_fig {s : List Int} {p : Nat} (hs : Figs s) (h : p < 16) : Fig (followF s p) := by
  unfold followF
  split
  · exact figTo_bd _ (Nat.le_refl _)
  · exact xorF_fig (hs _ (parAB_lt (by omega) h).1) (hs _ (parAB_lt (by omega) h).2)
theorem Figs.set {s : List Int} (h : Figs s) (hl : s.length = 16) {k : Nat} (hk : k < 16) {v : Int} (hv : Fig v) : Figs (s.set k v) := fun j hj => by
  rw [nth_set (by omega)]
  split
  · exact hv
  · exact h j hj
theorem dTo_figs {m : List Int} (h : m.length = 4) (hm : ∀ k, k < 4 → Fig (nth m k)) {k : Nat} (hk : k ≤ 12) : Figs (dTo m k) := by
  induction k with
  | zero =>
    intro j hj
    by_cases h4 : j < 4
    · have : nth (dTo m 0) j = nth m j := by simp [dTo, nth, List.getElem?_append, h, h4]
      rw [this]; exact hm j h4
    · have : nth (dTo m 0) j = 0 := by
        simp only [dTo, nth, List.getD_eq_getElem?_getD, List.getElem?_append]
        rw [if_neg (by omega), List.getElem?_replicate]
        split <;> rfl
      rw [this]; exact ⟨by omega, by omega⟩
  | succ k ih => exact (ih (by omega)).set (dTo_length m h k) (by omega) (followF_fig (ih (by omega)) (by omega))

theorem newAt {W : World} {o : Obj} {n : Nat} (h : W.heap.size = n) : (W.alloc o).heap[n]? = some o := by subst h; exact heap_alloc_new W o
/-- The chart with the places below p derived. -/
def dP (m : List Int) (p : Nat) : List Int := dTo m (p - 4)
theorem dP_succ (m : List Int) {p : Nat} (h : 4 ≤ p) : dP m (p + 1) = (dP m p).set p (followF (dP m p) p) := by
  unfold dP
  have e : p + 1 - 4 = (p - 4) + 1 := by omega
  have e2 : 4 + (p - 4) = p := by omega
  rw [e, dTo, e2]
theorem info_shield : (Tryd.prog.info? 24).map (·.size) = some 16 := by kernel_rfl
theorem info_fig : (Tryd.prog.info? 22).map (·.size) = some 1 := by kernel_rfl
set_option maxRecDepth 100000 in
set_option maxHeartbeats 2000000 in
theorem derived_any (m0 m1 m2 m3 : Int) (hm : ∀ k, k < 4 → Fig (nth [m0, m1, m2, m3] k)) (w : World) (hp : Par w) :
    Calls Tryd.prog 49 #[.agg #[.int .i64 m0, .int .i64 m1, .int .i64 m2, .int .i64 m3]] w fun e w' => e = .returned (.agg (arr (dP [m0, m1, m2, m3] 16))) ∧ Below w.heap.size w w' := by
  go_enter Tryd.func49, Tryd.ntmps49
  go_wp2
  go_region_law (refine step_copy_splice rfl (.tmp 6) (.tmp 7) 44 44 rfl 22 Tryd.underlying44 info_fig (some ⟨w.heap.size + 1 + 1, 0, none⟩) (some ⟨w.heap.size, 0, none⟩) 16 16 4 4 rfl rfl (w.heap.size + 1 + 1) 0 (List.replicate 16 (.int .i64 0)) 24 (newAt (by simp)) [.int .i64 m0, .int .i64 m1, .int .i64 m2, .int .i64 m3] rfl (fun _ => ⟨rfl, _, rfl, (((Blk.new w _ #[.int .i64 m0, .int .i64 m1, .int .i64 m2, .int .i64 m3]).alloc _).alloc _).at_⟩) (by simp) (by simp [Value.oneCell']) (w.heap.size + 1 + 1) _ (Below.refl _ _) (Nat.le_refl _) ?_; intro w4 hg4 hb4)
  have hbW : Below w.heap.size w w4 := ((((Below.refl _ _).alloc (Nat.le_refl _) _).alloc (by simp) _).alloc (by simp; omega) _).drew.trans (hb4.mono (by omega))
  have hr : Blk w4 (w.heap.size + 1) 24 (arr (List.replicate 16 0)) := by
    refine Blk.below ?_ hb4 (by omega)
    exact Blk.alloc (newAt (by simp)) _
  have hx : Blk w4 (w.heap.size + 1 + 1) 24 (arr (dTo [m0, m1, m2, m3] 0)) := hg4
  have Hx := Lib.hid hx
  have Hr := Lib.hid hr
  clear hb4 hg4 hx hr
  have hwz : w.heap.size + 1 + 1 < w4.heap.size := Hx.out.lt
  go_wp2
  go_loopw [4] (fun i wr => ∃ p : Nat, 4 ≤ p ∧ p ≤ 16 ∧ i = .int .i64 p ∧ Hid (Blk wr (w.heap.size + 1 + 1) 24 (arr (dP [m0, m1, m2, m3] p))) ∧ Below (w.heap.size + 1 + 1) w4 wr) (fun i _ => 16 - (intOf i).toNat)
  case atStart => exact ⟨4, by omega, by omega, rfl, Hx, Below.refl _ _⟩
  case round =>
    obtain ⟨p, hp4, hp16, rfl, HX, hB⟩ := hrel
    have Hlen := Lib.hid (dTo_length [m0, m1, m2, m3] rfl (p - 4))
    have hsz : w.heap.size + 1 + 1 < wr.heap.size := HX.out.lt
    by_cases hlt : p < 16
    · go_wp2_with fail
      refine (follow_any (w.heap.size + 1 + 1) p (dP [m0, m1, m2, m3] p) hp4 hlt _ (HX.out.chart Hlen.out) (dTo_figs rfl hm (by omega)) (hp.below (hbW.trans (hB.mono (by omega))) (Nat.le_refl _))).mono ?_
      rintro e w5 ⟨rfl, hb5⟩
      have HX5 := Lib.hid (HX.out.below hb5 hsz)
      have hc5 : w5.cell? ⟨w.heap.size + 1 + 1, p, none⟩ = some (.int .i64 (nth (dP [m0, m1, m2, m3] p) p)) := by rw [HX5.out.cell p, arr_get (by have := Hlen.out; unfold dP; omega)]
      have hf5 := HX5.out.frozen p
      go_wp2
      go_roundw
      case rel => exact ⟨p + 1, by omega, by omega, by go_num, by have := HX5.out.set_ p (.int .i64 (followF (dP [m0, m1, m2, m3] p) p)); rw [arr_set, ← dP_succ _ hp4] at this; exact this, (hB.trans (hb5.mono (by omega))).setCell (by simp) _⟩
      case measure => simp [intOf]; omega
    · obtain rfl : p = 16 := by omega
      have HR := Lib.hid (Hr.out.below hB (by omega))
      have HL := Lib.hid (show (dP [m0, m1, m2, m3] 16).length = 16 from Hlen.out)
      have HI := Lib.hid (show (Tryd.prog.info? 24).map (·.size) = some (arr (dP [m0, m1, m2, m3] 16)).size by rw [arr_size, HL.out]; exact info_shield)
      have HO := Lib.hid (show (arr (List.replicate 16 0)).size = (arr (dP [m0, m1, m2, m3] 16)).size by rw [arr_size, arr_size, HL.out]; rfl)
      have HW : Below w.heap.size w wr := hbW.trans (hB.mono (by omega))
      clear hbW hB
      go_wp2_with (first | (refine wpList_load_row rfl 24 (.tmp 3) rfl (w.heap.size + 1 + 1) rfl 24 (arr (dP [m0, m1, m2, m3] 16)) (0, 0) _ HX.out Tryd.underlying24 rfl HI.out ?_) | (refine wpList_store_row rfl 24 (.tmp 2) (.tmp 17) rfl (w.heap.size + 1) (arr (dP [m0, m1, m2, m3] 16)) rfl rfl 24 _ HR.out HI.out HO.out (arr_one _) ?_))
      exact bodyPost_ret (v := .agg (arr (dP [m0, m1, m2, m3] 16))) (results_cell_row Tryd.results49 _ _ (w.heap.size + 1) 24 _ (0, 0) _ rfl (HR.out.row _) Tryd.underlying24 rfl HI.out) rfl ⟨rfl, below_setRow HW (by omega) _⟩
end Go.Proofs.YtojlopfjhhiilaaDoor
