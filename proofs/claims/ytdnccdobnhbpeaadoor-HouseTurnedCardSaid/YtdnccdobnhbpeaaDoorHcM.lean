/-
  The library's Grow and SortFunc, laid at ties.
  The circle of houses: slices.Concat at ties.
  The circle of houses: ties, sorted.
  The circle of houses: ties.
  The circle of houses: aspects.
  The circle of houses: judge.
  The circle of houses: what is said of two houses.
-/
import Derived.Test.YtdnccdobnhbpeaaDoorRows
import Derived.Shelf.Spec.SlicesGrow
import Derived.Shelf.SlSortCmp.WholeK
import Derived.Shelf.Small.Bits
import Derived.Shelf.Lay
import Derived.Ground.SlsfProg
import Derived.Ground.Names8Prog
import Derived.Test.YtdnccdobnhbpeaaDoorHcE
import Derived.Sort.OwnSortedInts
import Derived.Test.YtdnccdobnhbpeaaDoorHcC
namespace Go.Proofs.YtdnccdobnhbpeaaDoor
open Go Go.Proofs Go.Shelf Go.RowKit
shelf_lay_g Lays8.n4 Nm8 4 at Tryd 80 as growT
shelf_lay_g SlLaysF0.n6 Slsf 6 at Tryd 61 as sortT
end Go.Proofs.YtdnccdobnhbpeaaDoor

namespace Go.Proofs.YtdnccdobnhbpeaaDoor
open Go Go.RowKit Go.Shelf
set_option linter.unusedVariables false
set_option linter.unusedSimpArgs false

/-- A list of ties, as it lies. -/
def GotT (w : World) (v : Value) (ts : List T3) : Prop := ∃ p c, v = .slice p ts.length c ∧ (∀ a, p = some a → ∀ i u, (rowT ts)[i]? = some u → w.cell? (a.add i) = some u) ∧ (p = none → ts = [] ∧ c = 0)
theorem rowT_len (ts : List T3) : (rowT ts).length = ts.length * 3 := by
  induction ts with
  | nil => rfl
  | cons t ts ih =>
    have : rowT (t :: ts) = encT t ++ rowT ts := rfl
    rw [this, List.length_append, ih, List.length_cons]
    show 3 + _ = _
    omega
theorem rowT_one (ts : List T3) : ∀ u ∈ rowT ts, u.oneCell' = true := by
  intro u hu
  obtain ⟨t, _, h⟩ := List.mem_flatMap.1 hu
  simp only [encT, List.mem_cons, List.not_mem_nil, or_false] at h
  rcases h with rfl | rfl | rfl <;> rfl
theorem rowT_append (a b : List T3) : rowT (a ++ b) = rowT a ++ rowT b := by simp [rowT]
theorem GotT.of_owns {w : World} {B : Nat} {v : Value} {ts : List T3} (h : w.ownsRow B 66 3 v ts.length (rowT ts)) : GotT w v ts := by
  have hc := fun g hg => h.cells (g := g) hg
  rcases h.2 with ⟨rfl, h0⟩ | ⟨g, cap, cur, rfl, _⟩
  · exact ⟨none, 0, by rw [h0], ⟨fun a e => (by cases e), fun _ => ⟨List.length_eq_zero_iff.1 h0, rfl⟩⟩⟩
  · exact ⟨_, cap, rfl, ⟨fun a e => (by cases e; exact hc g rfl), fun e => (by cases e)⟩⟩
theorem GotT.below {w w' : World} {v : Value} {ts : List T3} (h : GotT w v ts) {B : Nat} (hb : Below B w w') (hB : w.heap.size ≤ B) : GotT w' v ts := by
  obtain ⟨p, c, rfl, h1, h2⟩ := h
  refine ⟨p, c, rfl, fun a e i u hu => ?_, h2⟩
  have hc := h1 a e i u hu
  exact (hb.cell (Nat.lt_of_lt_of_le (World.block_lt_of_cell? w _ hc) hB)).trans hc
/-- Some lists, put together. -/
def catT (tss : Nat → List T3) (k : Nat) : List T3 := (List.range k).flatMap tss
theorem catT_succ (tss : Nat → List T3) (k : Nat) : catT tss (k + 1) = catT tss k ++ tss k := by simp [catT, List.range_succ]
theorem catT_mono (tss : Nat → List T3) {k n : Nat} (h : k ≤ n) : (catT tss k).length ≤ (catT tss n).length := by
  induction n with
  | zero => rw [show k = 0 by omega]; exact Nat.le_refl _
  | succ n ih =>
    by_cases e : k = n + 1
    · rw [e]; exact Nat.le_refl _
    · rw [catT_succ, List.length_append]
      have := ih (by omega)
      omega
set_option maxRecDepth 100000 in
set_option maxHeartbeats 1000000 in
theorem growT_any (n : Nat) (hn : n ≤ 1000) (w : World) :
    Calls Tryd.prog 80 #[.slice none 0 0, .int .i64 (n : Int)] w fun e w' => ∃ v, e = .returned v ∧ w'.ownsRow w.heap.size 66 3 v 0 [] ∧ Below w.heap.size w w' := by
  obtain ⟨i0, hi, hz0, hz1, hz2⟩ := info_parts info_tie
  by_cases h0 : n = 0
  · subst h0
    have h := Any8.slices_Grow_room growT none 0 0 0 w (by omega) (by omega) (by omega) (by omega)
    change Calls Tryd.prog 80 _ _ _ at h
    exact h.mono fun e w' ⟨h1, h2⟩ => ⟨_, h1, by subst h2; exact World.ownsRow_nil _ _ _ _, by rw [h2]; exact Below.refl _ _⟩
  · have h := Any8.slices_Grow_grow growT i0 (.agg #[.int .i64 0, .int .i64 0, .int .i64 0]) hi hz0 (by rw [hz1]; omega) none 0 0 n [] w (by omega) (by omega) (by rw [hz2]; omega) (by omega) (by simp) (fun _ => rfl) (fun a e => by cases e)
    change Calls Tryd.prog 80 _ _ _ at h
    refine h.mono fun e w' ⟨h1, h2⟩ => ⟨_, h1, ?_, ?_⟩
    · subst h2
      refine World.ownsRow_made w.drew _ _ (Nat.le_refl _) ?_ ?_
      · exact grownCap_le_maxLen _ _ _ _ (by unfold maxLen; omega)
      · have hg := grownCap_ge w (0 + n) 0 (growT_ren.t 25)
        have hz3 : (Value.agg #[.int .i64 0, .int .i64 0, .int .i64 0]).cells.size = 3 := rfl
        generalize grownCap w (0 + n) 0 (growT_ren.t 25) = G at hg ⊢
        simp only [Array.size_append, Ev.zeroCells_size, hz3]
        simp
        omega
    · rw [h2]; exact (Below.refl _ _).drew.alloc (by simp) _
set_option maxRecDepth 100000 in
set_option maxHeartbeats 4000000 in
theorem concat_any (g n c : Nat) (tss : Nat → List T3) (w : World) (hg : g < w.heap.size) (hn : n ≤ 100) (hv : ∀ k, k < n → ∃ v, w.cell? ⟨g, k, none⟩ = some v ∧ GotT w v (tss k)) (hb : (catT tss n).length ≤ 1000) :
    Calls Tryd.prog 56 #[.slice (some ⟨g, 0, none⟩) n c] w fun e w' => ∃ v, e = .returned v ∧ w'.ownsRow w.heap.size 66 3 v (catT tss n).length (rowT (catT tss n)) ∧ Below w.heap.size w w' := by
  obtain ⟨i0, hi, hz0, hz1, hz2⟩ := info_parts info_tie
  have hnI : (n : Int) ≤ 100 := by omega
  go_enter Tryd.func56, Tryd.ntmps56
  go_wp2
  go_loop [3, 11] (fun sz i => ∃ k : Nat, k ≤ n ∧ i = .int .i64 (k : Int) ∧ sz = .int .i64 ((catT tss k).length : Int)) (fun _ i => n - (intOf i).toNat)
  case atStart => exact ⟨0, by omega, rfl, rfl⟩
  case round =>
    obtain ⟨k, hk, rfl, rfl⟩ := hrel
    by_cases hlt : k < n
    · obtain ⟨v, hc, p, cc, rfl, _⟩ := hv k hlt
      have hki : (k : Int) < (n : Int) := by omega
      have hm := catT_mono tss (show k + 1 ≤ n from hlt)
      have hs := catT_succ tss k
      obtain ⟨L, hL⟩ : ∃ L, (catT tss k).length = L := ⟨_, rfl⟩
      obtain ⟨M, hM⟩ : ∃ M, (tss k).length = M := ⟨_, rfl⟩
      have HS := Lib.hid (show (catT tss (k + 1)).length = L + M by rw [hs, List.length_append, hL, hM])
      have hLM : L + M ≤ 1000 := by rw [← HS.out]; omega
      rw [hM] at hc
      rw [hL]
      have hwr : IntKind.i64.wrap ((L : Int) + (M : Int)) = ((L + M : Nat) : Int) := by rw [Int.natCast_add]; exact IntWalk.i64_in _ (by omega)
      have hng : ¬ (((L + M : Nat) : Int) < 0) := by omega
      clear hs hL hM hm hv
      go_wp2
      go_round
      case rel => exact ⟨k + 1, by omega, by first | rfl | go_num, by rw [HS.out, Int.natCast_add]⟩
      case measure => simp [intOf]; omega
    · have hkn : n = k := by omega
      subst hkn
      have hki : ¬ ((n : Int) < (n : Int)) := by omega
      obtain ⟨L, hL⟩ : ∃ L, (catT tss n).length = L := ⟨_, rfl⟩
      have HL := Lib.hid hL
      rw [hL] at hb ⊢
      clear hL
      go_wp2_with fail
      refine (growT_any L hb w).mono ?_
      rintro e w1 ⟨v1, rfl, hown, hbl1⟩
      have hg1 : ∀ k, k < n → ∃ v, w1.cell? ⟨g, k, none⟩ = some v ∧ GotT w v (tss k) := fun k hk => by
        obtain ⟨v, h1, h2⟩ := hv k hk
        exact ⟨v, (hbl1.cell (p := ⟨g, k, none⟩) hg).trans h1, h2⟩
      go_wp2
      go_loopw [6, 27] (fun v i wr => ∃ k : Nat, k ≤ n ∧ i = .int .i64 (k : Int) ∧ wr.ownsRow w.heap.size 66 3 v (catT tss k).length (rowT (catT tss k)) ∧ Below w.heap.size w wr) (fun _ i _ => n - (intOf i).toNat)
      case atStart => exact ⟨0, by omega, rfl, hown, hbl1⟩
      case round =>
        obtain ⟨k, hk, rfl, hrw, hbl⟩ := hrel
        by_cases hlt : k < n
        · obtain ⟨v, hc, hgv⟩ := hv k hlt
          have hc1 := (hbl.cell (p := ⟨g, k, none⟩) hg).trans hc
          obtain ⟨p, cc, rfl, hrd, hnil⟩ := hgv.below hbl (Nat.le_refl _)
          have hki : (k : Int) < (n : Int) := by omega
          have hm := catT_mono tss (show k + 1 ≤ n from hlt)
          rw [HL.out] at hm
          have HS := Lib.hid (catT_succ tss k)
          have hlen := HS.out
          have hlen2 : (catT tss k).length + (tss k).length ≤ 1000 := by rw [HS.out, List.length_append] at hm; omega
          obtain ⟨T, hT⟩ : ∃ T, catT tss k = T := ⟨_, rfl⟩
          obtain ⟨U, hU⟩ : ∃ U, tss k = U := ⟨_, rfl⟩
          rw [hT] at hrw hlen2
          rw [hU] at hrd hnil hc1 hlen2
          have HT := Lib.hid hT
          have HU := Lib.hid hU
          obtain ⟨M, hM⟩ : ∃ M, U.length = M := ⟨_, rfl⟩
          have HM := Lib.hid hM
          rw [hM] at hc1 hlen2
          have hsz := hbl.size
          clear hT hU hm hlen hc hM hg1 hv
          cases p with
          | none =>
            obtain ⟨hU0, hcc⟩ := hnil rfl
            subst hU0 hcc
            have hM0 : M = 0 := HM.out.symm
            subst hM0
            go_wp2_with (at_builtin; go_loud (refine wpList_append_own_none rfl _ _ 40 rfl w.heap.size 66 i0 3 Tryd.underlying40 hi _ _ _ rfl hrw rfl ?_))
            go_wp2
            go_roundw
            case rel => exact ⟨k + 1, by omega, by first | rfl | go_num, by rw [HS.out, HT.out, HU.out, List.append_nil]; exact hrw, hbl⟩
            case measure => simp [intOf]; omega
          | some ad =>
            go_wp2_with (at_builtin; go_loud (refine wpList_append_own _ rfl _ _ 40 rfl w.heap.size 66 i0 (.agg #[.int .i64 0, .int .i64 0, .int .i64 0]) 3 24 Tryd.underlying40 hi hz0 hz1 hz2 rfl (by decide) _ _ _ rfl hrw ad M cc (rowT U) rfl (by rw [rowT_len, HM.out]) (hrd ad rfl) (rowT_one U) (by unfold maxLen; omega) (by omega) (by omega) ?_))
            intro v' w4 hown' hgrow _
            have hq4 : ∀ j, u6.ownBlock = some j → w.heap.size ≤ j := owns_base hrw
            go_wp2
            go_roundw
            case rel => exact ⟨k + 1, by omega, by first | rfl | go_num, by rw [HS.out, HT.out, HU.out, List.length_append, HM.out, rowT_append]; exact hown', hbl.grown hgrow hsz hq4⟩
            case measure => simp [intOf]; omega
        · have hkn : n = k := by omega
          subst hkn
          have hki2 : ¬ ((n : Int) < (n : Int)) := by omega
          clear hv hg1
          go_wp2
          go_ret
          exact ⟨u6, rfl, hrw, hbl⟩
end Go.Proofs.YtdnccdobnhbpeaaDoor

namespace Go.Proofs.YtdnccdobnhbpeaaDoor
open Go Go.RowKit Go.Shelf
set_option linter.unusedVariables false
set_option linter.unusedSimpArgs false

theorem ltT_iff (x y : T3) : ltOf cfT x y = decide (x.1 < y.1 ∨ (x.1 = y.1 ∧ (x.2.1 < y.2.1 ∨ (x.2.1 = y.2.1 ∧ x.2.2 < y.2.2)))) := by
  unfold ltOf cfT orN c3
  by_cases a1 : x.1 < y.1
  · simp [a1]
  · by_cases a2 : y.1 < x.1
    · have : x.1 ≠ y.1 := by omega
      simp [a1, a2, this]
    · have e1 : x.1 = y.1 := by omega
      by_cases b1 : x.2.1 < y.2.1
      · simp [e1, b1]
      · by_cases b2 : y.2.1 < x.2.1
        · have : x.2.1 ≠ y.2.1 := by omega
          simp [e1, b1, b2, this]
        · have e2 : x.2.1 = y.2.1 := by omega
          by_cases c1 : x.2.2 < y.2.2
          · simp [e1, e2, c1]
          · by_cases c2 : y.2.2 < x.2.2 <;> simp [e1, e2, c1, c2]
theorem swoT : Go.Sort.SWO (ltOf cfT) where
  irrefl x := by rw [ltT_iff]; simp
  trans x y z h1 h2 := by rw [ltT_iff] at *; simp only [decide_eq_true_eq] at *; omega
  ntrans x y z h1 h2 := by rw [ltT_iff] at *; simp only [decide_eq_false_iff_not] at *; omega
/-- Ties in their order. -/
def SortedT (ts : List T3) : Prop := ∀ i j, i < j → j < ts.length → ltOf cfT ((ts.toArray)[j]!) ((ts.toArray)[i]!) = false
theorem rowT_get : ∀ (ts : List T3) (t : Nat), t < ts.length * 3 → (rowT ts)[t]? = some ((encT ((ts.toArray)[t / 3]!))[t % 3]!) := by
  intro ts
  induction ts with
  | nil => intro t h; simp at h
  | cons x ts ih =>
    intro t h
    have e : rowT (x :: ts) = encT x ++ rowT ts := rfl
    rw [e]
    by_cases h3 : t < 3
    · have h0 : t / 3 = 0 := by omega
      have h1 : t % 3 = t := by omega
      rw [h0, h1, List.getElem?_append_left (show t < (encT x).length from h3)]
      have e2 : t = 0 ∨ t = 1 ∨ t = 2 := by omega
      rcases e2 with rfl | rfl | rfl <;> rfl
    · rw [List.getElem?_append_right (show (encT x).length ≤ t from by show 3 ≤ t; omega)]
      have hl : (encT x).length = 3 := rfl
      rw [hl, ih (t - 3) (by rw [List.length_cons] at h; omega)]
      have h0 : t / 3 = (t - 3) / 3 + 1 := by omega
      have h1 : t % 3 = (t - 3) % 3 := by omega
      rw [h0, h1]
      simp
theorem flat_rowT (ts : List T3) : (Go.Sort.flatK encT 3 ts.toArray).toList = rowT ts := by
  apply List.ext_getElem?
  intro t
  by_cases h : t < ts.length * 3
  · rw [rowT_get ts t h, Array.getElem?_toList]
    have h2 : t < (Go.Sort.flatK encT 3 ts.toArray).size := by simpa using h
    rw [Array.getElem?_eq_getElem h2, ← getElem!_pos _ t h2, Go.Sort.get_flatK _ _ _ t (by simpa using h)]
  · rw [List.getElem?_eq_none (by simp; omega), List.getElem?_eq_none (by rw [rowT_len]; omega)]
theorem heap_sortedK {w : World} {g n : Nat} {os : Array Obj} {cur : Array Value} {e : TypeId} {fr : Nat × Nat} (F : Array Value) (hb : w.heap[g]? = some (.cells cur e fr)) :
    (Go.Sort.grow (Go.Sort.putRow id (Go.Sort.ahead w n) g 0 F) os).heap[g]? = some (.cells (Go.Sort.putCells id 0 F cur) e fr) := by
  have hg : g < w.heap.size := (Array.getElem?_eq_some_iff.1 hb).1
  rw [Go.Sort.heap_grow_old _ _ (by simpa using hg)]
  simp [Go.Sort.putRow, Go.Sort.mapBlock, Go.Sort.ahead, Array.getElem?_modify, hb, Go.Sort.onCells]
theorem grownBy_sortedK {w : World} {g n : Nat} {os : Array Obj} (F : Array Value) : w.grownBy (Go.Sort.grow (Go.Sort.putRow id (Go.Sort.ahead w n) g 0 F) os) (some g) := by
  refine ⟨rfl, rfl, rfl, by simp, fun k hk hne => ?_⟩
  rw [Go.Sort.heap_grow_old _ _ (by simpa using hk)]
  have : g ≠ k := fun e => hne (by rw [e])
  simp [Go.Sort.putRow, Go.Sort.mapBlock, Go.Sort.ahead, Array.getElem?_modify, this]
theorem take_putK (cur F : Array Value) (h : F.size ≤ cur.size) : (Go.Sort.putCells id 0 F cur).toList.take F.size = F.toList := by
  apply List.ext_getElem?
  intro j
  by_cases hj : j < F.size
  · rw [List.getElem?_take_of_lt hj, Array.getElem?_toList]
    simp [Go.Sort.putCells, hj, show j < cur.size by omega]
  · rw [List.getElem?_take_eq_none (by omega), List.getElem?_eq_none (by simp; omega)]
theorem isAggT (w : World) : (isAgg 66).run Tryd.prog w = .ok true w := by kernel_rfl
theorem sizeOfT (w : World) : (Go.sizeOf 66).run Tryd.prog w = .ok 3 w := by kernel_rfl
theorem sort_nil_run : (match Ev.lstartT Tryd.prog 6 [] 3000 61 [.slice none 0 0, .func (.func 62) #[] #[]] with | some (.tuple ⟨[]⟩, _) => true | _ => false) = true := by kernel_rfl
theorem cmpLaysT (blk off size : Nat) (w : World) : CmpLays Tryd.prog 62 #[] encT 3 cfT blk off size w :=
  fun _ _ _ _ x y => closT_any x.1 x.2.1 x.2.2 y.1 y.2.1 y.2.2 _
theorem sort_any (B : Nat) (ts : List T3) (v : Value) (w : World) (hown : w.ownsRow B 66 3 v ts.length (rowT ts)) (hB : B ≤ w.heap.size) (hw6 : 6 ≤ w.heap.size) (hl : ts.length ≤ 1000) :
    Calls Tryd.prog 61 #[v, .func (.func 62) #[] #[]] w fun e w' => e = .returned (.tuple #[]) ∧ ∃ ts' : List T3, ts'.Perm ts ∧ SortedT ts' ∧ w'.ownsRow B 66 3 v ts'.length (rowT ts') ∧ Below B w w' := by
  rcases hown.2 with ⟨rfl, h0⟩ | ⟨g, cap, cur, rfl, hgB, hgh, hc1, hc2, hc3, hc4⟩
  · have hts := List.length_eq_zero_iff.1 h0
    subst hts
    have hrun := sort_nil_run
    cases hr : Ev.lstartT Tryd.prog 6 [] 3000 61 [.slice none 0 0, .func (.func 62) #[] #[]] with
    | none => rw [hr] at hrun; cases hrun
    | some r =>
      obtain ⟨x, h'⟩ := r
      rw [hr] at hrun
      have hx : x = .tuple #[] := by
        cases x with
        | tuple cs =>
          obtain ⟨l⟩ := cs
          cases l with
          | nil => rfl
          | cons _ _ => cases hrun
        | _ => cases hrun
      subst hx
      refine (Ev.callT_runs follows_mixed hr (by decide) hw6 (fun t ht => by simp at ht)).mono ?_
      rintro e w' ⟨⟨π, v', he, hv, _⟩, ho, hs, hh⟩
      have hv' : v' = .tuple #[] := Ev.VR.eq_of_flat _ rfl _ hv
      subst hv'
      exact ⟨he, [], List.Perm.refl _, fun i j _ h => by simp at h, World.ownsRow_nil _ _ _ _, ⟨ho.1, ho.2.1, ho.2.2, hs, fun k hk => hh k (by omega)⟩⟩
  · have eg : ∀ args w, (callFunc 62 args).run Tryd.prog w = .ok (.enter 62 args) w := enters_of Tryd.func62 (by kernel_rfl) rfl
    have hsz : (Go.Sort.flatK encT 3 ts.toArray).size ≤ cur.size := by simp; omega
    have hH : Go.Sort.HoldsK encT 3 w g 0 ts.toArray := by
      intro j hj
      have hj3 : j < ts.length * 3 := by simpa using hj
      refine ⟨?_, by simp [World.frozen?, hgh]⟩
      have h1 : (cur.toList.take (ts.length * 3))[j]? = (rowT ts)[j]? := by rw [hc4]
      rw [List.getElem?_take_of_lt (by omega), rowT_get ts j hj3] at h1
      simp only [World.cell?, hgh, Nat.zero_add, Option.isSome_none, Bool.false_eq_true, if_false]
      rw [← Array.getElem?_toList, h1]
      rw [Go.Sort.get_flatK _ _ _ j (by simpa using hj3)]
      rfl
    have hcon := AnyQ.slices_SortFunc sortT 3 isAggT sizeOfT encT (fun _ => rfl) (fun x v hv => by simp [encT] at hv; rcases hv with rfl | rfl | rfl <;> rfl) cfT swoT 62 #[] g 0 cap ts.toArray w eg (cmpLaysT g 0 ts.toArray.size w) hH (Array.getElem?_eq_some_iff.1 hgh).1 (by simp; omega)
    change Calls Tryd.prog 61 _ _ _ at hcon
    refine hcon.mono ?_
    rintro e w' ⟨he, d', n, os, hp, hs, rfl⟩
    obtain ⟨l', rfl⟩ : ∃ l', d' = ⟨l'⟩ := ⟨d'.toList, rfl⟩
    have hl' : l'.length = ts.length := by simpa using hp.1
    have hperm : l'.Perm ts := by
      have h := hp.2.2
      rw [show (Array.extract (⟨l'⟩ : Array T3) 0 ts.toArray.size).toList = l' by simp [hl', List.take_of_length_le (Nat.le_of_eq hl')]] at h
      simpa using h
    refine ⟨he, l', hperm, ?_, ?_, (Below.refl _ _).grown (grownBy_sortedK _) hB (fun k e => by cases e; exact hgB)⟩
    · intro i j hij hj
      exact hs i j (Nat.zero_le _) hij (by simpa [hl'] using hj)
    · have hfs : (Go.Sort.flatK encT 3 l'.toArray).size = ts.length * 3 := by simp [hl']
      have htk := take_putK cur (Go.Sort.flatK encT 3 l'.toArray) (by rw [hfs]; omega)
      rw [hfs, flat_rowT] at htk
      rw [hl']
      exact ⟨by rw [rowT_len, hl'], .inr ⟨g, cap, _, rfl, hgB, heap_sortedK _ hgh, hc1, hc2, by simp [Go.Sort.putCells, hc3], htk⟩⟩
end Go.Proofs.YtdnccdobnhbpeaaDoor

namespace Go.Proofs.YtdnccdobnhbpeaaDoor
open Go Go.RowKit Go.Shelf Go.Maps Go.ChangeShapes
set_option linter.unusedVariables false
set_option linter.unusedSimpArgs false

theorem GotT.form {w : World} {v : Value} {ts : List T3} (h : GotT w v ts) : ∃ p n c, v = .slice p n c := by
  obtain ⟨p, c, e, _⟩ := h
  exact ⟨p, _, c, e⟩
theorem ownsRow_base {w : World} {base base' e size n : Nat} {v : Value} {xs : List Value} (h : w.ownsRow base e size v n xs) (hb : base' ≤ base) : w.ownsRow base' e size v n xs := by
  refine ⟨h.1, ?_⟩
  rcases h.2 with h0 | ⟨g, cap, cur, h1, h2, r⟩
  · exact .inl h0
  · exact .inr ⟨g, cap, cur, h1, Nat.le_trans hb h2, r⟩
def tssL (s : List Int) (a b : Int) : Nat → List T3
  | 0 => occL s a b
  | 1 => cj1 s a b (nbs b) ++ cj2 s a b (nbs a)
  | 2 => muL s a b (standL s (fg s a) 12)
  | _ => trL s a b (nbs a)
/-- All ties, as they are gathered. -/
def rawL (s : List Int) (a b : Int) : List T3 := catT (tssL s a b) 4
theorem rawL_len (s : List Int) (a b : Int) : (rawL s a b).length ≤ 40 := by
  have h0 : (occL s a b).length ≤ 1 := by unfold occL; split <;> simp
  have h1 := cj1_len s a b (nbs b)
  have h2 := cj2_len s a b (nbs a)
  have h3 := muL_len s a b (standL s (fg s a) 12)
  have h4 := standL_len s (fg s a) 12
  have h5 := trL_len s a b (nbs a)
  have hn : ∀ x, (nbs x).length = 2 := fun x => rfl
  rw [hn] at h1 h2 h5
  have e : rawL s a b = occL s a b ++ (cj1 s a b (nbs b) ++ cj2 s a b (nbs a)) ++ muL s a b (standL s (fg s a) 12) ++ trL s a b (nbs a) := by
    unfold rawL
    rw [catT_succ, catT_succ, catT_succ, catT_succ]
    rfl
  rw [e]
  simp only [List.length_append]
  omega
/-- What the operations that gather come to. -/
def TiR (n₀ : Nat) (cs : Array Value) (s : List Int) (a b : Int) : Nat → Value → World → Prop
  | 0, x, _ => x = .agg cs
  | 1, x, _ => x = .int .i64 a
  | 2, x, _ => x = .int .i64 b
  | 3, x, V => GotT V x (occL s a b)
  | 4, x, _ => x = .agg cs
  | 5, x, _ => x = .int .i64 a
  | 6, x, _ => x = .int .i64 b
  | 7, x, V => GotT V x (cj1 s a b (nbs b) ++ cj2 s a b (nbs a))
  | 8, x, _ => x = .agg cs
  | 9, x, _ => x = .int .i64 a
  | 10, x, _ => x = .int .i64 b
  | 11, x, V => GotT V x (muL s a b (standL s (fg s a) 12))
  | 12, x, _ => x = .agg cs
  | 13, x, _ => x = .int .i64 a
  | 14, x, _ => x = .int .i64 b
  | 15, x, V => GotT V x (trL s a b (nbs a))
  | 16, x, V => ∃ g, x = .slice (some ⟨g, 0, none⟩) 4 4 ∧ g < V.heap.size ∧ ∀ k, k < 4 → ∃ v, V.cell? ⟨g, k, none⟩ = some v ∧ GotT V v (tssL s a b k)
  | 17, x, V => V.ownsRow n₀ 66 3 x (rawL s a b).length (rowT (rawL s a b))
  | 18, x, V => V.ownsRow n₀ 66 3 x (rawL s a b).length (rowT (rawL s a b))
  | _, _, _ => True
theorem TiR.stab (n₀ : Nat) (cs : Array Value) (s : List Int) (a b : Int) (i : Nat) (x : Value) (V V' : World) (h : TiR n₀ cs s a b i x V) (hb : Below V.heap.size V V') : TiR n₀ cs s a b i x V' := by
  match i with
  | 0 => exact h
  | 1 => exact h
  | 2 => exact h
  | 3 => exact GotT.below h hb (Nat.le_refl _)
  | 4 => exact h
  | 5 => exact h
  | 6 => exact h
  | 7 => exact GotT.below h hb (Nat.le_refl _)
  | 8 => exact h
  | 9 => exact h
  | 10 => exact h
  | 11 => exact GotT.below h hb (Nat.le_refl _)
  | 12 => exact h
  | 13 => exact h
  | 14 => exact h
  | 15 => exact GotT.below h hb (Nat.le_refl _)
  | 16 =>
    obtain ⟨g, h1, h2, h3⟩ := h
    refine ⟨g, h1, Nat.lt_of_lt_of_le h2 hb.size, fun k hk => ?_⟩
    obtain ⟨v, h4, h5⟩ := h3 k hk
    exact ⟨v, (hb.cell (p := ⟨g, k, none⟩) h2).trans h4, h5.below hb (Nat.le_refl _)⟩
  | 17 => exact ownsRow_keptB h (grown_of_below hb) (fun r e => by cases e)
  | 18 => exact ownsRow_keptB h (grown_of_below hb) (fun r e => by cases e)
  | n + 19 => exact h
attribute [local go_sem] Oper.semAt_some
set_option maxRecDepth 100000 in
set_option maxHeartbeats 8000000 in
theorem ties_in (cs : Array Value) (s : List Int) (mb : Nat) (hC : Circ cs s (some mb)) (a b : Int) (ha : Hou a) (hb : Hou b) (base : Nat) (Dm : DataW Unit) (w : World) (HG : Hid (w.ownsGroups Tryd.prog 22 base 3 .i64 mb 12 Dm)) (hAt : Hid (∀ f : Int, Dm.atKey (.int .i64 f) .nil = stD s f 12)) (hF : Fig (fg s a)) (hw6 : 6 ≤ w.heap.size) :
    CallsIn Fence.wide 10 Tryd.prog 41 #[.agg cs, .int .i64 a, .int .i64 b] w fun e w' => ∃ v ts, e = .returned v ∧ ts.Perm (rawL s a b) ∧ SortedT ts ∧ w'.ownsRow w.heap.size 66 3 v ts.length (rowT ts) ∧ Below w.heap.size w w' := by
  have J3 := Blk.new w 84 cs
  have hB0 := below1 w (.cells cs 84)
  refine callsIn_of_wp_marks Tryd.func41 rfl trivial ?_ rfl
  simp only [Tryd.ntmps41, List.size_toArray, List.length_cons, List.length_nil, Nat.reduceAdd, Nat.reduceSub, Array.replicate_succ, Array.replicate_zero, List.push_toArray, List.append_toArray, List.nil_append, List.cons_append]
  gi_wp2_with fail
  refine wpIn_region_mono follows_mixedB [some 8, some 9, some 10, some 11, some 12, some 13, some 14, some 15, some 16, some 17, some 18, some 19, some 20, some 21, some 22, some 23, some 24, some 25, some 7] (by kernel_rfl) (TiR w.heap.size cs s a b) (TiR.stab _ _ _ _ _) ?step ?fin
  case step =>
    intro i hi a1 V FD
    have hi : i < 19 := hi
    have e : i = 0 ∨ i = 1 ∨ i = 2 ∨ i = 3 ∨ i = 4 ∨ i = 5 ∨ i = 6 ∨ i = 7 ∨ i = 8 ∨ i = 9 ∨ i = 10 ∨ i = 11 ∨ i = 12 ∨ i = 13 ∨ i = 14 ∨ i = 15 ∨ i = 16 ∨ i = 17 ∨ i = 18 := by omega
    clear hi
    rcases e with rfl | rfl | rfl | rfl | rfl | rfl | rfl | rfl | rfl | rfl | rfl | rfl | rfl | rfl | rfl | rfl | rfl | rfl | rfl
    · have e3 : a1.tmps[3]?.getD undef = (.pointer (some ⟨w.heap.size, 0, none⟩)) := (FD.kept 3 (by kernel_rfl)).trans rfl
      refine wpOpIn_step rfl (fun K hK => ?_)
      refine Eq.mpr (if_pos (by rfl)) ?_
      exact operIn_load_row 84 (.tmp 3) rfl w.heap.size (eval_tmp e3) 84 cs (0, 0) _ (J3.below FD.below J3.lt) Tryd.underlying84 rfl (circ_info hC) (hK _ _ ⟨_, rfl, rfl, Below.refl _ _⟩)
    · have e1 : a1.tmps[1]?.getD undef = (.int .i64 a) := (FD.kept 1 (by kernel_rfl)).trans rfl
      refine wpOpIn_step rfl (fun K hK => ?_)
      refine Eq.mpr (if_pos (by rfl)) ?_
      go_simp
      exact hK _ _ ⟨_, rfl, rfl, Below.refl _ _⟩
    · have e2 : a1.tmps[2]?.getD undef = (.int .i64 b) := (FD.kept 2 (by kernel_rfl)).trans rfl
      refine wpOpIn_step rfl (fun K hK => ?_)
      refine Eq.mpr (if_pos (by rfl)) ?_
      go_simp
      exact hK _ _ ⟨_, rfl, rfl, Below.refl _ _⟩
    · have e8 : a1.tmps[8]?.getD undef = (.agg cs) := by
        obtain ⟨x, hx, ht⟩ := FD.dep 0 (by kernel_rfl)
        rw [ht 8 rfl]; exact hx
      have e9 : a1.tmps[9]?.getD undef = (.int .i64 a) := by
        obtain ⟨x, hx, ht⟩ := FD.dep 1 (by kernel_rfl)
        rw [ht 9 rfl]; exact hx
      have e10 : a1.tmps[10]?.getD undef = (.int .i64 b) := by
        obtain ⟨x, hx, ht⟩ := FD.dep 2 (by kernel_rfl)
        rw [ht 10 rfl]; exact hx
      refine wpOpIn_step rfl (fun K hK => ?_)
      refine Eq.mpr (if_pos (by rfl)) ?_
      go_simp
      gi_wp2_with fail
      refine ⟨trivial, ?_⟩
      refine (callsIn_wide.2 (callsIn_wide.1 (occ_in cs s (some mb) hC a b ha hb _))).mono ?_
      rintro e V2 ⟨v, rfl, hown, hb2⟩
      exact hK _ _ ⟨_, rfl, GotT.of_owns hown, hb2⟩
    · have e3 : a1.tmps[3]?.getD undef = (.pointer (some ⟨w.heap.size, 0, none⟩)) := (FD.kept 3 (by kernel_rfl)).trans rfl
      refine wpOpIn_step rfl (fun K hK => ?_)
      refine Eq.mpr (if_pos (by rfl)) ?_
      exact operIn_load_row 84 (.tmp 3) rfl w.heap.size (eval_tmp e3) 84 cs (0, 0) _ (J3.below FD.below J3.lt) Tryd.underlying84 rfl (circ_info hC) (hK _ _ ⟨_, rfl, rfl, Below.refl _ _⟩)
    · have e1 : a1.tmps[1]?.getD undef = (.int .i64 a) := (FD.kept 1 (by kernel_rfl)).trans rfl
      refine wpOpIn_step rfl (fun K hK => ?_)
      refine Eq.mpr (if_pos (by rfl)) ?_
      go_simp
      exact hK _ _ ⟨_, rfl, rfl, Below.refl _ _⟩
    · have e2 : a1.tmps[2]?.getD undef = (.int .i64 b) := (FD.kept 2 (by kernel_rfl)).trans rfl
      refine wpOpIn_step rfl (fun K hK => ?_)
      refine Eq.mpr (if_pos (by rfl)) ?_
      go_simp
      exact hK _ _ ⟨_, rfl, rfl, Below.refl _ _⟩
    · have e12 : a1.tmps[12]?.getD undef = (.agg cs) := by
        obtain ⟨x, hx, ht⟩ := FD.dep 4 (by kernel_rfl)
        rw [ht 12 rfl]; exact hx
      have e13 : a1.tmps[13]?.getD undef = (.int .i64 a) := by
        obtain ⟨x, hx, ht⟩ := FD.dep 5 (by kernel_rfl)
        rw [ht 13 rfl]; exact hx
      have e14 : a1.tmps[14]?.getD undef = (.int .i64 b) := by
        obtain ⟨x, hx, ht⟩ := FD.dep 6 (by kernel_rfl)
        rw [ht 14 rfl]; exact hx
      refine wpOpIn_step rfl (fun K hK => ?_)
      refine Eq.mpr (if_pos (by rfl)) ?_
      go_simp
      gi_wp2_with fail
      refine ⟨trivial, ?_⟩
      refine (callsIn_wide.2 (callsIn_wide.1 (conj_in cs s (some mb) hC a b ha hb _))).mono ?_
      rintro e V2 ⟨v, rfl, hown, hb2⟩
      exact hK _ _ ⟨_, rfl, GotT.of_owns hown, hb2⟩
    · have e3 : a1.tmps[3]?.getD undef = (.pointer (some ⟨w.heap.size, 0, none⟩)) := (FD.kept 3 (by kernel_rfl)).trans rfl
      refine wpOpIn_step rfl (fun K hK => ?_)
      refine Eq.mpr (if_pos (by rfl)) ?_
      exact operIn_load_row 84 (.tmp 3) rfl w.heap.size (eval_tmp e3) 84 cs (0, 0) _ (J3.below FD.below J3.lt) Tryd.underlying84 rfl (circ_info hC) (hK _ _ ⟨_, rfl, rfl, Below.refl _ _⟩)
    · have e1 : a1.tmps[1]?.getD undef = (.int .i64 a) := (FD.kept 1 (by kernel_rfl)).trans rfl
      refine wpOpIn_step rfl (fun K hK => ?_)
      refine Eq.mpr (if_pos (by rfl)) ?_
      go_simp
      exact hK _ _ ⟨_, rfl, rfl, Below.refl _ _⟩
    · have e2 : a1.tmps[2]?.getD undef = (.int .i64 b) := (FD.kept 2 (by kernel_rfl)).trans rfl
      refine wpOpIn_step rfl (fun K hK => ?_)
      refine Eq.mpr (if_pos (by rfl)) ?_
      go_simp
      exact hK _ _ ⟨_, rfl, rfl, Below.refl _ _⟩
    · have e16 : a1.tmps[16]?.getD undef = (.agg cs) := by
        obtain ⟨x, hx, ht⟩ := FD.dep 8 (by kernel_rfl)
        rw [ht 16 rfl]; exact hx
      have e17 : a1.tmps[17]?.getD undef = (.int .i64 a) := by
        obtain ⟨x, hx, ht⟩ := FD.dep 9 (by kernel_rfl)
        rw [ht 17 rfl]; exact hx
      have e18 : a1.tmps[18]?.getD undef = (.int .i64 b) := by
        obtain ⟨x, hx, ht⟩ := FD.dep 10 (by kernel_rfl)
        rw [ht 18 rfl]; exact hx
      refine wpOpIn_step rfl (fun K hK => ?_)
      refine Eq.mpr (if_pos (by rfl)) ?_
      go_simp
      gi_wp2_with fail
      refine ⟨trivial, ?_⟩
      refine (callsIn_wide.2 (callsIn_wide.1 (mut_in cs s mb hC a b ha hb base Dm _ (Lib.hid (groups_kept HG.out (grown_of_below (hB0.trans (FD.below.mono hB0.size))) (fun r e => by cases e))) hAt hF))).mono ?_
      rintro e V2 ⟨v, rfl, hown, hb2⟩
      exact hK _ _ ⟨_, rfl, GotT.of_owns hown, hb2⟩
    · have e3 : a1.tmps[3]?.getD undef = (.pointer (some ⟨w.heap.size, 0, none⟩)) := (FD.kept 3 (by kernel_rfl)).trans rfl
      refine wpOpIn_step rfl (fun K hK => ?_)
      refine Eq.mpr (if_pos (by rfl)) ?_
      exact operIn_load_row 84 (.tmp 3) rfl w.heap.size (eval_tmp e3) 84 cs (0, 0) _ (J3.below FD.below J3.lt) Tryd.underlying84 rfl (circ_info hC) (hK _ _ ⟨_, rfl, rfl, Below.refl _ _⟩)
    · have e1 : a1.tmps[1]?.getD undef = (.int .i64 a) := (FD.kept 1 (by kernel_rfl)).trans rfl
      refine wpOpIn_step rfl (fun K hK => ?_)
      refine Eq.mpr (if_pos (by rfl)) ?_
      go_simp
      exact hK _ _ ⟨_, rfl, rfl, Below.refl _ _⟩
    · have e2 : a1.tmps[2]?.getD undef = (.int .i64 b) := (FD.kept 2 (by kernel_rfl)).trans rfl
      refine wpOpIn_step rfl (fun K hK => ?_)
      refine Eq.mpr (if_pos (by rfl)) ?_
      go_simp
      exact hK _ _ ⟨_, rfl, rfl, Below.refl _ _⟩
    · have e20 : a1.tmps[20]?.getD undef = (.agg cs) := by
        obtain ⟨x, hx, ht⟩ := FD.dep 12 (by kernel_rfl)
        rw [ht 20 rfl]; exact hx
      have e21 : a1.tmps[21]?.getD undef = (.int .i64 a) := by
        obtain ⟨x, hx, ht⟩ := FD.dep 13 (by kernel_rfl)
        rw [ht 21 rfl]; exact hx
      have e22 : a1.tmps[22]?.getD undef = (.int .i64 b) := by
        obtain ⟨x, hx, ht⟩ := FD.dep 14 (by kernel_rfl)
        rw [ht 22 rfl]; exact hx
      refine wpOpIn_step rfl (fun K hK => ?_)
      refine Eq.mpr (if_pos (by rfl)) ?_
      go_simp
      gi_wp2_with fail
      refine ⟨trivial, ?_⟩
      refine (callsIn_wide.2 (callsIn_wide.1 (trans_in cs s (some mb) hC a b ha hb _))).mono ?_
      rintro e V2 ⟨v, rfl, hown, hb2⟩
      exact hK _ _ ⟨_, rfl, GotT.of_owns hown, hb2⟩
    · obtain ⟨x11, hx11, ht11⟩ := FD.dep 3 (by kernel_rfl)
      have e11 := ht11 11 rfl
      obtain ⟨x15, hx15, ht15⟩ := FD.dep 7 (by kernel_rfl)
      have e15 := ht15 15 rfl
      obtain ⟨x19, hx19, ht19⟩ := FD.dep 11 (by kernel_rfl)
      have e19 := ht19 19 rfl
      obtain ⟨x23, hx23, ht23⟩ := FD.dep 15 (by kernel_rfl)
      have e23 := ht23 23 rfl
      obtain ⟨q11, n11, k11, rfl⟩ := GotT.form hx11
      obtain ⟨q15, n15, k15, rfl⟩ := GotT.form hx15
      obtain ⟨q19, n19, k19, rfl⟩ := GotT.form hx19
      obtain ⟨q23, n23, k23, rfl⟩ := GotT.form hx23
      refine wpOpIn_step rfl (fun K hK => ?_)
      refine Eq.mpr (if_pos (by rfl)) ?_
      go_simp
      refine hK _ _ ⟨_, rfl, ⟨V.heap.size, rfl, by simp, fun k hk => ?_⟩, below1 _ _⟩
      have hbn := below1 V (.cells #[.slice q11 n11 k11, .slice q15 n15 k15, .slice q19 n19 k19, .slice q23 n23 k23] 40)
      have hBn := Blk.new V 40 #[.slice q11 n11 k11, .slice q15 n15 k15, .slice q19 n19 k19, .slice q23 n23 k23]
      have e : k = 0 ∨ k = 1 ∨ k = 2 ∨ k = 3 := by omega
      rcases e with rfl | rfl | rfl | rfl
      · exact ⟨_, hBn.cell 0, GotT.below hx11 hbn (Nat.le_refl _)⟩
      · exact ⟨_, hBn.cell 1, GotT.below hx15 hbn (Nat.le_refl _)⟩
      · exact ⟨_, hBn.cell 2, GotT.below hx19 hbn (Nat.le_refl _)⟩
      · exact ⟨_, hBn.cell 3, GotT.below hx23 hbn (Nat.le_refl _)⟩
    · obtain ⟨x24, ⟨g, rfl, hg, hvs⟩, ht24⟩ := FD.dep 16 (by kernel_rfl)
      have e24 := ht24 24 rfl
      refine wpOpIn_step rfl (fun K hK => ?_)
      refine Eq.mpr (if_pos (by rfl)) ?_
      go_simp
      gi_wp2_with fail
      refine ⟨trivial, ?_⟩
      refine (callsIn_wide.2 (concat_any g 4 4 (tssL s a b) _ hg (by omega) hvs (Nat.le_trans (rawL_len s a b) (by omega)))).mono ?_
      rintro e V2 ⟨v, rfl, hown, hb2⟩
      exact hK _ _ ⟨_, rfl, ownsRow_base hown (Nat.le_trans hB0.size FD.below.size), hb2⟩
    · obtain ⟨x25, hx25, ht25⟩ := FD.dep 17 (by kernel_rfl)
      have e25 := ht25 25 rfl
      refine wpOpIn_step rfl (fun K hK => ?_)
      refine Eq.mpr (if_pos (by rfl)) ?_
      go_simp
      exact hK _ _ ⟨_, rfl, hx25, Below.refl _ _⟩
  case fin =>
    intro vv V hbv hv
    have h18 : V.ownsRow w.heap.size 66 3 (vv 18) (rawL s a b).length (rowT (rawL s a b)) := hv 18 (by decide)
    have hBV := hB0.trans (hbv.mono hB0.size)
    have hrl := rawL_len s a b
    simp only [finD, List.set_cons_succ, List.set_cons_zero]
    generalize vv 18 = x18 at h18 ⊢
    generalize vv 0 = x0
    generalize vv 1 = x1
    generalize vv 2 = x2
    generalize vv 3 = x3
    generalize vv 4 = x4
    generalize vv 5 = x5
    generalize vv 6 = x6
    generalize vv 7 = x7
    generalize vv 8 = x8
    generalize vv 9 = x9
    generalize vv 10 = x10
    generalize vv 11 = x11
    generalize vv 12 = x12
    generalize vv 13 = x13
    generalize vv 14 = x14
    generalize vv 15 = x15
    generalize vv 16 = x16
    generalize vv 17 = x17
    clear hv
    gi_wp2_with fail
    refine ⟨trivial, ?_⟩
    refine (callsIn_wide.2 (sort_any w.heap.size (rawL s a b) x18 V h18 hBV.size (Nat.le_trans hw6 hBV.size) (by omega))).mono ?_
    rintro e w2 ⟨rfl, ts, hperm, hsort, hown, hb2⟩
    gi_wp2
    exact ⟨_, results_tmp rfl _ _ _, x18, ts, rfl, hperm, hsort, hown, hBV.trans hb2⟩
end Go.Proofs.YtdnccdobnhbpeaaDoor

namespace Go.Proofs.YtdnccdobnhbpeaaDoor
open Go Go.RowKit Go.Shelf Go.Maps Go.ChangeShapes
set_option linter.unusedVariables false
set_option linter.unusedSimpArgs false

theorem apartIn_run : ((List.range 12).all fun a => (List.range 12).all fun b => isI (Int.ofNat (apartN (a + 1) (b + 1))) (Ev.lstartT Tryd.prog 6 [] 2000 49 [.int .i64 (Int.ofNat (a + 1)), .int .i64 (Int.ofNat (b + 1))])) = true := by kernel_rfl
def apN (a b : Int) : Nat := apartN a.toNat b.toNat
theorem apartIn_any (a b : Int) (ha : Hou a) (hb : Hou b) (w : World) (hw : 6 ≤ w.heap.size) :
    Calls Tryd.prog 49 #[.int .i64 a, .int .i64 b] w fun e w' => e = .returned (.int .i64 (apN a b : Nat)) ∧ Below w.heap.size w w' := by
  obtain ⟨n, hn, rfl⟩ := hou_nat ha
  obtain ⟨m, hm, rfl⟩ := hou_nat hb
  have h := List.all_eq_true.1 (List.all_eq_true.1 apartIn_run n (List.mem_range.2 hn)) m (List.mem_range.2 hm)
  exact run_I follows_mixed h (by decide) hw no_tabs
theorem apN_le {a b : Int} (ha : Hou a) (hb : Hou b) : apN a b ≤ 6 := by
  obtain ⟨n, hn, rfl⟩ := hou_nat ha
  obtain ⟨m, hm, rfl⟩ := hou_nat hb
  unfold apN apartN
  simp only [Int.toNat_natCast, Int.ofNat_eq_natCast]
  omega
def isAsp (n : Nat) : Bool := n == 2 || n == 3 || n == 4 || n == 6
def asL (b : Int) (zs : List Int) : List T3 := (zs.filter fun x => isAsp (apN x b)).map fun x => (((apN x b : Nat) : Int), x, b)
theorem asL_yes {b x : Int} {zs : List Int} (h : isAsp (apN x b) = true) : asL b (zs ++ [x]) = asL b zs ++ [(((apN x b : Nat) : Int), x, b)] := by
  simp only [asL, List.filter_append, List.map_append, List.filter_cons, List.filter_nil, h]; simp
theorem asL_no {b x : Int} {zs : List Int} (h : isAsp (apN x b) = false) : asL b (zs ++ [x]) = asL b zs := by
  simp only [asL, List.filter_append, List.map_append, List.filter_cons, List.filter_nil, h]; simp
theorem asL_len (b : Int) (zs : List Int) : (asL b zs).length ≤ zs.length := by simp only [asL, List.length_map]; exact List.length_filter_le _ _
theorem info_asp : (Tryd.prog.info? 72).map (fun i => (i.zero, i.size, i.bytes)) = some (some (.agg #[.int .i64 0, .int .i64 0, .int .i64 0]), 3, 24) := by kernel_rfl
attribute [local go_sem] Oper.semAt_some
set_option maxRecDepth 100000 in
set_option maxHeartbeats 8000000 in
theorem aspects_in (cs : Array Value) (s : List Int) (mb : Nat) (hC : Circ cs s (some mb)) (a b : Int) (ha : Hou a) (hb : Hou b) (base : Nat) (Dm : DataW Unit) (w : World) (HG : Hid (w.ownsGroups Tryd.prog 22 base 3 .i64 mb 12 Dm)) (hAt : Hid (∀ f : Int, Dm.atKey (.int .i64 f) .nil = stD s f 12)) (hF : Fig (fg s a)) (hw6 : 6 ≤ w.heap.size) :
    CallsIn Fence.wide 6 Tryd.prog 42 #[.agg cs, .int .i64 a, .int .i64 b] w fun e w' => ∃ v, e = .returned v ∧ w'.ownsRow w.heap.size 72 3 v (asL b (standL s (fg s a) 12)).length (rowT (asL b (standL s (fg s a) 12))) ∧ Below w.heap.size w w' := by
  obtain ⟨i0, hi, hz0, hz1, hz2⟩ := info_parts info_asp
  have J3 := Blk.new w 84 cs
  have hB0 := below1 w (.cells cs 84)
  have HKEY := Lib.hid (show keyOf Tryd.prog 22 (.int .i64 (fg s a)) = some (.int .i64 (fg s a)) from keyOf_int_mk Tryd.underlying22 (by unfold Fig at hF; simp [Lit.wf, IntKind.min, IntKind.max, IntKind.signed, IntKind.bits]; omega))
  refine callsIn_of_wp_marks Tryd.func42 rfl trivial ?_ rfl
  simp only [Tryd.ntmps42, List.size_toArray, List.length_cons, List.length_nil, Nat.reduceAdd, Nat.reduceSub, Array.replicate_succ, Array.replicate_zero, List.push_toArray, List.append_toArray, List.nil_append, List.cons_append]
  gi_wp2_with fail
  refine wpIn_region_mono follows_mixedB [some 11, some 12, some 13, some 14, some 15, some 16, some 17, some 18] (by kernel_rfl) (MuR w.heap.size mb cs a (fg s a) base (standL s (fg s a) 12)) (MuR.stab _ _ _ _ _ _ _) ?step ?fin
  case step =>
    intro i hi a1 V FD
    have hi : i < 8 := hi
    have e : i = 0 ∨ i = 1 ∨ i = 2 ∨ i = 3 ∨ i = 4 ∨ i = 5 ∨ i = 6 ∨ i = 7 := by omega
    clear hi
    rcases e with rfl | rfl | rfl | rfl | rfl | rfl | rfl | rfl
    · have e3 : a1.tmps[3]?.getD undef = (.pointer (some ⟨w.heap.size, 0, none⟩)) := (FD.kept 3 (by kernel_rfl)).trans rfl
      refine wpOpIn_step rfl (fun K hK => ?_)
      refine Eq.mpr (if_pos (by rfl)) ?_
      go_simp
      exact hK _ _ ⟨_, rfl, rfl, Below.refl _ _⟩
    · have e11 : a1.tmps[11]?.getD undef = (.pointer (some ⟨w.heap.size, 12, none⟩)) := by
        obtain ⟨x, hx, ht⟩ := FD.dep 0 (by kernel_rfl)
        rw [ht 11 rfl]; exact hx
      refine wpOpIn_step rfl (fun K hK => ?_)
      refine Eq.mpr (if_pos (by rfl)) ?_
      have hc12 : V.cell? ⟨w.heap.size, 12, none⟩ = some (.map (some mb)) := ((J3.below FD.below J3.lt).cell 12).trans hC.map
      go_simp
      exact hK _ _ ⟨_, rfl, rfl, Below.refl _ _⟩
    · have e3 : a1.tmps[3]?.getD undef = (.pointer (some ⟨w.heap.size, 0, none⟩)) := (FD.kept 3 (by kernel_rfl)).trans rfl
      refine wpOpIn_step rfl (fun K hK => ?_)
      refine Eq.mpr (if_pos (by rfl)) ?_
      exact operIn_load_row 84 (.tmp 3) rfl w.heap.size (eval_tmp e3) 84 cs (0, 0) _ (J3.below FD.below J3.lt) Tryd.underlying84 rfl (circ_info hC) (hK _ _ ⟨_, rfl, rfl, Below.refl _ _⟩)
    · have e1 : a1.tmps[1]?.getD undef = (.int .i64 a) := (FD.kept 1 (by kernel_rfl)).trans rfl
      refine wpOpIn_step rfl (fun K hK => ?_)
      refine Eq.mpr (if_pos (by rfl)) ?_
      go_simp
      exact hK _ _ ⟨_, rfl, rfl, Below.refl _ _⟩
    · have e13 : a1.tmps[13]?.getD undef = (.agg cs) := by
        obtain ⟨x, hx, ht⟩ := FD.dep 2 (by kernel_rfl)
        rw [ht 13 rfl]; exact hx
      have e14 : a1.tmps[14]?.getD undef = (.int .i64 a) := by
        obtain ⟨x, hx, ht⟩ := FD.dep 3 (by kernel_rfl)
        rw [ht 14 rfl]; exact hx
      refine wpOpIn_step rfl (fun K hK => ?_)
      refine Eq.mpr (if_pos (by rfl)) ?_
      go_simp
      gi_wp2_with fail
      refine ⟨trivial, ?_⟩
      refine (callsIn_wide.2 (figureC_any cs s (some mb) hC a ha _)).mono ?_
      rintro e V2 ⟨rfl, hb2⟩
      exact hK _ _ ⟨_, rfl, rfl, hb2⟩
    · have e12 : a1.tmps[12]?.getD undef = (.map (some mb)) := by
        obtain ⟨x, hx, ht⟩ := FD.dep 1 (by kernel_rfl)
        rw [ht 12 rfl]; exact hx
      have e15 : a1.tmps[15]?.getD undef = (.int .i64 (fg s a)) := by
        obtain ⟨x, hx, ht⟩ := FD.dep 4 (by kernel_rfl)
        rw [ht 15 rfl]; exact hx
      refine wpOpIn_step rfl (fun K hK => ?_)
      refine Eq.mpr (if_pos (by rfl)) ?_
      refine operIn_lookup_groups (.tmp 12) (.tmp 15) 82 rfl 22 25 3 .i64 keyedF Tryd.underlying82 (zeroSI V) base mb 12 Dm (eval_tmp e12) (groups_kept HG.out (grown_of_below (hB0.trans (FD.below.mono hB0.size))) (fun r e => by cases e)) (by unfold maxLen; omega) (.int .i64 (fg s a)) (.int .i64 (fg s a)) (eval_tmp e15) HKEY.out ?_
      intro v zs hat hoi hzl
      exact hK _ _ ⟨_, rfl, ⟨zs, hoi, look_stand hoi (((hAt.out (fg s a)).symm.trans hat))⟩, Below.refl _ _⟩
    · obtain ⟨x20, ⟨zs, hoi, hzs⟩, ht20⟩ := FD.dep 5 (by kernel_rfl)
      have e20 := ht20 16 rfl
      obtain ⟨p20, c20, rfl, hr20⟩ := Got.of_owns hoi.1
      refine wpOpIn_step rfl (fun K hK => ?_)
      refine Eq.mpr (if_pos (by rfl)) ?_
      go_simp
      exact hK _ _ ⟨_, rfl, (by first | rfl | (rw [hzs]; rfl)), Below.refl _ _⟩
    · refine wpOpIn_step rfl (fun K hK => ?_)
      refine Eq.mpr (if_pos (by rfl)) ?_
      go_simp
      exact hK _ _ ⟨_, rfl, rfl, Below.refl _ _⟩
  case fin =>
    intro vv V hb3 hv
    have h0 : vv 0 = .pointer (some ⟨w.heap.size, 12, none⟩) := hv 0 (by decide)
    have h1 : vv 1 = .map (some mb) := hv 1 (by decide)
    have h2 : vv 2 = .agg cs := hv 2 (by decide)
    have h3 : vv 3 = .int .i64 a := hv 3 (by decide)
    have h4 : vv 4 = .int .i64 (fg s a) := hv 4 (by decide)
    obtain ⟨ys, hoi, hys⟩ : ∃ ys, V.ownsInts base 3 .i64 (vv 5) ys ∧ ys = standL s (fg s a) 12 := hv 5 (by decide)
    have h6 : vv 6 = .int .i64 ((standL s (fg s a) 12).length : Int) := hv 6 (by decide)
    have h7 : vv 7 = .int .i64 0 := hv 7 (by decide)
    have hzH : ∀ k, k < (standL s (fg s a) 12).length → Hou (nth (standL s (fg s a) 12) k) := standL_hou s (fg s a)
    have hzL := standL_len s (fg s a) 12
    obtain ⟨zs, hzs⟩ : ∃ zs, standL s (fg s a) 12 = zs := ⟨_, rfl⟩
    rw [hzs] at hys h6 hzH hzL
    have HZS := Lib.hid hzs
    have HZH := Lib.hid hzH
    subst hys
    have hoi1 := hoi.1
    obtain ⟨pz, cz, hvz, _⟩ := Got.of_owns hoi1
    simp only [finD, List.set_cons_succ, List.set_cons_zero, h0, h1, h2, h3, h4, h6, h7, hvz]
    rw [hvz] at hoi1
    have hBV := hB0.trans (hb3.mono hB0.size)
    clear h0 h1 h2 h3 h4 h6 h7 hzs hoi hvz hv hb3 J3 hB0 hzH HG HKEY
    obtain ⟨n, hn⟩ : ∃ n, ys.length = n := ⟨_, rfl⟩
    have HNL := Lib.hid hn
    have hnI : (n : Int) ≤ 12 := by omega
    rw [hn] at hoi1 hzL ⊢
    clear hn
    gi_wp2
    refine wpIn_loop (fun ac W => ∃ (k : Nat) (u7 u9 u10 u19 u20 u21 u22 u23 u24 u25 u26 u27 u28 u29 u30 u31 u32 u33 u34 u35 u36 u37 u38 : Value), k ≤ n ∧ W.ownsRow w.heap.size 72 3 u7 (asL b (ys.take k)).length (rowT (asL b (ys.take k))) ∧ Below w.heap.size w W ∧ W.ownsRow base 3 1 (.slice pz n cz) n (ys.map (Value.int .i64)) ∧ ac = { tmps := #[.agg cs, .int .i64 a, .int .i64 b, .pointer (some ⟨w.heap.size, 0, none⟩), undef, undef, .slice none 0 0, u7, undef, u9, u10, .pointer (some ⟨w.heap.size, 12, none⟩), .map (some mb), .agg cs, .int .i64 a, .int .i64 (fg s a), .slice pz n cz, .int .i64 (n : Int), .int .i64 (k : Int), u19, u20, u21, u22, u23, u24, u25, u26, u27, u28, u29, u30, u31, u32, u33, u34, u35, u36, u37, u38, undef], defers := [] }) (fun ac W => n - (intOf (ac.tmps.getD 18 undef)).toNat) ?start ?round
    case start => exact ⟨0, .slice none 0 0, undef, undef, undef, undef, undef, undef, undef, undef, undef, undef, undef, undef, undef, undef, undef, undef, undef, undef, undef, undef, undef, undef, Nat.zero_le _, World.ownsRow_nil _ _ _ _, hBV, hoi1, rfl⟩
    case round =>
      rintro ac wr ⟨k, u7, u9, u10, u19, u20, u21, u22, u23, u24, u25, u26, u27, u28, u29, u30, u31, u32, u33, u34, u35, u36, u37, u38, hk, hrw, hbl, hvz, rfl⟩
      by_cases hlt : k < n
      · have hlt2 : k < ys.length := by rw [HNL.out]; exact hlt
        have hvzL : wr.ownsRow base 3 1 (.slice pz n cz) ys.length (ys.map (Value.int .i64)) := by rw [HNL.out]; exact hvz
        obtain ⟨pz2, cz2, hvz2, hRz⟩ := Got.of_owns hvzL
        simp only [Value.slice.injEq] at hvz2
        obtain ⟨rfl, hnn, rfl⟩ := hvz2
        clear hnn
        obtain ⟨q, o, rfl, hcz⟩ := hRz k hlt2
        have hxh := HZH.out k hlt2
        have hki : (k : Int) < (n : Int) := by omega
        have hwk : IntKind.i64.wrap ((k : Int) + 1) = ((k + 1 : Nat) : Int) := IntWalk.i64_in _ (by omega)
        have HTK := Lib.hid (take_succ hlt2)
        have hTb := asL_len b (ys.take k)
        rw [List.length_take] at hTb
        obtain ⟨x, hx⟩ : ∃ x, nth ys k = x := ⟨_, rfl⟩
        rw [hx] at hcz hxh HTK
        obtain ⟨T, hT⟩ : ∃ T, asL b (ys.take k) = T := ⟨_, rfl⟩
        rw [hT] at hrw hTb
        have HT := Lib.hid hT
        have hTb2 : T.length ≤ 12 := by omega
        have hw6r := Nat.le_trans hw6 hbl.size
        clear hx hT hRz hvzL hTb hoi1 hBV hlt2
        gi_wp2_with fail
        refine ⟨trivial, ?_⟩
        refine (callsIn_wide.2 (apartIn_any x b hxh hb wr hw6r)).mono ?_
        rintro e w2 ⟨rfl, hb2⟩
        have hbl2 := hbl.trans (hb2.mono hbl.size)
        have hrw2 := ownsRow_keptB hrw (grown_of_below hb2) (fun r e => by cases e)
        have hvz2 := ownsRow_keptB hvz (grown_of_below hb2) (fun r e => by cases e)
        have hd6 := apN_le hxh hb
        have hsz2 := hbl2.size
        obtain ⟨d, hd⟩ : ∃ d, apN x b = d := ⟨_, rfl⟩
        have HD := Lib.hid hd
        rw [hd] at hd6 ⊢
        clear hd hrw hvz hb2 hbl hcz
        have e : d = 0 ∨ d = 1 ∨ d = 2 ∨ d = 3 ∨ d = 4 ∨ d = 5 ∨ d = 6 := by omega
        rcases e with rfl | rfl | rfl | rfl | rfl | rfl | rfl
        · have HI := Lib.hid (show isAsp (apN x b) = false by rw [HD.out]; rfl)
          have HN := Lib.hid (asL_no (zs := ys.take k) HI.out)
          gi_wp2
          refine ⟨⟨k + 1, _, _, _, _, _, _, _, _, _, _, _, _, _, _, _, _, _, _, _, _, _, _, _, by omega, by rw [HTK.out, HN.out, HT.out]; exact hrw2, hbl2, hvz2, rfl⟩, ?_⟩
          simp [intOf]; omega
        · have HI := Lib.hid (show isAsp (apN x b) = false by rw [HD.out]; rfl)
          have HN := Lib.hid (asL_no (zs := ys.take k) HI.out)
          gi_wp2
          refine ⟨⟨k + 1, _, _, _, _, _, _, _, _, _, _, _, _, _, _, _, _, _, _, _, _, _, _, _, by omega, by rw [HTK.out, HN.out, HT.out]; exact hrw2, hbl2, hvz2, rfl⟩, ?_⟩
          simp [intOf]; omega
        · have HI := Lib.hid (show isAsp (apN x b) = true by rw [HD.out]; rfl)
          have HN := Lib.hid (asL_yes (zs := ys.take k) HI.out)
          gi_wp2_with (gi_at_builtin; refine wpListIn_append_own _ rfl _ _ 43 rfl w.heap.size 72 i0 (.agg #[.int .i64 0, .int .i64 0, .int .i64 0]) 3 24 Tryd.underlying43 hi hz0 hz1 hz2 rfl (by decide) _ _ _ rfl (hrw2.alloc _) ⟨w2.heap.size, 0, none⟩ 1 1 [.int .i64 2, .int .i64 x, .int .i64 b] rfl rfl (cell_three_new _ _ _ _ _) (by simp [Value.oneCell']) (by unfold maxLen; omega) (by omega) (by simp; omega) ?_)
          intro v' w4 hown' hgrow _
          have hq4 : ∀ j, u7.ownBlock = some j → w.heap.size ≤ j := owns_base hrw2
          have hvz4 := (hvz2.alloc (.cells #[.int .i64 2, .int .i64 x, .int .i64 b] 72)).kept hgrow (own_ne hvz2 hrw2 (by decide))
          have hbl4 := (hbl2.alloc hbl2.size (.cells #[.int .i64 2, .int .i64 x, .int .i64 b] 72)).grown hgrow (by simp; omega) hq4
          gi_wp2
          refine ⟨⟨k + 1, _, _, _, _, _, _, _, _, _, _, _, _, _, _, _, _, _, _, _, _, _, _, _, by omega, by rw [HTK.out, HN.out, HT.out, HD.out, rowT_snoc, List.length_append]; exact hown', hbl4, hvz4, rfl⟩, ?_⟩
          simp [intOf]; omega
        · have HI := Lib.hid (show isAsp (apN x b) = true by rw [HD.out]; rfl)
          have HN := Lib.hid (asL_yes (zs := ys.take k) HI.out)
          gi_wp2_with (gi_at_builtin; refine wpListIn_append_own _ rfl _ _ 43 rfl w.heap.size 72 i0 (.agg #[.int .i64 0, .int .i64 0, .int .i64 0]) 3 24 Tryd.underlying43 hi hz0 hz1 hz2 rfl (by decide) _ _ _ rfl (hrw2.alloc _) ⟨w2.heap.size, 0, none⟩ 1 1 [.int .i64 3, .int .i64 x, .int .i64 b] rfl rfl (cell_three_new _ _ _ _ _) (by simp [Value.oneCell']) (by unfold maxLen; omega) (by omega) (by simp; omega) ?_)
          intro v' w4 hown' hgrow _
          have hq4 : ∀ j, u7.ownBlock = some j → w.heap.size ≤ j := owns_base hrw2
          have hvz4 := (hvz2.alloc (.cells #[.int .i64 3, .int .i64 x, .int .i64 b] 72)).kept hgrow (own_ne hvz2 hrw2 (by decide))
          have hbl4 := (hbl2.alloc hbl2.size (.cells #[.int .i64 3, .int .i64 x, .int .i64 b] 72)).grown hgrow (by simp; omega) hq4
          gi_wp2
          refine ⟨⟨k + 1, _, _, _, _, _, _, _, _, _, _, _, _, _, _, _, _, _, _, _, _, _, _, _, by omega, by rw [HTK.out, HN.out, HT.out, HD.out, rowT_snoc, List.length_append]; exact hown', hbl4, hvz4, rfl⟩, ?_⟩
          simp [intOf]; omega
        · have HI := Lib.hid (show isAsp (apN x b) = true by rw [HD.out]; rfl)
          have HN := Lib.hid (asL_yes (zs := ys.take k) HI.out)
          gi_wp2_with (gi_at_builtin; refine wpListIn_append_own _ rfl _ _ 43 rfl w.heap.size 72 i0 (.agg #[.int .i64 0, .int .i64 0, .int .i64 0]) 3 24 Tryd.underlying43 hi hz0 hz1 hz2 rfl (by decide) _ _ _ rfl (hrw2.alloc _) ⟨w2.heap.size, 0, none⟩ 1 1 [.int .i64 4, .int .i64 x, .int .i64 b] rfl rfl (cell_three_new _ _ _ _ _) (by simp [Value.oneCell']) (by unfold maxLen; omega) (by omega) (by simp; omega) ?_)
          intro v' w4 hown' hgrow _
          have hq4 : ∀ j, u7.ownBlock = some j → w.heap.size ≤ j := owns_base hrw2
          have hvz4 := (hvz2.alloc (.cells #[.int .i64 4, .int .i64 x, .int .i64 b] 72)).kept hgrow (own_ne hvz2 hrw2 (by decide))
          have hbl4 := (hbl2.alloc hbl2.size (.cells #[.int .i64 4, .int .i64 x, .int .i64 b] 72)).grown hgrow (by simp; omega) hq4
          gi_wp2
          refine ⟨⟨k + 1, _, _, _, _, _, _, _, _, _, _, _, _, _, _, _, _, _, _, _, _, _, _, _, by omega, by rw [HTK.out, HN.out, HT.out, HD.out, rowT_snoc, List.length_append]; exact hown', hbl4, hvz4, rfl⟩, ?_⟩
          simp [intOf]; omega
        · have HI := Lib.hid (show isAsp (apN x b) = false by rw [HD.out]; rfl)
          have HN := Lib.hid (asL_no (zs := ys.take k) HI.out)
          gi_wp2
          refine ⟨⟨k + 1, _, _, _, _, _, _, _, _, _, _, _, _, _, _, _, _, _, _, _, _, _, _, _, by omega, by rw [HTK.out, HN.out, HT.out]; exact hrw2, hbl2, hvz2, rfl⟩, ?_⟩
          simp [intOf]; omega
        · have HI := Lib.hid (show isAsp (apN x b) = true by rw [HD.out]; rfl)
          have HN := Lib.hid (asL_yes (zs := ys.take k) HI.out)
          gi_wp2_with (gi_at_builtin; refine wpListIn_append_own _ rfl _ _ 43 rfl w.heap.size 72 i0 (.agg #[.int .i64 0, .int .i64 0, .int .i64 0]) 3 24 Tryd.underlying43 hi hz0 hz1 hz2 rfl (by decide) _ _ _ rfl (hrw2.alloc _) ⟨w2.heap.size, 0, none⟩ 1 1 [.int .i64 6, .int .i64 x, .int .i64 b] rfl rfl (cell_three_new _ _ _ _ _) (by simp [Value.oneCell']) (by unfold maxLen; omega) (by omega) (by simp; omega) ?_)
          intro v' w4 hown' hgrow _
          have hq4 : ∀ j, u7.ownBlock = some j → w.heap.size ≤ j := owns_base hrw2
          have hvz4 := (hvz2.alloc (.cells #[.int .i64 6, .int .i64 x, .int .i64 b] 72)).kept hgrow (own_ne hvz2 hrw2 (by decide))
          have hbl4 := (hbl2.alloc hbl2.size (.cells #[.int .i64 6, .int .i64 x, .int .i64 b] 72)).grown hgrow (by simp; omega) hq4
          gi_wp2
          refine ⟨⟨k + 1, _, _, _, _, _, _, _, _, _, _, _, _, _, _, _, _, _, _, _, _, _, _, _, by omega, by rw [HTK.out, HN.out, HT.out, HD.out, rowT_snoc, List.length_append]; exact hown', hbl4, hvz4, rfl⟩, ?_⟩
          simp [intOf]; omega
      · have hkn : n = k := by omega
        subst hkn
        rw [List.take_of_length_le (Nat.le_of_eq HNL.out)] at hrw
        have hki : ¬ ((n : Int) < (n : Int)) := by omega
        clear hoi1 hvz
        gi_wp2
        exact ⟨_, results_tmp rfl _ _ _, u7, rfl, by rw [HZS.out]; exact hrw, hbl⟩
end Go.Proofs.YtdnccdobnhbpeaaDoor

namespace Go.Proofs.YtdnccdobnhbpeaaDoor
open Go Go.RowKit Go.Shelf Go.Maps Go.ChangeShapes
set_option linter.unusedVariables false
set_option linter.unusedSimpArgs false

def nthT (ts : List T3) (k : Nat) : T3 := ts.getD k (0, 0, 0)
theorem nthT_eq {ts : List T3} {k : Nat} (h : k < ts.length) : nthT ts k = ts[k] := by simp [nthT, h]
theorem nthT_mem {ts : List T3} {k : Nat} (h : k < ts.length) : nthT ts k ∈ ts := by rw [nthT_eq h]; exact List.getElem_mem _
theorem any_none {ts : List T3} {f : T3 → Bool} (h : ∀ j, j < ts.length → f (nthT ts j) = false) : ts.any f = false := by
  rw [List.any_eq_false]
  intro t ht
  obtain ⟨i, hi, rfl⟩ := List.getElem_of_mem ht
  have := h i hi
  rw [nthT_eq hi] at this
  simp [this]
/-- Rows of three numbers, as they lie. -/
def Rows3 (w : World) (p : Option Addr) (ts : List T3) : Prop := ∀ k, k < ts.length → ∃ g, p = some ⟨g, 0, none⟩ ∧ w.cell? ⟨g, k * 3, none⟩ = some (.int .i64 (nthT ts k).1) ∧ w.cell? ⟨g, k * 3 + 1, none⟩ = some (.int .i64 (nthT ts k).2.1) ∧ w.cell? ⟨g, k * 3 + 2, none⟩ = some (.int .i64 (nthT ts k).2.2)
theorem Rows3.of_owns {w : World} {B e : Nat} {v : Value} {ts : List T3} (h : w.ownsRow B e 3 v ts.length (rowT ts)) : ∃ p c, v = .slice p ts.length c ∧ Rows3 w p ts ∧ (∀ g, p = some ⟨g, 0, none⟩ → B ≤ g) := by
  have h' := h
  rcases h.2 with ⟨rfl, h0⟩ | ⟨g, cap, cur, rfl, hB, _⟩
  · exact ⟨none, 0, by rw [h0], fun k hk => by omega, fun g e => by cases e⟩
  · refine ⟨_, cap, rfl, fun k hk => ⟨g, rfl, ?_⟩, fun g' e => by cases e; exact hB⟩
    have key : ∀ r, r < 3 → w.cell? ⟨g, k * 3 + r, none⟩ = some ((encT ((ts.toArray)[k]!))[r]!) := fun r hr => by
      rw [h'.cellAt (k * 3 + r) (by omega), rowT_get ts (k * 3 + r) (by omega)]
      rw [show (k * 3 + r) / 3 = k by omega, show (k * 3 + r) % 3 = r by omega]
    have e : (ts.toArray)[k]! = nthT ts k := by
      rw [nthT_eq hk]
      simp [hk]
    rw [e] at key
    exact ⟨key 0 (by omega), key 1 (by omega), key 2 (by omega)⟩
theorem Rows3.below {w w' : World} {p : Option Addr} {ts : List T3} (h : Rows3 w p ts) {B : Nat} (hb : Below B w w') (hB : w.heap.size ≤ B) : Rows3 w' p ts := fun k hk => by
  obtain ⟨g, rfl, h0, h1, h2⟩ := h k hk
  have hg : g < w.heap.size := World.block_lt_of_cell? w _ h0
  exact ⟨g, rfl, (hb.cell (p := ⟨g, k * 3, none⟩) (by simp; omega)).trans h0, (hb.cell (p := ⟨g, k * 3 + 1, none⟩) (by simp; omega)).trans h1, (hb.cell (p := ⟨g, k * 3 + 2, none⟩) (by simp; omega)).trans h2⟩
def nearB (t : T3) : Bool := t.1 == 1 || t.1 == 2
set_option maxRecDepth 100000 in
set_option maxHeartbeats 1000000 in
theorem near_any (x y z : Int) (w : World) :
    Calls Tryd.prog 66 #[.agg #[.int .i64 x, .int .i64 y, .int .i64 z]] w fun e w' => e = .returned (.bool (nearB (x, y, z))) ∧ Below w.heap.size w w' := by
  have hB := Blk.new w 66 #[.int .i64 x, .int .i64 y, .int .i64 z]
  have hc := hB.cell 0
  have hbl := below1 w (.cells #[.int .i64 x, .int .i64 y, .int .i64 z] 66)
  cases h1 : (x == 1)
  · cases h2 : (x == 2)
    · have H := Lib.hid (show nearB (x, y, z) = false by unfold nearB; simp only [h1, h2]; rfl)
      go_enter Tryd.func66, Tryd.ntmps66
      go_wp2
      go_ret
      exact ⟨by rw [H.out]; rfl, hbl⟩
    · have H := Lib.hid (show nearB (x, y, z) = true by unfold nearB; simp only [h1, h2]; rfl)
      go_enter Tryd.func66, Tryd.ntmps66
      go_wp2
      go_ret
      exact ⟨by rw [H.out]; rfl, hbl⟩
  · have H := Lib.hid (show nearB (x, y, z) = true by unfold nearB; simp only [h1]; rfl)
    go_enter Tryd.func66, Tryd.ntmps66
    go_wp2
    go_ret
    exact ⟨by rw [H.out]; rfl, hbl⟩
set_option maxRecDepth 100000 in
set_option maxHeartbeats 2000000 in
theorem index_near (p : Option Addr) (c n : Nat) (ts : List T3) (hn : Hid (ts.length = n)) (hn2 : n ≤ 1000) (w : World) (hR : Rows3 w p ts) :
    Calls Tryd.prog 87 #[.slice p n c, .func (.func 66) #[] #[]] w fun e w' => (∃ r : Int, e = .returned (.int .i64 r) ∧ -1 ≤ r ∧ r ≤ 1000 ∧ decide (0 ≤ r) = ts.any nearB) ∧ Below w.heap.size w w' := by
  have hnI : (n : Int) ≤ 1000 := by omega
  go_enter Tryd.func87, Tryd.ntmps87
  go_wp2
  go_loopw [8] (fun i wr => ∃ k : Nat, k ≤ n ∧ i = .int .i64 (k : Int) ∧ Hid (∀ j, j < k → nearB (nthT ts j) = false) ∧ Below w.heap.size w wr) (fun i _ => n - (intOf i).toNat)
  case atStart => exact ⟨0, by omega, rfl, Lib.hid (fun j hj => by omega), Below.refl _ _⟩
  case round =>
    obtain ⟨k, hk, rfl, HN, hbl⟩ := hrel
    by_cases hlt : k < n
    · obtain ⟨g, rfl, h0, h1, h2⟩ := hR k (by rw [hn.out]; exact hlt)
      have hki : (k : Int) < (n : Int) := by omega
      have hg : g < w.heap.size := World.block_lt_of_cell? w _ h0
      have c0 := (hbl.cell (p := ⟨g, k * 3, none⟩) hg).trans h0
      have c1 := (hbl.cell (p := ⟨g, k * 3 + 1, none⟩) hg).trans h1
      have c2 := (hbl.cell (p := ⟨g, k * 3 + 2, none⟩) hg).trans h2
      obtain ⟨t, ht⟩ : ∃ t, nthT ts k = t := ⟨_, rfl⟩
      rw [ht] at c0 c1 c2
      obtain ⟨x, y, z⟩ := t
      have HT := Lib.hid ht
      have hsz := hbl.size
      clear ht h0 h1 h2
      have c0 : wr.cell? ⟨g, k * 3, none⟩ = some (.int .i64 x) := c0
      have c1 : wr.cell? ⟨g, k * 3 + 1, none⟩ = some (.int .i64 y) := c1
      have c2 : wr.cell? ⟨g, k * 3 + 2, none⟩ = some (.int .i64 z) := c2
      cases hq : nearB (x, y, z)
      · have HQ := Lib.hid hq
        clear hq
        go_wp2_with fail
        refine (near_any x y z _).mono ?_
        rintro e w2 ⟨rfl, hb2⟩
        rw [HQ.out]
        have hbl2 := hbl.trans (hb2.mono hsz)
        clear c0 c1 c2 hbl hb2
        go_wp2
        go_roundw
        case rel => exact ⟨k + 1, by omega, by first | rfl | go_num, Lib.hid (fun j hj => by
          by_cases e : j = k
          · subst e; rw [HT.out]; exact HQ.out
          · exact HN.out j (by omega)), hbl2⟩
        case measure => simp [intOf]; omega
      · have HQ := Lib.hid hq
        clear hq
        go_wp2_with fail
        refine (near_any x y z _).mono ?_
        rintro e w2 ⟨rfl, hb2⟩
        rw [HQ.out]
        have hbl2 := hbl.trans (hb2.mono hsz)
        have HA := Lib.hid (show ts.any nearB = true from List.any_eq_true.2 ⟨nthT ts k, nthT_mem (by rw [hn.out]; exact hlt), by rw [HT.out]; exact HQ.out⟩)
        clear c0 c1 c2 hbl hb2
        go_wp2
        go_ret
        exact ⟨⟨(k : Int), rfl, by omega, by omega, by rw [HA.out]; simp⟩, hbl2⟩
    · have hkn : n = k := by omega
      subst hkn
      have HA := Lib.hid (show ts.any nearB = false from any_none (fun j hj => HN.out j (by rw [← hn.out]; exact hj)))
      have hki : ¬ ((n : Int) < (n : Int)) := by omega
      go_wp2
      go_ret
      exact ⟨⟨-1, rfl, by omega, by omega, by rw [HA.out]; rfl⟩, hbl⟩
set_option maxRecDepth 100000 in
set_option maxHeartbeats 1000000 in
theorem contains_near (p : Option Addr) (c n : Nat) (ts : List T3) (hn : Hid (ts.length = n)) (hn2 : n ≤ 1000) (w : World) (hR : Rows3 w p ts) :
    Calls Tryd.prog 68 #[.slice p n c, .func (.func 66) #[] #[]] w fun e w' => e = .returned (.bool (ts.any nearB)) ∧ Below w.heap.size w w' := by
  go_enter Tryd.func68, Tryd.ntmps68
  go_wp2_with fail
  refine (index_near p c n ts hn hn2 w hR).mono ?_
  rintro e w2 ⟨⟨r, rfl, hr1, hr2, hq⟩, hb2⟩
  have Hq := Lib.hid hq
  clear hq
  go_wp2
  go_ret
  exact ⟨by rw [← Hq.out]; rfl, hb2⟩
def hardB (t : T3) : Bool := t.1 == 3 || t.1 == 6
set_option maxRecDepth 100000 in
set_option maxHeartbeats 1000000 in
theorem hard_any (x y z : Int) (w : World) :
    Calls Tryd.prog 67 #[.agg #[.int .i64 x, .int .i64 y, .int .i64 z]] w fun e w' => e = .returned (.bool (hardB (x, y, z))) ∧ Below w.heap.size w w' := by
  have hB := Blk.new w 72 #[.int .i64 x, .int .i64 y, .int .i64 z]
  have hc := hB.cell 0
  have hbl := below1 w (.cells #[.int .i64 x, .int .i64 y, .int .i64 z] 72)
  cases h1 : (x == 3)
  · cases h2 : (x == 6)
    · have H := Lib.hid (show hardB (x, y, z) = false by unfold hardB; simp only [h1, h2]; rfl)
      go_enter Tryd.func67, Tryd.ntmps67
      go_wp2
      go_ret
      exact ⟨by rw [H.out]; rfl, hbl⟩
    · have H := Lib.hid (show hardB (x, y, z) = true by unfold hardB; simp only [h1, h2]; rfl)
      go_enter Tryd.func67, Tryd.ntmps67
      go_wp2
      go_ret
      exact ⟨by rw [H.out]; rfl, hbl⟩
  · have H := Lib.hid (show hardB (x, y, z) = true by unfold hardB; simp only [h1]; rfl)
    go_enter Tryd.func67, Tryd.ntmps67
    go_wp2
    go_ret
    exact ⟨by rw [H.out]; rfl, hbl⟩
set_option maxRecDepth 100000 in
set_option maxHeartbeats 2000000 in
theorem index_hard (p : Option Addr) (c n : Nat) (ts : List T3) (hn : Hid (ts.length = n)) (hn2 : n ≤ 1000) (w : World) (hR : Rows3 w p ts) :
    Calls Tryd.prog 88 #[.slice p n c, .func (.func 67) #[] #[]] w fun e w' => (∃ r : Int, e = .returned (.int .i64 r) ∧ -1 ≤ r ∧ r ≤ 1000 ∧ decide (0 ≤ r) = ts.any hardB) ∧ Below w.heap.size w w' := by
  have hnI : (n : Int) ≤ 1000 := by omega
  go_enter Tryd.func88, Tryd.ntmps88
  go_wp2
  go_loopw [8] (fun i wr => ∃ k : Nat, k ≤ n ∧ i = .int .i64 (k : Int) ∧ Hid (∀ j, j < k → hardB (nthT ts j) = false) ∧ Below w.heap.size w wr) (fun i _ => n - (intOf i).toNat)
  case atStart => exact ⟨0, by omega, rfl, Lib.hid (fun j hj => by omega), Below.refl _ _⟩
  case round =>
    obtain ⟨k, hk, rfl, HN, hbl⟩ := hrel
    by_cases hlt : k < n
    · obtain ⟨g, rfl, h0, h1, h2⟩ := hR k (by rw [hn.out]; exact hlt)
      have hki : (k : Int) < (n : Int) := by omega
      have hg : g < w.heap.size := World.block_lt_of_cell? w _ h0
      have c0 := (hbl.cell (p := ⟨g, k * 3, none⟩) hg).trans h0
      have c1 := (hbl.cell (p := ⟨g, k * 3 + 1, none⟩) hg).trans h1
      have c2 := (hbl.cell (p := ⟨g, k * 3 + 2, none⟩) hg).trans h2
      obtain ⟨t, ht⟩ : ∃ t, nthT ts k = t := ⟨_, rfl⟩
      rw [ht] at c0 c1 c2
      obtain ⟨x, y, z⟩ := t
      have HT := Lib.hid ht
      have hsz := hbl.size
      clear ht h0 h1 h2
      have c0 : wr.cell? ⟨g, k * 3, none⟩ = some (.int .i64 x) := c0
      have c1 : wr.cell? ⟨g, k * 3 + 1, none⟩ = some (.int .i64 y) := c1
      have c2 : wr.cell? ⟨g, k * 3 + 2, none⟩ = some (.int .i64 z) := c2
      cases hq : hardB (x, y, z)
      · have HQ := Lib.hid hq
        clear hq
        go_wp2_with fail
        refine (hard_any x y z _).mono ?_
        rintro e w2 ⟨rfl, hb2⟩
        rw [HQ.out]
        have hbl2 := hbl.trans (hb2.mono hsz)
        clear c0 c1 c2 hbl hb2
        go_wp2
        go_roundw
        case rel => exact ⟨k + 1, by omega, by first | rfl | go_num, Lib.hid (fun j hj => by
          by_cases e : j = k
          · subst e; rw [HT.out]; exact HQ.out
          · exact HN.out j (by omega)), hbl2⟩
        case measure => simp [intOf]; omega
      · have HQ := Lib.hid hq
        clear hq
        go_wp2_with fail
        refine (hard_any x y z _).mono ?_
        rintro e w2 ⟨rfl, hb2⟩
        rw [HQ.out]
        have hbl2 := hbl.trans (hb2.mono hsz)
        have HA := Lib.hid (show ts.any hardB = true from List.any_eq_true.2 ⟨nthT ts k, nthT_mem (by rw [hn.out]; exact hlt), by rw [HT.out]; exact HQ.out⟩)
        clear c0 c1 c2 hbl hb2
        go_wp2
        go_ret
        exact ⟨⟨(k : Int), rfl, by omega, by omega, by rw [HA.out]; simp⟩, hbl2⟩
    · have hkn : n = k := by omega
      subst hkn
      have HA := Lib.hid (show ts.any hardB = false from any_none (fun j hj => HN.out j (by rw [← hn.out]; exact hj)))
      have hki : ¬ ((n : Int) < (n : Int)) := by omega
      go_wp2
      go_ret
      exact ⟨⟨-1, rfl, by omega, by omega, by rw [HA.out]; rfl⟩, hbl⟩
set_option maxRecDepth 100000 in
set_option maxHeartbeats 1000000 in
theorem contains_hard (p : Option Addr) (c n : Nat) (ts : List T3) (hn : Hid (ts.length = n)) (hn2 : n ≤ 1000) (w : World) (hR : Rows3 w p ts) :
    Calls Tryd.prog 69 #[.slice p n c, .func (.func 67) #[] #[]] w fun e w' => e = .returned (.bool (ts.any hardB)) ∧ Below w.heap.size w w' := by
  go_enter Tryd.func69, Tryd.ntmps69
  go_wp2_with fail
  refine (index_hard p c n ts hn hn2 w hR).mono ?_
  rintro e w2 ⟨⟨r, rfl, hr1, hr2, hq⟩, hb2⟩
  have Hq := Lib.hid hq
  clear hq
  go_wp2
  go_ret
  exact ⟨by rw [← Hq.out]; rfl, hb2⟩
end Go.Proofs.YtdnccdobnhbpeaaDoor

namespace Go.Proofs.YtdnccdobnhbpeaaDoor
open Go Go.RowKit Go.Shelf Go.Maps Go.ChangeShapes
set_option linter.unusedVariables false
set_option linter.unusedSimpArgs false

/-- The verdict, by the ties and the aspects. -/
def jdL (ts xs : List T3) : Int := if ts.any nearB = true then 1 else if 0 < ts.length then 2 else if 0 < xs.length ∧ xs.any hardB = false then 3 else 4
def jdg (s : List Int) (a b : Int) : Int := jdL (rawL s a b) (asL b (standL s (fg s a) 12))
theorem jdL_perm {ts us xs : List T3} (h : ts.Perm us) : jdL ts xs = jdL us xs := by
  have h1 : ts.any nearB = us.any nearB := by
    rw [Bool.eq_iff_iff]
    simp only [List.any_eq_true]
    exact ⟨fun ⟨x, hx, hf⟩ => ⟨x, h.mem_iff.1 hx, hf⟩, fun ⟨x, hx, hf⟩ => ⟨x, h.mem_iff.2 hx, hf⟩⟩
  unfold jdL
  rw [h1, h.length_eq]
/-- What the operations of the first region come to. -/
def JuR (n₀ : Nat) (cs : Array Value) (s : List Int) (a b : Int) : Nat → Value → World → Prop
  | 0, x, _ => x = .agg cs
  | 1, x, _ => x = .int .i64 a
  | 2, x, _ => x = .int .i64 b
  | 3, x, V => ∃ ts : List T3, ts.Perm (rawL s a b) ∧ V.ownsRow n₀ 66 3 x ts.length (rowT ts)
  | 4, x, _ => x = .agg cs
  | 5, x, _ => x = .int .i64 a
  | 6, x, _ => x = .int .i64 b
  | 7, x, V => V.ownsRow n₀ 72 3 x (asL b (standL s (fg s a) 12)).length (rowT (asL b (standL s (fg s a) 12)))
  | 8, x, V => ∃ ts : List T3, ts.Perm (rawL s a b) ∧ V.ownsRow n₀ 66 3 x ts.length (rowT ts)
  | 9, x, V => V.ownsRow n₀ 72 3 x (asL b (standL s (fg s a) 12)).length (rowT (asL b (standL s (fg s a) 12)))
  | _, _, _ => True
theorem JuR.stab (n₀ : Nat) (cs : Array Value) (s : List Int) (a b : Int) (i : Nat) (x : Value) (V V' : World) (h : JuR n₀ cs s a b i x V) (hb : Below V.heap.size V V') : JuR n₀ cs s a b i x V' := by
  match i with
  | 0 => exact h
  | 1 => exact h
  | 2 => exact h
  | 3 => obtain ⟨ts, h1, h2⟩ := h; exact ⟨ts, h1, ownsRow_keptB h2 (grown_of_below hb) (fun r e => by cases e)⟩
  | 4 => exact h
  | 5 => exact h
  | 6 => exact h
  | 7 => exact ownsRow_keptB h (grown_of_below hb) (fun r e => by cases e)
  | 8 => obtain ⟨ts, h1, h2⟩ := h; exact ⟨ts, h1, ownsRow_keptB h2 (grown_of_below hb) (fun r e => by cases e)⟩
  | 9 => exact ownsRow_keptB h (grown_of_below hb) (fun r e => by cases e)
  | n + 10 => exact h
attribute [local go_sem] Oper.semAt_some
set_option maxRecDepth 100000 in
set_option maxHeartbeats 8000000 in
theorem judge_in (cs : Array Value) (s : List Int) (mb : Nat) (hC : Circ cs s (some mb)) (a b : Int) (ha : Hou a) (hb : Hou b) (base : Nat) (Dm : DataW Unit) (w : World) (HG : Hid (w.ownsGroups Tryd.prog 22 base 3 .i64 mb 12 Dm)) (hAt : Hid (∀ f : Int, Dm.atKey (.int .i64 f) .nil = stD s f 12)) (hF : Fig (fg s a)) (hw6 : 6 ≤ w.heap.size) :
    CallsIn Fence.wide 12 Tryd.prog 43 #[.agg cs, .int .i64 a, .int .i64 b] w fun e w' => e = .returned (.int .i64 (jdg s a b)) ∧ Below w.heap.size w w' := by
  have J3 := Blk.new w 84 cs
  have hB0 := below1 w (.cells cs 84)
  refine callsIn_of_wp_marks Tryd.func43 rfl trivial ?_ rfl
  simp only [Tryd.ntmps43, List.size_toArray, List.length_cons, List.length_nil, Nat.reduceAdd, Nat.reduceSub, Array.replicate_succ, Array.replicate_zero, List.push_toArray, List.append_toArray, List.nil_append, List.cons_append]
  gi_wp2_with fail
  refine wpIn_region_mono follows_mixedB [some 11, some 12, some 13, some 14, some 15, some 16, some 17, some 18, some 7, some 8] (by kernel_rfl) (JuR w.heap.size cs s a b) (JuR.stab _ _ _ _ _) ?step ?fin
  case step =>
    intro i hi a1 V FD
    have hi : i < 10 := hi
    have e : i = 0 ∨ i = 1 ∨ i = 2 ∨ i = 3 ∨ i = 4 ∨ i = 5 ∨ i = 6 ∨ i = 7 ∨ i = 8 ∨ i = 9 := by omega
    clear hi
    rcases e with rfl | rfl | rfl | rfl | rfl | rfl | rfl | rfl | rfl | rfl
    · have e3 : a1.tmps[3]?.getD undef = (.pointer (some ⟨w.heap.size, 0, none⟩)) := (FD.kept 3 (by kernel_rfl)).trans rfl
      refine wpOpIn_step rfl (fun K hK => ?_)
      refine Eq.mpr (if_pos (by rfl)) ?_
      exact operIn_load_row 84 (.tmp 3) rfl w.heap.size (eval_tmp e3) 84 cs (0, 0) _ (J3.below FD.below J3.lt) Tryd.underlying84 rfl (circ_info hC) (hK _ _ ⟨_, rfl, rfl, Below.refl _ _⟩)
    · have e1 : a1.tmps[1]?.getD undef = (.int .i64 a) := (FD.kept 1 (by kernel_rfl)).trans rfl
      refine wpOpIn_step rfl (fun K hK => ?_)
      refine Eq.mpr (if_pos (by rfl)) ?_
      go_simp
      exact hK _ _ ⟨_, rfl, rfl, Below.refl _ _⟩
    · have e2 : a1.tmps[2]?.getD undef = (.int .i64 b) := (FD.kept 2 (by kernel_rfl)).trans rfl
      refine wpOpIn_step rfl (fun K hK => ?_)
      refine Eq.mpr (if_pos (by rfl)) ?_
      go_simp
      exact hK _ _ ⟨_, rfl, rfl, Below.refl _ _⟩
    · have e11 : a1.tmps[11]?.getD undef = (.agg cs) := by
        obtain ⟨x, hx, ht⟩ := FD.dep 0 (by kernel_rfl)
        rw [ht 11 rfl]; exact hx
      have e12 : a1.tmps[12]?.getD undef = (.int .i64 a) := by
        obtain ⟨x, hx, ht⟩ := FD.dep 1 (by kernel_rfl)
        rw [ht 12 rfl]; exact hx
      have e13 : a1.tmps[13]?.getD undef = (.int .i64 b) := by
        obtain ⟨x, hx, ht⟩ := FD.dep 2 (by kernel_rfl)
        rw [ht 13 rfl]; exact hx
      refine wpOpIn_step rfl (fun K hK => ?_)
      refine Eq.mpr (if_pos (by rfl)) ?_
      go_simp
      gi_wp2_with fail
      refine ⟨trivial, ?_⟩
      refine (callsIn_wide.2 (callsIn_wide.1 (ties_in cs s mb hC a b ha hb base Dm _ (Lib.hid (groups_kept HG.out (grown_of_below (hB0.trans (FD.below.mono hB0.size))) (fun r e => by cases e))) hAt hF (Nat.le_trans hw6 (Nat.le_trans hB0.size FD.below.size))))).mono ?_
      rintro e V2 ⟨v, ts, rfl, hp, _, hown, hb2⟩
      exact hK _ _ ⟨_, rfl, ⟨ts, hp, ownsRow_base hown (Nat.le_trans hB0.size FD.below.size)⟩, hb2⟩
    · have e3 : a1.tmps[3]?.getD undef = (.pointer (some ⟨w.heap.size, 0, none⟩)) := (FD.kept 3 (by kernel_rfl)).trans rfl
      refine wpOpIn_step rfl (fun K hK => ?_)
      refine Eq.mpr (if_pos (by rfl)) ?_
      exact operIn_load_row 84 (.tmp 3) rfl w.heap.size (eval_tmp e3) 84 cs (0, 0) _ (J3.below FD.below J3.lt) Tryd.underlying84 rfl (circ_info hC) (hK _ _ ⟨_, rfl, rfl, Below.refl _ _⟩)
    · have e1 : a1.tmps[1]?.getD undef = (.int .i64 a) := (FD.kept 1 (by kernel_rfl)).trans rfl
      refine wpOpIn_step rfl (fun K hK => ?_)
      refine Eq.mpr (if_pos (by rfl)) ?_
      go_simp
      exact hK _ _ ⟨_, rfl, rfl, Below.refl _ _⟩
    · have e2 : a1.tmps[2]?.getD undef = (.int .i64 b) := (FD.kept 2 (by kernel_rfl)).trans rfl
      refine wpOpIn_step rfl (fun K hK => ?_)
      refine Eq.mpr (if_pos (by rfl)) ?_
      go_simp
      exact hK _ _ ⟨_, rfl, rfl, Below.refl _ _⟩
    · have e15 : a1.tmps[15]?.getD undef = (.agg cs) := by
        obtain ⟨x, hx, ht⟩ := FD.dep 4 (by kernel_rfl)
        rw [ht 15 rfl]; exact hx
      have e16 : a1.tmps[16]?.getD undef = (.int .i64 a) := by
        obtain ⟨x, hx, ht⟩ := FD.dep 5 (by kernel_rfl)
        rw [ht 16 rfl]; exact hx
      have e17 : a1.tmps[17]?.getD undef = (.int .i64 b) := by
        obtain ⟨x, hx, ht⟩ := FD.dep 6 (by kernel_rfl)
        rw [ht 17 rfl]; exact hx
      refine wpOpIn_step rfl (fun K hK => ?_)
      refine Eq.mpr (if_pos (by rfl)) ?_
      go_simp
      gi_wp2_with fail
      refine ⟨trivial, ?_⟩
      refine (callsIn_wide.2 (callsIn_wide.1 (aspects_in cs s mb hC a b ha hb base Dm _ (Lib.hid (groups_kept HG.out (grown_of_below (hB0.trans (FD.below.mono hB0.size))) (fun r e => by cases e))) hAt hF (Nat.le_trans hw6 (Nat.le_trans hB0.size FD.below.size))))).mono ?_
      rintro e V2 ⟨v, rfl, hown, hb2⟩
      exact hK _ _ ⟨_, rfl, ownsRow_base hown (Nat.le_trans hB0.size FD.below.size), hb2⟩
    · obtain ⟨x14, hx14, ht14⟩ := FD.dep 3 (by kernel_rfl)
      have e14 := ht14 14 rfl
      refine wpOpIn_step rfl (fun K hK => ?_)
      refine Eq.mpr (if_pos (by rfl)) ?_
      go_simp
      exact hK _ _ ⟨_, rfl, hx14, Below.refl _ _⟩
    · obtain ⟨x18, hx18, ht18⟩ := FD.dep 7 (by kernel_rfl)
      have e18 := ht18 18 rfl
      refine wpOpIn_step rfl (fun K hK => ?_)
      refine Eq.mpr (if_pos (by rfl)) ?_
      go_simp
      exact hK _ _ ⟨_, rfl, hx18, Below.refl _ _⟩
  case fin =>
    intro vv V hbv hv
    obtain ⟨ts, hperm, h8⟩ : ∃ ts : List T3, ts.Perm (rawL s a b) ∧ V.ownsRow w.heap.size 66 3 (vv 8) ts.length (rowT ts) := hv 8 (by decide)
    have h9 : V.ownsRow w.heap.size 72 3 (vv 9) (asL b (standL s (fg s a) 12)).length (rowT (asL b (standL s (fg s a) 12))) := hv 9 (by decide)
    have hBV := hB0.trans (hbv.mono hB0.size)
    have hrl := rawL_len s a b
    have hal := asL_len b (standL s (fg s a) 12)
    have hzl := standL_len s (fg s a) 12
    have HJ := Lib.hid (show jdg s a b = jdL ts (asL b (standL s (fg s a) 12)) from (jdL_perm hperm).symm)
    have htl : ts.length ≤ 40 := by rw [hperm.length_eq]; exact hrl
    obtain ⟨xs, has⟩ : ∃ xs, asL b (standL s (fg s a) 12) = xs := ⟨_, rfl⟩
    rw [has] at h9 hal HJ
    obtain ⟨p8, c8, e8, R8, _⟩ := Rows3.of_owns h8
    obtain ⟨p9, c9, e9, R9, _⟩ := Rows3.of_owns h9
    simp only [finD, List.set_cons_succ, List.set_cons_zero, e8, e9]
    obtain ⟨n, hn⟩ : ∃ n, ts.length = n := ⟨_, rfl⟩
    obtain ⟨k, hk⟩ : ∃ k, xs.length = k := ⟨_, rfl⟩
    have HN := Lib.hid hn
    have HK := Lib.hid hk
    rw [hn] at htl ⊢
    rw [hk] at hal ⊢
    have hnI : (n : Int) ≤ 40 := by omega
    have hkI : (k : Int) ≤ 12 := by omega
    generalize vv 0 = x0
    generalize vv 1 = x1
    generalize vv 2 = x2
    generalize vv 3 = x3
    generalize vv 4 = x4
    generalize vv 5 = x5
    generalize vv 6 = x6
    generalize vv 7 = x7
    clear hv h8 h9 e8 e9 has hperm hn hk hrl HG hAt J3
    gi_wp2_with fail
    refine ⟨trivial, ?_⟩
    refine (callsIn_wide.2 (contains_near p8 c8 n ts HN (by omega) _ R8)).mono ?_
    rintro e w2 ⟨rfl, hb2⟩
    have hB2 := hBV.trans (hb2.mono hBV.size)
    have R92 := R9.below hb2 (Nat.le_refl _)
    clear hb2 R9 R8
    cases hq : ts.any nearB
    · by_cases hn0 : 0 < n
      · have hnI0 : (0 : Int) < (n : Int) := by omega
        have HR := Lib.hid (show jdg s a b = 2 by rw [HJ.out]; unfold jdL; rw [hq, if_neg (by simp), HN.out, if_pos hn0])
        clear hq
        gi_wp2
        exact ⟨_, results_tmp rfl _ _ _, by rw [HR.out]; rfl, hB2⟩
      · have hnI0 : ¬ ((0 : Int) < (n : Int)) := by omega
        by_cases hk0 : 0 < k
        · have hkI0 : (0 : Int) < (k : Int) := by omega
          have HR0 := Lib.hid (show jdg s a b = if xs.any hardB = false then 3 else 4 by
            rw [HJ.out]; unfold jdL; rw [hq, if_neg (by simp), HN.out, if_neg hn0, HK.out]
            by_cases hh : xs.any hardB = false
            · rw [if_pos ⟨hk0, hh⟩, if_pos hh]
            · rw [if_neg (fun h => hh h.2), if_neg hh])
          clear hq
          gi_wp2_with fail
          refine ⟨trivial, ?_⟩
          refine (callsIn_wide.2 (contains_hard p9 c9 k xs HK (by omega) _ R92)).mono ?_
          rintro e w3 ⟨rfl, hb3⟩
          have hB3 := hB2.trans (hb3.mono hB2.size)
          cases hh : xs.any hardB
          · have HR := Lib.hid (show jdg s a b = 3 by rw [HR0.out, if_pos hh])
            clear hh hb3
            gi_wp2
            exact ⟨_, results_tmp rfl _ _ _, by rw [HR.out]; rfl, hB3⟩
          · have HR := Lib.hid (show jdg s a b = 4 by rw [HR0.out, if_neg (by rw [hh]; simp)])
            clear hh hb3
            gi_wp2
            exact ⟨_, results_tmp rfl _ _ _, by rw [HR.out]; rfl, hB3⟩
        · have hkI0 : ¬ ((0 : Int) < (k : Int)) := by omega
          have HR := Lib.hid (show jdg s a b = 4 by
            rw [HJ.out]; unfold jdL; rw [hq, if_neg (by simp), HN.out, if_neg hn0, HK.out, if_neg (fun h => hk0 h.1)])
          clear hq
          gi_wp2
          refine ⟨trivial, ?_⟩
          gi_wp2
          exact ⟨_, results_tmp rfl _ _ _, by rw [HR.out]; rfl, hB2⟩
    · have HR := Lib.hid (show jdg s a b = 1 by rw [HJ.out]; unfold jdL; rw [hq, if_pos rfl])
      clear hq
      gi_wp2
      exact ⟨_, results_tmp rfl _ _ _, by rw [HR.out]; rfl, hB2⟩
end Go.Proofs.YtdnccdobnhbpeaaDoor

