/-
  The circle of houses: judge.
  The circle of houses: what is said of two houses.
-/
import Derived.Test.YtdnccdobnhbpeaaDoorHcH
import Derived.Test.YtdnccdobnhbpeaaDoorHcI
namespace Go.Proofs.YtdnccdobnhbpeaaDoor
open Go Go.RowKit Go.Shelf Go.Maps Go.ChangeShapes
set_option linter.unusedVariables false
set_option linter.unusedSimpArgs false

def nthT (ts : List T3) (k : Nat) : T3 := ts.getD k (0, 0, 0)
theorem nthT_eq {ts : List T3} {k : Nat} (h : k < ts.length) : nthT ts k = ts[k] := by simp [nthT, h]
theorem nthT_mem {ts : List T3} {k : Nat} (h : k < ts.length) : nthT ts k ∈ ts := by rw [nthT_eq h]; exact List.getElem_mem _
theorem any_none {ts : List T3} {f : T3 → Bool} (h : ∀ j, j < ts.length → f (nthT ts j) = false) : ts.any f = false := by
  rw [List.any_eq_false]
  intro t ht
  obtain ⟨i, hi, rfl⟩ := List.getElem_of_mem ht
  have := h i hi
  rw [nthT_eq hi] at this
  simp [this]
/-- Rows of three numbers, as they lie. -/
def Rows3 (w : World) (p : Option Addr) (ts : List T3) : Prop := ∀ k, k < ts.length → ∃ g, p = some ⟨g, 0, none⟩ ∧ w.cell? ⟨g, k * 3, none⟩ = some (.int .i64 (nthT ts k).1) ∧ w.cell? ⟨g, k * 3 + 1, none⟩ = some (.int .i64 (nthT ts k).2.1) ∧ w.cell? ⟨g, k * 3 + 2, none⟩ = some (.int .i64 (nthT ts k).2.2)
theorem Rows3.of_owns {w : World} {B e : Nat} {v : Value} {ts : List T3} (h : w.ownsRow B e 3 v ts.length (rowT ts)) : ∃ p c, v = .slice p ts.length c ∧ Rows3 w p ts ∧ (∀ g, p = some ⟨g, 0, none⟩ → B ≤ g) := by
  have h' := h
  rcases h.2 with ⟨rfl, h0⟩ | ⟨g, cap, cur, rfl, hB, _⟩
  · exact ⟨none, 0, by rw [h0], fun k hk => by omega, fun g e => by cases e⟩
  · refine ⟨_, cap, rfl, fun k hk => ⟨g, rfl, ?_⟩, fun g' e => by cases e; exact hB⟩
    have key : ∀ r, r < 3 → w.cell? ⟨g, k * 3 + r, none⟩ = some ((encT ((ts.toArray)[k]!))[r]!) := fun r hr => by
      rw [h'.cellAt (k * 3 + r) (by omega), rowT_get ts (k * 3 + r) (by omega)]
      rw [show (k * 3 + r) / 3 = k by omega, show (k * 3 + r) % 3 = r by omega]
    have e : (ts.toArray)[k]! = nthT ts k := by
      rw [nthT_eq hk]
      simp [hk]
    rw [e] at key
    exact ⟨key 0 (by omega), key 1 (by omega), key 2 (by omega)⟩
theorem Rows3.below {w w' : World} {p : Option Addr} {ts : List T3} (h : Rows3 w p ts) {B : Nat} (hb : Below B w w') (hB : w.heap.size ≤ B) : Rows3 w' p ts := fun k hk => by
  obtain ⟨g, rfl, h0, h1, h2⟩ := h k hk
  have hg : g < w.heap.size := World.block_lt_of_cell? w _ h0
  exact ⟨g, rfl, (hb.cell (p := ⟨g, k * 3, none⟩) (by simp; omega)).trans h0, (hb.cell (p := ⟨g, k * 3 + 1, none⟩) (by simp; omega)).trans h1, (hb.cell (p := ⟨g, k * 3 + 2, none⟩) (by simp; omega)).trans h2⟩
def nearB (t : T3) : Bool := t.1 == 1 || t.1 == 2
set_option maxRecDepth 100000 in
set_option maxHeartbeats 1000000 in
theorem near_any (x y z : Int) (w : World) :
    Calls Tryd.prog 66 #[.agg #[.int .i64 x, .int .i64 y, .int .i64 z]] w fun e w' => e = .returned (.bool (nearB (x, y, z))) ∧ Below w.heap.size w w' := by
  have hB := Blk.new w 66 #[.int .i64 x, .int .i64 y, .int .i64 z]
  have hc := hB.cell 0
  have hbl := below1 w (.cells #[.int .i64 x, .int .i64 y, .int .i64 z] 66)
  cases h1 : (x == 1)
  · cases h2 : (x == 2)
    · have H := Lib.hid (show nearB (x, y, z) = false by unfold nearB; simp only [h1, h2]; rfl)
      go_enter Tryd.func66, Tryd.ntmps66
      go_wp2
      go_ret
      exact ⟨by rw [H.out]; rfl, hbl⟩
    · have H := Lib.hid (show nearB (x, y, z) = true by unfold nearB; simp only [h1, h2]; rfl)
      go_enter Tryd.func66, Tryd.ntmps66
      go_wp2
      go_ret
      exact ⟨by rw [H.out]; rfl, hbl⟩
  · have H := Lib.hid (show nearB (x, y, z) = true by unfold nearB; simp only [h1]; rfl)
    go_enter Tryd.func66, Tryd.ntmps66
    go_wp2
    go_ret
    exact ⟨by rw [H.out]; rfl, hbl⟩
set_option maxRecDepth 100000 in
set_option maxHeartbeats 2000000 in
theorem index_near (p : Option Addr) (c n : Nat) (ts : List T3) (hn : Hid (ts.length = n)) (hn2 : n ≤ 1000) (w : World) (hR : Rows3 w p ts) :
    Calls Tryd.prog 87 #[.slice p n c, .func (.func 66) #[] #[]] w fun e w' => (∃ r : Int, e = .returned (.int .i64 r) ∧ -1 ≤ r ∧ r ≤ 1000 ∧ decide (0 ≤ r) = ts.any nearB) ∧ Below w.heap.size w w' := by
  have hnI : (n : Int) ≤ 1000 := by omega
  go_enter Tryd.func87, Tryd.ntmps87
  go_wp2
  go_loopw [8] (fun i wr => ∃ k : Nat, k ≤ n ∧ i = .int .i64 (k : Int) ∧ Hid (∀ j, j < k → nearB (nthT ts j) = false) ∧ Below w.heap.size w wr) (fun i _ => n - (intOf i).toNat)
  case atStart => exact ⟨0, by omega, rfl, Lib.hid (fun j hj => by omega), Below.refl _ _⟩
  case round =>
    obtain ⟨k, hk, rfl, HN, hbl⟩ := hrel
    by_cases hlt : k < n
    · obtain ⟨g, rfl, h0, h1, h2⟩ := hR k (by rw [hn.out]; exact hlt)
      have hki : (k : Int) < (n : Int) := by omega
      have hg : g < w.heap.size := World.block_lt_of_cell? w _ h0
      have c0 := (hbl.cell (p := ⟨g, k * 3, none⟩) hg).trans h0
      have c1 := (hbl.cell (p := ⟨g, k * 3 + 1, none⟩) hg).trans h1
      have c2 := (hbl.cell (p := ⟨g, k * 3 + 2, none⟩) hg).trans h2
      obtain ⟨t, ht⟩ : ∃ t, nthT ts k = t := ⟨_, rfl⟩
      rw [ht] at c0 c1 c2
      obtain ⟨x, y, z⟩ := t
      have HT := Lib.hid ht
      have hsz := hbl.size
      clear ht h0 h1 h2
      have c0 : wr.cell? ⟨g, k * 3, none⟩ = some (.int .i64 x) := c0
      have c1 : wr.cell? ⟨g, k * 3 + 1, none⟩ = some (.int .i64 y) := c1
      have c2 : wr.cell? ⟨g, k * 3 + 2, none⟩ = some (.int .i64 z) := c2
      cases hq : nearB (x, y, z)
      · have HQ := Lib.hid hq
        clear hq
        go_wp2_with fail
        refine (near_any x y z _).mono ?_
        rintro e w2 ⟨rfl, hb2⟩
        rw [HQ.out]
        have hbl2 := hbl.trans (hb2.mono hsz)
        clear c0 c1 c2 hbl hb2
        go_wp2
        go_roundw
        case rel => exact ⟨k + 1, by omega, by first | rfl | go_num, Lib.hid (fun j hj => by
          by_cases e : j = k
          · subst e; rw [HT.out]; exact HQ.out
          · exact HN.out j (by omega)), hbl2⟩
        case measure => simp [intOf]; omega
      · have HQ := Lib.hid hq
        clear hq
        go_wp2_with fail
        refine (near_any x y z _).mono ?_
        rintro e w2 ⟨rfl, hb2⟩
        rw [HQ.out]
        have hbl2 := hbl.trans (hb2.mono hsz)
        have HA := Lib.hid (show ts.any nearB = true from List.any_eq_true.2 ⟨nthT ts k, nthT_mem (by rw [hn.out]; exact hlt), by rw [HT.out]; exact HQ.out⟩)
        clear c0 c1 c2 hbl hb2
        go_wp2
        go_ret
        exact ⟨⟨(k : Int), rfl, by omega, by omega, by rw [HA.out]; simp⟩, hbl2⟩
    · have hkn : n = k := by omega
      subst hkn
      have HA := Lib.hid (show ts.any nearB = false from any_none (fun j hj => HN.out j (by rw [← hn.out]; exact hj)))
      have hki : ¬ ((n : Int) < (n : Int)) := by omega
      go_wp2
      go_ret
      exact ⟨⟨-1, rfl, by omega, by omega, by rw [HA.out]; rfl⟩, hbl⟩
set_option maxRecDepth 100000 in
set_option maxHeartbeats 1000000 in
theorem contains_near (p : Option Addr) (c n : Nat) (ts : List T3) (hn : Hid (ts.length = n)) (hn2 : n ≤ 1000) (w : World) (hR : Rows3 w p ts) :
    Calls Tryd.prog 68 #[.slice p n c, .func (.func 66) #[] #[]] w fun e w' => e = .returned (.bool (ts.any nearB)) ∧ Below w.heap.size w w' := by
  go_enter Tryd.func68, Tryd.ntmps68
  go_wp2_with fail
  refine (index_near p c n ts hn hn2 w hR).mono ?_
  rintro e w2 ⟨⟨r, rfl, hr1, hr2, hq⟩, hb2⟩
  have Hq := Lib.hid hq
  clear hq
  go_wp2
  go_ret
  exact ⟨by rw [← Hq.out]; rfl, hb2⟩
def hardB (t : T3) : Bool := t.1 == 3 || t.1 == 6
set_option maxRecDepth 100000 in
set_option maxHeartbeats 1000000 in
theorem hard_any (x y z : Int) (w : World) :
    Calls Tryd.prog 67 #[.agg #[.int .i64 x, .int .i64 y, .int .i64 z]] w fun e w' => e = .returned (.bool (hardB (x, y, z))) ∧ Below w.heap.size w w' := by
  have hB := Blk.new w 72 #[.int .i64 x, .int .i64 y, .int .i64 z]
  have hc := hB.cell 0
  have hbl := below1 w (.cells #[.int .i64 x, .int .i64 y, .int .i64 z] 72)
  cases h1 : (x == 3)
  · cases h2 : (x == 6)
    · have H := Lib.hid (show hardB (x, y, z) = false by unfold hardB; simp only [h1, h2]; rfl)
      go_enter Tryd.func67, Tryd.ntmps67
      go_wp2
      go_ret
      exact ⟨by rw [H.out]; rfl, hbl⟩
    · have H := Lib.hid (show hardB (x, y, z) = true by unfold hardB; simp only [h1, h2]; rfl)
      go_enter Tryd.func67, Tryd.ntmps67
      go_wp2
      go_ret
      exact ⟨by rw [H.out]; rfl, hbl⟩
  · have H := Lib.hid (show hardB (x, y, z) = true by unfold hardB; simp only [h1]; rfl)
    go_enter Tryd.func67, Tryd.ntmps67
    go_wp2
    go_ret
    exact ⟨by rw [H.out]; rfl, hbl⟩
set_option maxRecDepth 100000 in
set_option maxHeartbeats 2000000 in
theorem index_hard (p : Option Addr) (c n : Nat) (ts : List T3) (hn : Hid (ts.length = n)) (hn2 : n ≤ 1000) (w : World) (hR : Rows3 w p ts) :
    Calls Tryd.prog 88 #[.slice p n c, .func (.func 67) #[] #[]] w fun e w' => (∃ r : Int, e = .returned (.int .i64 r) ∧ -1 ≤ r ∧ r ≤ 1000 ∧ decide (0 ≤ r) = ts.any hardB) ∧ Below w.heap.size w w' := by
  have hnI : (n : Int) ≤ 1000 := by omega
  go_enter Tryd.func88, Tryd.ntmps88
  go_wp2
  go_loopw [8] (fun i wr => ∃ k : Nat, k ≤ n ∧ i = .int .i64 (k : Int) ∧ Hid (∀ j, j < k → hardB (nthT ts j) = false) ∧ Below w.heap.size w wr) (fun i _ => n - (intOf i).toNat)
  case atStart => exact ⟨0, by omega, rfl, Lib.hid (fun j hj => by omega), Below.refl _ _⟩
  case round =>
    obtain ⟨k, hk, rfl, HN, hbl⟩ := hrel
    by_cases hlt : k < n
    · obtain ⟨g, rfl, h0, h1, h2⟩ := hR k (by rw [hn.out]; exact hlt)
      have hki : (k : Int) < (n : Int) := by omega
      have hg : g < w.heap.size := World.block_lt_of_cell? w _ h0
      have c0 := (hbl.cell (p := ⟨g, k * 3, none⟩) hg).trans h0
      have c1 := (hbl.cell (p := ⟨g, k * 3 + 1, none⟩) hg).trans h1
      have c2 := (hbl.cell (p := ⟨g, k * 3 + 2, none⟩) hg).trans h2
      obtain ⟨t, ht⟩ : ∃ t, nthT ts k = t := ⟨_, rfl⟩
      rw [ht] at c0 c1 c2
      obtain ⟨x, y, z⟩ := t
      have HT := Lib.hid ht
      have hsz := hbl.size
      clear ht h0 h1 h2
      have c0 : wr.cell? ⟨g, k * 3, none⟩ = some (.int .i64 x) := c0
      have c1 : wr.cell? ⟨g, k * 3 + 1, none⟩ = some (.int .i64 y) := c1
      have c2 : wr.cell? ⟨g, k * 3 + 2, none⟩ = some (.int .i64 z) := c2
      cases hq : hardB (x, y, z)
      · have HQ := Lib.hid hq
        clear hq
        go_wp2_with fail
        refine (hard_any x y z _).mono ?_
        rintro e w2 ⟨rfl, hb2⟩
        rw [HQ.out]
        have hbl2 := hbl.trans (hb2.mono hsz)
        clear c0 c1 c2 hbl hb2
        go_wp2
        go_roundw
        case rel => exact ⟨k + 1, by omega, by first | rfl | go_num, Lib.hid (fun j hj => by
          by_cases e : j = k
          · subst e; rw [HT.out]; exact HQ.out
          · exact HN.out j (by omega)), hbl2⟩
        case measure => simp [intOf]; omega
      · have HQ := Lib.hid hq
        clear hq
        go_wp2_with fail
        refine (hard_any x y z _).mono ?_
        rintro e w2 ⟨rfl, hb2⟩
        rw [HQ.out]
        have hbl2 := hbl.trans (hb2.mono hsz)
        have HA := Lib.hid (show ts.any hardB = true from List.any_eq_true.2 ⟨nthT ts k, nthT_mem (by rw [hn.out]; exact hlt), by rw [HT.out]; exact HQ.out⟩)
        clear c0 c1 c2 hbl hb2
        go_wp2
        go_ret
        exact ⟨⟨(k : Int), rfl, by omega, by omega, by rw [HA.out]; simp⟩, hbl2⟩
    · have hkn : n = k := by omega
      subst hkn
      have HA := Lib.hid (show ts.any hardB = false from any_none (fun j hj => HN.out j (by rw [← hn.out]; exact hj)))
      have hki : ¬ ((n : Int) < (n : Int)) := by omega
      go_wp2
      go_ret
      exact ⟨⟨-1, rfl, by omega, by omega, by rw [HA.out]; rfl⟩, hbl⟩
set_option maxRecDepth 100000 in
set_option maxHeartbeats 1000000 in
theorem contains_hard (p : Option Addr) (c n : Nat) (ts : List T3) (hn : Hid (ts.length = n)) (hn2 : n ≤ 1000) (w : World) (hR : Rows3 w p ts) :
    Calls Tryd.prog 69 #[.slice p n c, .func (.func 67) #[] #[]] w fun e w' => e = .returned (.bool (ts.any hardB)) ∧ Below w.heap.size w w' := by
  go_enter Tryd.func69, Tryd.ntmps69
  go_wp2_with fail
  refine (index_hard p c n ts hn hn2 w hR).mono ?_
  rintro e w2 ⟨⟨r, rfl, hr1, hr2, hq⟩, hb2⟩
  have Hq := Lib.hid hq
  clear hq
  go_wp2
  go_ret
  exact ⟨by rw [← Hq.out]; rfl, hb2⟩
end Go.Proofs.YtdnccdobnhbpeaaDoor

namespace Go.Proofs.YtdnccdobnhbpeaaDoor
open Go Go.RowKit Go.Shelf Go.Maps Go.ChangeShapes
set_option linter.unusedVariables false
set_option linter.unusedSimpArgs false

/-- The verdict, by the ties and the aspects. -/
def jdL (ts xs : List T3) : Int := if ts.any nearB = true then 1 else if 0 < ts.length then 2 else if 0 < xs.length ∧ xs.any hardB = false then 3 else 4
def jdg (s : List Int) (a b : Int) : Int := jdL (rawL s a b) (asL b (standL s (fg s a) 12))
theorem jdL_perm {ts us xs : List T3} (h : ts.Perm us) : jdL ts xs = jdL us xs := by
  have h1 : ts.any nearB = us.any nearB := by
    rw [Bool.eq_iff_iff]
    simp only [List.any_eq_true]
    exact ⟨fun ⟨x, hx, hf⟩ => ⟨x, h.mem_iff.1 hx, hf⟩, fun ⟨x, hx, hf⟩ => ⟨x, h.mem_iff.2 hx, hf⟩⟩
  unfold jdL
  rw [h1, h.length_eq]
/-- What the operations of the first region come to. -/
def JuR (n₀ : Nat) (cs : Array Value) (s : List Int) (a b : Int) : Nat → Value → World → Prop
  | 0, x, _ => x = .agg cs
  | 1, x, _ => x = .int .i64 a
  | 2, x, _ => x = .int .i64 b
  | 3, x, V => ∃ ts : List T3, ts.Perm (rawL s a b) ∧ V.ownsRow n₀ 66 3 x ts.length (rowT ts)
  | 4, x, _ => x = .agg cs
  | 5, x, _ => x = .int .i64 a
  | 6, x, _ => x = .int .i64 b
  | 7, x, V => V.ownsRow n₀ 72 3 x (asL b (standL s (fg s a) 12)).length (rowT (asL b (standL s (fg s a) 12)))
  | 8, x, V => ∃ ts : List T3, ts.Perm (rawL s a b) ∧ V.ownsRow n₀ 66 3 x ts.length (rowT ts)
  | 9, x, V => V.ownsRow n₀ 72 3 x (asL b (standL s (fg s a) 12)).length (rowT (asL b (standL s (fg s a) 12)))
  | _, _, _ => True
theorem JuR.stab (n₀ : Nat) (cs : Array Value) (s : List Int) (a b : Int) (i : Nat) (x : Value) (V V' : World) (h : JuR n₀ cs s a b i x V) (hb : Below V.heap.size V V') : JuR n₀ cs s a b i x V' := by
  match i with
  | 0 => exact h
  | 1 => exact h
  | 2 => exact h
  | 3 => obtain ⟨ts, h1, h2⟩ := h; exact ⟨ts, h1, ownsRow_keptB h2 (grown_of_below hb) (fun r e => by cases e)⟩
  | 4 => exact h
  | 5 => exact h
  | 6 => exact h
  | 7 => exact ownsRow_keptB h (grown_of_below hb) (fun r e => by cases e)
  | 8 => obtain ⟨ts, h1, h2⟩ := h; exact ⟨ts, h1, ownsRow_keptB h2 (grown_of_below hb) (fun r e => by cases e)⟩
  | 9 => exact ownsRow_keptB h (grown_of_below hb) (fun r e => by cases e)
  | n + 10 => exact h
attribute [local go_sem] Oper.semAt_some
set_option maxRecDepth 100000 in
set_option maxHeartbeats 8000000 in
theorem judge_in (cs : Array Value) (s : List Int) (mb : Nat) (hC : Circ cs s (some mb)) (a b : Int) (ha : Hou a) (hb : Hou b) (base : Nat) (Dm : DataW Unit) (w : World) (HG : Hid (w.ownsGroups Tryd.prog 22 base 3 .i64 mb 12 Dm)) (hAt : Hid (∀ f : Int, Dm.atKey (.int .i64 f) .nil = stD s f 12)) (hF : Fig (fg s a)) (hw6 : 6 ≤ w.heap.size) :
    CallsIn Fence.wide 12 Tryd.prog 43 #[.agg cs, .int .i64 a, .int .i64 b] w fun e w' => e = .returned (.int .i64 (jdg s a b)) ∧ Below w.heap.size w w' := by
  have J3 := Blk.new w 84 cs
  have hB0 := below1 w (.cells cs 84)
  refine callsIn_of_wp_marks Tryd.func43 rfl trivial ?_ rfl
  simp only [Tryd.ntmps43, List.size_toArray, List.length_cons, List.length_nil, Nat.reduceAdd, Nat.reduceSub, Array.replicate_succ, Array.replicate_zero, List.push_toArray, List.append_toArray, List.nil_append, List.cons_append]
  gi_wp2_with fail
  refine wpIn_region_mono follows_mixedB [some 11, some 12, some 13, some 14, some 15, some 16, some 17, some 18, some 7, some 8] (by kernel_rfl) (JuR w.heap.size cs s a b) (JuR.stab _ _ _ _ _) ?step ?fin
  case step =>
    intro i hi a1 V FD
    have hi : i < 10 := hi
    have e : i = 0 ∨ i = 1 ∨ i = 2 ∨ i = 3 ∨ i = 4 ∨ i = 5 ∨ i = 6 ∨ i = 7 ∨ i = 8 ∨ i = 9 := by omega
    clear hi
    rcases e with rfl | rfl | rfl | rfl | rfl | rfl | rfl | rfl | rfl | rfl
    · have e3 : a1.tmps[3]?.getD undef = (.pointer (some ⟨w.heap.size, 0, none⟩)) := (FD.kept 3 (by kernel_rfl)).trans rfl
      refine wpOpIn_step rfl (fun K hK => ?_)
      refine Eq.mpr (if_pos (by rfl)) ?_
      exact operIn_load_row 84 (.tmp 3) rfl w.heap.size (eval_tmp e3) 84 cs (0, 0) _ (J3.below FD.below J3.lt) Tryd.underlying84 rfl (circ_info hC) (hK _ _ ⟨_, rfl, rfl, Below.refl _ _⟩)
    · have e1 : a1.tmps[1]?.getD undef = (.int .i64 a) := (FD.kept 1 (by kernel_rfl)).trans rfl
      refine wpOpIn_step rfl (fun K hK => ?_)
      refine Eq.mpr (if_pos (by rfl)) ?_
      go_simp
      exact hK _ _ ⟨_, rfl, rfl, Below.refl _ _⟩
    · have e2 : a1.tmps[2]?.getD undef = (.int .i64 b) := (FD.kept 2 (by kernel_rfl)).trans rfl
      refine wpOpIn_step rfl (fun K hK => ?_)
      refine Eq.mpr (if_pos (by rfl)) ?_
      go_simp
      exact hK _ _ ⟨_, rfl, rfl, Below.refl _ _⟩
    · have e11 : a1.tmps[11]?.getD undef = (.agg cs) := by
        obtain ⟨x, hx, ht⟩ := FD.dep 0 (by kernel_rfl)
        rw [ht 11 rfl]; exact hx
      have e12 : a1.tmps[12]?.getD undef = (.int .i64 a) := by
        obtain ⟨x, hx, ht⟩ := FD.dep 1 (by kernel_rfl)
        rw [ht 12 rfl]; exact hx
      have e13 : a1.tmps[13]?.getD undef = (.int .i64 b) := by
        obtain ⟨x, hx, ht⟩ := FD.dep 2 (by kernel_rfl)
        rw [ht 13 rfl]; exact hx
      refine wpOpIn_step rfl (fun K hK => ?_)
      refine Eq.mpr (if_pos (by rfl)) ?_
      go_simp
      gi_wp2_with fail
      refine ⟨trivial, ?_⟩
      refine (callsIn_wide.2 (callsIn_wide.1 (ties_in cs s mb hC a b ha hb base Dm _ (Lib.hid (groups_kept HG.out (grown_of_below (hB0.trans (FD.below.mono hB0.size))) (fun r e => by cases e))) hAt hF (Nat.le_trans hw6 (Nat.le_trans hB0.size FD.below.size))))).mono ?_
      rintro e V2 ⟨v, ts, rfl, hp, _, hown, hb2⟩
      exact hK _ _ ⟨_, rfl, ⟨ts, hp, ownsRow_base hown (Nat.le_trans hB0.size FD.below.size)⟩, hb2⟩
    · have e3 : a1.tmps[3]?.getD undef = (.pointer (some ⟨w.heap.size, 0, none⟩)) := (FD.kept 3 (by kernel_rfl)).trans rfl
      refine wpOpIn_step rfl (fun K hK => ?_)
      refine Eq.mpr (if_pos (by rfl)) ?_
      exact operIn_load_row 84 (.tmp 3) rfl w.heap.size (eval_tmp e3) 84 cs (0, 0) _ (J3.below FD.below J3.lt) Tryd.underlying84 rfl (circ_info hC) (hK _ _ ⟨_, rfl, rfl, Below.refl _ _⟩)
    · have e1 : a1.tmps[1]?.getD undef = (.int .i64 a) := (FD.kept 1 (by kernel_rfl)).trans rfl
      refine wpOpIn_step rfl (fun K hK => ?_)
      refine Eq.mpr (if_pos (by rfl)) ?_
      go_simp
      exact hK _ _ ⟨_, rfl, rfl, Below.refl _ _⟩
    · have e2 : a1.tmps[2]?.getD undef = (.int .i64 b) := (FD.kept 2 (by kernel_rfl)).trans rfl
      refine wpOpIn_step rfl (fun K hK => ?_)
      refine Eq.mpr (if_pos (by rfl)) ?_
      go_simp
      exact hK _ _ ⟨_, rfl, rfl, Below.refl _ _⟩
    · have e15 : a1.tmps[15]?.getD undef = (.agg cs) := by
        obtain ⟨x, hx, ht⟩ := FD.dep 4 (by kernel_rfl)
        rw [ht 15 rfl]; exact hx
      have e16 : a1.tmps[16]?.getD undef = (.int .i64 a) := by
        obtain ⟨x, hx, ht⟩ := FD.dep 5 (by kernel_rfl)
        rw [ht 16 rfl]; exact hx
      have e17 : a1.tmps[17]?.getD undef = (.int .i64 b) := by
        obtain ⟨x, hx, ht⟩ := FD.dep 6 (by kernel_rfl)
        rw [ht 17 rfl]; exact hx
      refine wpOpIn_step rfl (fun K hK => ?_)
      refine Eq.mpr (if_pos (by rfl)) ?_
      go_simp
      gi_wp2_with fail
      refine ⟨trivial, ?_⟩
      refine (callsIn_wide.2 (callsIn_wide.1 (aspects_in cs s mb hC a b ha hb base Dm _ (Lib.hid (groups_kept HG.out (grown_of_below (hB0.trans (FD.below.mono hB0.size))) (fun r e => by cases e))) hAt hF (Nat.le_trans hw6 (Nat.le_trans hB0.size FD.below.size))))).mono ?_
      rintro e V2 ⟨v, rfl, hown, hb2⟩
      exact hK _ _ ⟨_, rfl, ownsRow_base hown (Nat.le_trans hB0.size FD.below.size), hb2⟩
    · obtain ⟨x14, hx14, ht14⟩ := FD.dep 3 (by kernel_rfl)
      have e14 := ht14 14 rfl
      refine wpOpIn_step rfl (fun K hK => ?_)
      refine Eq.mpr (if_pos (by rfl)) ?_
      go_simp
      exact hK _ _ ⟨_, rfl, hx14, Below.refl _ _⟩
    · obtain ⟨x18, hx18, ht18⟩ := FD.dep 7 (by kernel_rfl)
      have e18 := ht18 18 rfl
      refine wpOpIn_step rfl (fun K hK => ?_)
      refine Eq.mpr (if_pos (by rfl)) ?_
      go_simp
      exact hK _ _ ⟨_, rfl, hx18, Below.refl _ _⟩
  case fin =>
    intro vv V hbv hv
    obtain ⟨ts, hperm, h8⟩ : ∃ ts : List T3, ts.Perm (rawL s a b) ∧ V.ownsRow w.heap.size 66 3 (vv 8) ts.length (rowT ts) := hv 8 (by decide)
    have h9 : V.ownsRow w.heap.size 72 3 (vv 9) (asL b (standL s (fg s a) 12)).length (rowT (asL b (standL s (fg s a) 12))) := hv 9 (by decide)
    have hBV := hB0.trans (hbv.mono hB0.size)
    have hrl := rawL_len s a b
    have hal := asL_len b (standL s (fg s a) 12)
    have hzl := standL_len s (fg s a) 12
    have HJ := Lib.hid (show jdg s a b = jdL ts (asL b (standL s (fg s a) 12)) from (jdL_perm hperm).symm)
    have htl : ts.length ≤ 40 := by rw [hperm.length_eq]; exact hrl
    obtain ⟨xs, has⟩ : ∃ xs, asL b (standL s (fg s a) 12) = xs := ⟨_, rfl⟩
    rw [has] at h9 hal HJ
    obtain ⟨p8, c8, e8, R8, _⟩ := Rows3.of_owns h8
    obtain ⟨p9, c9, e9, R9, _⟩ := Rows3.of_owns h9
    simp only [finD, List.set_cons_succ, List.set_cons_zero, e8, e9]
    obtain ⟨n, hn⟩ : ∃ n, ts.length = n := ⟨_, rfl⟩
    obtain ⟨k, hk⟩ : ∃ k, xs.length = k := ⟨_, rfl⟩
    have HN := Lib.hid hn
    have HK := Lib.hid hk
    rw [hn] at htl ⊢
    rw [hk] at hal ⊢
    have hnI : (n : Int) ≤ 40 := by omega
    have hkI : (k : Int) ≤ 12 := by omega
    generalize vv 0 = x0
    generalize vv 1 = x1
    generalize vv 2 = x2
    generalize vv 3 = x3
    generalize vv 4 = x4
    generalize vv 5 = x5
    generalize vv 6 = x6
    generalize vv 7 = x7
    clear hv h8 h9 e8 e9 has hperm hn hk hrl HG hAt J3
    gi_wp2_with fail
    refine ⟨trivial, ?_⟩
    refine (callsIn_wide.2 (contains_near p8 c8 n ts HN (by omega) _ R8)).mono ?_
    rintro e w2 ⟨rfl, hb2⟩
    have hB2 := hBV.trans (hb2.mono hBV.size)
    have R92 := R9.below hb2 (Nat.le_refl _)
    clear hb2 R9 R8
    cases hq : ts.any nearB
    · by_cases hn0 : 0 < n
      · have hnI0 : (0 : Int) < (n : Int) := by omega
        have HR := Lib.hid (show jdg s a b = 2 by rw [HJ.out]; unfold jdL; rw [hq, if_neg (by simp), HN.out, if_pos hn0])
        clear hq
        gi_wp2
        exact ⟨_, results_tmp rfl _ _ _, by rw [HR.out]; rfl, hB2⟩
      · have hnI0 : ¬ ((0 : Int) < (n : Int)) := by omega
        by_cases hk0 : 0 < k
        · have hkI0 : (0 : Int) < (k : Int) := by omega
          have HR0 := Lib.hid (show jdg s a b = if xs.any hardB = false then 3 else 4 by
            rw [HJ.out]; unfold jdL; rw [hq, if_neg (by simp), HN.out, if_neg hn0, HK.out]
            by_cases hh : xs.any hardB = false
            · rw [if_pos ⟨hk0, hh⟩, if_pos hh]
            · rw [if_neg (fun h => hh h.2), if_neg hh])
          clear hq
          gi_wp2_with fail
          refine ⟨trivial, ?_⟩
          refine (callsIn_wide.2 (contains_hard p9 c9 k xs HK (by omega) _ R92)).mono ?_
          rintro e w3 ⟨rfl, hb3⟩
          have hB3 := hB2.trans (hb3.mono hB2.size)
          cases hh : xs.any hardB
          · have HR := Lib.hid (show jdg s a b = 3 by rw [HR0.out, if_pos hh])
            clear hh hb3
            gi_wp2
            exact ⟨_, results_tmp rfl _ _ _, by rw [HR.out]; rfl, hB3⟩
          · have HR := Lib.hid (show jdg s a b = 4 by rw [HR0.out, if_neg (by rw [hh]; simp)])
            clear hh hb3
            gi_wp2
            exact ⟨_, results_tmp rfl _ _ _, by rw [HR.out]; rfl, hB3⟩
        · have hkI0 : ¬ ((0 : Int) < (k : Int)) := by omega
          have HR := Lib.hid (show jdg s a b = 4 by
            rw [HJ.out]; unfold jdL; rw [hq, if_neg (by simp), HN.out, if_neg hn0, HK.out, if_neg (fun h => hk0 h.1)])
          clear hq
          gi_wp2
          refine ⟨trivial, ?_⟩
          gi_wp2
          exact ⟨_, results_tmp rfl _ _ _, by rw [HR.out]; rfl, hB2⟩
    · have HR := Lib.hid (show jdg s a b = 1 by rw [HJ.out]; unfold jdL; rw [hq, if_pos rfl])
      clear hq
      gi_wp2
      exact ⟨_, results_tmp rfl _ _ _, by rw [HR.out]; rfl, hB2⟩
end Go.Proofs.YtdnccdobnhbpeaaDoor

