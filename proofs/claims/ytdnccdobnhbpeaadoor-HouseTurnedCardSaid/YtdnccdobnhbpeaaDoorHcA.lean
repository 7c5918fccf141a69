/-
  The circle of houses: a house's neighbours; the figure of a house, whatever the circle's cells.
-/
import Derived.Test.YtdnccdobnhbpeaaDoorHoJs
import Derived.Test.YtdnccdobnhbpeaaDoorRgi
import Derived.Maps.AppendAt
import Derived.RangeFuncNested
import Derived.RangeFuncBound
import Derived.RangeFuncCalls
import Derived.RangeFuncLeaves
import Derived.RangeFuncBox
import Derived.Shelf.Abstract
import Derived.Shelf.RegionOpen
import Derived.OwnWalkIn
import Derived.TacticsInMore
import Derived.LoopNIn
import Derived.LoopIn
namespace Go.Proofs.YtdnccdobnhbpeaaDoor
open Go Go.RowKit Go.Shelf
set_option linter.unusedVariables false
set_option linter.unusedSimpArgs false

/-- The two neighbours of a house. -/
def nb1 (h : Int) : Int := (h + 10) % 12 + 1
def nb2 (h : Int) : Int := h % 12 + 1
def nbs (h : Int) : List Int := [nb1 h, nb2 h]
def nbI (h : Int) (i : Nat) : Int := if i = 0 then nb1 h else nb2 h
def encN (h : Int) (i : Nat) : Array Value := #[.int .i64 (nbI h i)]
theorem nbI_hou {h : Int} {i : Nat} : Hou (nbI h i) := by unfold Hou nbI nb1 nb2; split <;> omega
theorem nbI_all (h : Int) : [0, 1].map (nbI h) = nbs h := rfl
theorem nb_hou {h : Int} : Hou (nb1 h) ∧ Hou (nb2 h) := by unfold Hou nb1 nb2; omega
/-- What a body keeps: the iterator's variable. -/
def KpN (B : Nat) (W W' : World) : Prop := W.heap.size ≤ W'.heap.size ∧ W'.heap[B]? = W.heap[B]?
theorem KpN.trans {B : Nat} {X Y Z : World} (h : KpN B X Y) (k : KpN B Y Z) : KpN B X Z := ⟨Nat.le_trans h.1 k.1, k.2.trans h.2⟩
theorem KpN.put {B : Nat} {w : World} (h1 : B < w.heap.size) (W : World) (l : Nat) (o o' : Obj) (hl : w.heap.size ≤ l) (h : W.heap[l]? = some o) (_ : o.isCells = false) (_ : o.isWalk = false) : KpN B W (W.putObj l o') := by
  refine ⟨?_, World.putObj_heap_other (by omega)⟩
  exact (grownBy_putObj' W l o').size
theorem KpN.cell {B : Nat} {W W' : World} (h : KpN B W W') {u : Value} (h1 : W.cell? ⟨B, 0, none⟩ = some u) : W'.cell? ⟨B, 0, none⟩ = some u :=
  (World.cell?_of_block (w := W) h.2).trans h1
set_option maxRecDepth 100000 in
set_option maxHeartbeats 4000000 in
theorem beside1_in (F : Fence) (n : Nat) (hf : F.fn 93) (hro : F.round = none) (hn : 1 ≤ n) (l B : Nat) (h : Int) (hh : Hou h) (J Jx : List Nat → World → Prop)
    (hY : ∀ pre x W, J pre W → pre.length < 2 → YieldAt F (n - 1) Tryd.prog l (encN h x) W fun e W' =>
      (e = .returned (.bool true) ∧ J (pre ++ [x]) W' ∧ KpN B W W') ∨ (e = .returned (.bool false) ∧ Jx (pre ++ [x]) W'))
    (W : World) (h0 : J [] W) (hc : W.cell? ⟨B, 0, none⟩ = some (.int .i64 h)) :
    CallsIn F n Tryd.prog 93 #[.func (.yield l) #[] #[], .pointer (some ⟨B, 0, none⟩)] W fun e W' => (∃ v, e = .returned v) ∧
      ((∃ ys, ys = [0, 1] ∧ J ys W') ∨ (∃ pre, True ∧ Jx pre W')) := by
  obtain ⟨hh1, hh2⟩ := hh
  have e1 : IntKind.i64.wrap (h + 12) = h + 12 := IntWalk.i64_in _ (by omega)
  have e2 : IntKind.i64.wrap (h + 12 - 2) = h + 10 := by rw [show h + 12 - 2 = h + 10 by omega]; exact IntWalk.i64_in _ (by omega)
  have e3 : IntKind.i64.wrap ((h + 10).tmod 12) = (h + 10) % 12 := by rw [Int.tmod_eq_emod_of_nonneg (by omega)]; exact IntWalk.i64_in _ (by omega)
  have e4 : IntKind.i64.wrap ((h + 10) % 12 + 1) = nb1 h := IntWalk.i64_in _ (by omega)
  have e5 : IntKind.i64.wrap (h.tmod 12) = h % 12 := by rw [Int.tmod_eq_emod_of_nonneg (by omega)]; exact IntWalk.i64_in _ (by omega)
  have e6 : IntKind.i64.wrap (h % 12 + 1) = nb2 h := IntWalk.i64_in _ (by omega)
  obtain ⟨fn, tmps, assign, body, hy, hR⟩ := hY [] 0 W h0 (by simp)
  have hy : (Instr.yield l #[.int .i64 (nb1 h)]).run Tryd.prog W = .ok (.round l fn tmps assign body) W := hy
  refine callsIn_of_wp Tryd.func93 rfl hf ?_ hro
  simp only [Tryd.ntmps93, List.size_toArray, List.length_cons, List.length_nil, Nat.reduceAdd, Nat.reduceSub, Array.replicate_succ, Array.replicate_zero, List.push_toArray, List.append_toArray, List.nil_append, List.cons_append]
  gi_wp2
  refine hR.mono ?_
  rintro e W3 (⟨rfl, hJ3, hk3⟩ | ⟨rfl, hJx3⟩)
  · have hc3 := hk3.cell hc
    obtain ⟨fn2, tmps2, assign2, body2, hy2, hR2⟩ := hY [0] 1 W3 hJ3 (by simp)
    have hy2 : (Instr.yield l #[.int .i64 (nb2 h)]).run Tryd.prog W3 = .ok (.round l fn2 tmps2 assign2 body2) W3 := hy2
    clear hy hR hc e1 e2 e3 e4 hk3 h0 hJ3
    gi_wp2
    refine hR2.mono ?_
    rintro e W4 (⟨rfl, hJ4, hk4⟩ | ⟨rfl, hJx4⟩)
    · gi_wp2
      go_end0
      exact ⟨⟨_, rfl⟩, .inl ⟨_, rfl, hJ4⟩⟩
    · gi_wp2
      go_end0
      exact ⟨⟨_, rfl⟩, .inr ⟨_, trivial, hJx4⟩⟩
  · gi_wp2
    go_end0
    exact ⟨⟨_, rfl⟩, .inr ⟨_, trivial, hJx3⟩⟩
theorem beside_stops (F : Fence) (n : Nat) (hf : F.fn 93) (hro : F.round = none) (hn : 1 ≤ n) (B : Nat) (h : Int) (hh : Hou h) (w : World) (hc : w.cell? ⟨B, 0, none⟩ = some (.int .i64 h)) :
    SeqStopsK F n Tryd.prog 93 #[.pointer (some ⟨B, 0, none⟩)] (encN h) (KpN B) (fun ys => ys = [0, 1]) (fun _ => True) 2 w := fun l J Jx W hW hJ _ hY h0 =>
  beside1_in F n hf hro hn l B h hh J Jx hY W h0 (cell_tr hW hc)
set_option maxRecDepth 100000 in
set_option maxHeartbeats 1000000 in
theorem beside_any (h : Int) (w : World) :
    Calls Tryd.prog 81 #[.int .i64 h] w fun e w' => e = .returned (.func (.func 93) #[] #[.pointer (some ⟨w.heap.size, 0, none⟩)]) ∧ w' = w.alloc (.cells #[.int .i64 h] 3) := by
  go_enter Tryd.func81, Tryd.ntmps81
  go_wp2
  go_ret
  exact ⟨rfl, rfl⟩
set_option maxRecDepth 100000 in
set_option maxHeartbeats 1000000 in
theorem thirds_any (a b : Int) (w : World) :
    Calls Tryd.prog 82 #[.int .i64 a, .int .i64 b] w fun e w' => e = .returned (.func (.func 94) #[] #[.pointer (some ⟨w.heap.size, 0, none⟩), .pointer (some ⟨w.heap.size + 1, 0, none⟩)]) ∧ w' = (w.alloc (.cells #[.int .i64 a] 3)).alloc (.cells #[.int .i64 b] 3) := by
  go_enter Tryd.func82, Tryd.ntmps82
  go_wp2
  go_ret
  exact ⟨rfl, rfl⟩
def thirdB (a b x : Int) : Bool := decide (x ≠ a ∧ x ≠ b)
set_option maxRecDepth 100000 in
set_option maxHeartbeats 1000000 in
theorem thirds1_any (a b x : Int) (p q : Addr) (w : World) (hp : w.cell? p = some (.int .i64 a)) (hq : w.cell? q = some (.int .i64 b)) :
    Calls Tryd.prog 94 #[.int .i64 x, .pointer (some p), .pointer (some q)] w fun e w' => e = .returned (.bool (thirdB a b x)) ∧ w' = w := by
  cases h1 : (x != a)
  · have HT := Lib.hid (show thirdB a b x = false by simp at h1; simp [thirdB, h1])
    go_enter Tryd.func94, Tryd.ntmps94
    go_wp2
    go_ret
    exact ⟨by rw [HT.out]; rfl, rfl⟩
  · cases h2 : (x != b)
    · have HT := Lib.hid (show thirdB a b x = false by simp at h1 h2; simp [thirdB, h1, h2])
      go_enter Tryd.func94, Tryd.ntmps94
      go_wp2
      go_ret
      exact ⟨by rw [HT.out]; rfl, rfl⟩
    · have HT := Lib.hid (show thirdB a b x = true by simp at h1 h2; simp [thirdB, h1, h2])
      go_enter Tryd.func94, Tryd.ntmps94
      go_wp2
      go_ret
      exact ⟨by rw [HT.out]; rfl, rfl⟩
/-- The cells of a circle: twelve figures, then the map. -/
structure Circ (cs : Array Value) (s : List Int) (m : Option Nat) : Prop where
  size : cs.size = 13
  fig : ∀ j, j < 12 → cs[j]? = some (.int .i64 (nth s j))
  map : cs[12]? = some (.map m)
  one : cs.all (·.oneCell') = true
/-- The figure of a house. -/
def fg (s : List Int) (h : Int) : Int := nth s (h - 1).toNat
set_option maxRecDepth 100000 in
set_option maxHeartbeats 2000000 in
theorem figureC_any (cs : Array Value) (s : List Int) (m : Option Nat) (hC : Circ cs s m) (h : Int) (hh : Hou h) (w : World) :
    Calls Tryd.prog 34 #[.agg cs, .int .i64 h] w fun e w' => e = .returned (.int .i64 (fg s h)) ∧ Below w.heap.size w w' := by
  obtain ⟨hh1, hh2⟩ := hh
  obtain ⟨k, hk⟩ : ∃ k : Nat, (h - 1).toNat = k := ⟨_, rfl⟩
  have hk12 : k < 12 := by omega
  have hhk : h = (k : Int) + 1 := by omega
  subst hhk
  have HF := Lib.hid (show fg s ((k : Int) + 1) = nth s k by unfold fg; rw [hk])
  have hc : (w.alloc (.cells cs 84)).cell? ⟨w.heap.size, k, none⟩ = some (.int .i64 (nth s k)) := by
    rw [(Blk.new w 84 cs).cell k]
    exact hC.fig k hk12
  have e1 : IntKind.i64.wrap ((k : Int) + 1 - 1) = (k : Int) := by
    rw [Int.add_sub_cancel]
    exact IntWalk.i64_in _ (by omega)
  have hk3 : (k : Int) < 12 := by omega
  clear hk
  obtain ⟨l, rfl⟩ : ∃ l, cs = ⟨l⟩ := ⟨cs.toList, rfl⟩
  go_enter Tryd.func34, Tryd.ntmps34
  go_wp2
  go_ret
  exact ⟨by rw [HF.out]; rfl, (Below.refl _ _).alloc (Nat.le_refl _) _⟩
end Go.Proofs.YtdnccdobnhbpeaaDoor
