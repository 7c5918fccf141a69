/-
  HexagramChances: pieces of its walk: Lines of hexagrams; what three allocations leave.
-/
import Derived.Test.YtdfdgeaohneeaaaGreatDoorHxZe
import Derived.Test.YtdfdgeaohneeaaaGreatDoorHxCl
import Derived.Test.YtdfdgeaohneeaaaGreatDoorHxM
import Derived.Test.YtdfdgeaohneeaaaGreatDoorHxWx
import Derived.Test.YtdfdgeaohneeaaaGreatDoorHxWm
namespace Go.Proofs.YtdfdgeaohneeaaaGreatDoor
open Go Go.RowKit
set_option linter.unusedVariables false
set_option linter.unusedSimpArgs false

def castsL (x y : Int) : List Int := (List.range 6).map (fun i : Nat => castV x y i)
theorem castsL_length (x y : Int) : (castsL x y).length = 6 := by simp [castsL]
theorem castsL_nth (x y : Int) {j : Nat} (h : j < 6) : nth (castsL x y) j = castV x y j := by
  rw [nth_eq (by rw [castsL_length]; exact h)]; simp [castsL]
theorem lines_hex (x y : Int) (hx : Hex x) (hy : Hex y) (w : World) :
    Calls Tryz.prog 26 #[.int .i64 x, .int .i64 y] w fun e w' => e = .returned (.tuple #[.agg (arr (castsL x y)), .int .i64 0]) ∧ Below w.heap.size w w' := by
  have h : chkH [x, y] = 0 := chkH_of fun k hk => by
    match k with
    | 0 => exact hx
    | 1 => exact hy
  have := lines_any x y w
  unfold linesV at this
  rw [if_pos h, h] at this
  exact this
theorem info_four : (Tryz.prog.info? 57).map (·.size) = some 4 := by kernel_rfl
theorem info_seven : (Tryz.prog.info? 52).map (·.size) = some 7 := by kernel_rfl
theorem info_sixty : (Tryz.prog.info? 51).map (·.size) = some 64 := by kernel_rfl
/-- The map and the two arrays. -/
theorem three4 (V : World) (o1 o2 o3 : Obj) : (((V.alloc o1).alloc o2).alloc o3).heap[V.heap.size + 1]? = some o2 ∧ (((V.alloc o1).alloc o2).alloc o3).heap[V.heap.size + 2]? = some o3 ∧ Below V.heap.size V (((V.alloc o1).alloc o2).alloc o3) := by
  have s1 : (V.alloc o1).heap.size = V.heap.size + 1 := by simp
  have s2 : ((V.alloc o1).alloc o2).heap.size = V.heap.size + 2 := by simp
  refine ⟨?_, ?_, (((Below.refl _ _).alloc (Nat.le_refl _) _).alloc (by omega) _).alloc (by omega) _⟩
  · rw [← s1]; exact (Below.heap_alloc _ _ _ (by omega)).trans (heap_alloc_new _ _)
  · rw [← s2]; exact heap_alloc_new _ _
theorem map_below {w w' : World} {k : TypeId} {R : Value → Option (DataW Value × List MemPlace)} {b n : Nat} {D : DataW Value} (h : w.ownsMap Tryz.prog k R b n D) (hb : Below w.heap.size w w') : w'.ownsMap Tryz.prog k R b n D := h.kept (grown_of_below hb) (by simp)
theorem map_row {w : World} {k : TypeId} {R : Value → Option (DataW Value × List MemPlace)} {b n g : Nat} {D : DataW Value} {cs : Array Value} (h : w.ownsMap Tryz.prog k R b n D) (hne : b ≠ g) : (w.setRow g cs).ownsMap Tryz.prog k R b n D := by
  obtain ⟨es, clock, hb, r⟩ := h
  exact ⟨es, clock, by simp only [World.setRow]; rw [Array.getElem?_modify, if_neg (fun e => hne e.symm)]; exact hb, r⟩
theorem blk_turned {w w' : World} {b g : Nat} {t : TypeId} {cs : Array Value} (h : Blk w g t cs) (ht : w.mapTurned w' b) (hne : g ≠ b) : Blk w' g t cs := (ht.grown.block g h.lt (fun e => hne (by cases e; rfl))).trans h
theorem below_turned {w0 w w' : World} {B b : Nat} (h : Below B w0 w) (ht : w.mapTurned w' b) (hb : B ≤ b) (hs : B ≤ w.heap.size) : Below B w0 w' := h.grown ht.grown hs (fun k e => by cases e; exact hb)
theorem fig_next {P : List Int} {k j : Nat} (hj : k / 64 = j) : figTo P (k + 1) = (figTo P k).set j (nth (figTo P k) j + nth P k) := by subst hj; rfl
theorem mov_next {P : List Int} {k j : Nat} (hj : (difTo (k / 64 : Nat) (k % 64 : Nat) 6).toNat = j) : movTo P (k + 1) = (movTo P k).set j (nth (movTo P k) j + nth P k) := by subst hj; rfl
theorem still_load_row {P : Program} {ops : Array Oper} {w : World} {Q : Act → Prop} {a : Act} {o : Oper} {rest : List Oper} (hgd : o.guard = none) (ty : TypeId) (x : Operand) (ho : o.op = .load ty x)
    (g : Nat) (hx : a.eval x = .pointer (some ⟨g, 0, none⟩)) (t : TypeId) (cs : Array Value) (fr : Nat × Nat) (d : TypeDesc) (hg : w.heap[g]? = some (.cells cs t fr))
    (hu : P.underlying ty = some d) (hd : (match d with | .struct _ | .array _ _ => true | _ => false) = true) (hi : (P.info? ty).map (·.size) = some cs.size)
    (h : wpStill P ops w Q rest (a.put o.dst (.agg cs))) : wpStill P ops w Q (o :: rest) a := by
  have hw : Region.wanted o (yielded ops a.tmps) = true := by simp [Region.wanted, hgd]
  unfold wpStill
  rw [if_pos hw]
  unfold Oper.still execOp
  simp only [ho, hx, Instr.loadAt, Instr.sureAddr, Sem.run_bind, Sem.run_pure, Result.andThen_ok, run_loadVar_row w g t ty cs fr d hg hu hd hi]
  exact ⟨rfl, h⟩
end Go.Proofs.YtdfdgeaohneeaaaGreatDoor
