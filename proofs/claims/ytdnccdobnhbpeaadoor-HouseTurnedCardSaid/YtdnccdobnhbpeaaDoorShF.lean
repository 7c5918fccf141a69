/-
  Package shield: charts of mothers, with the error; what the statements compare.
-/
import Derived.Test.YtdnccdobnhbpeaaDoorShD
namespace Go.Proofs.YtdnccdobnhbpeaaDoor
open Go Go.RowKit
set_option linter.unusedVariables false

theorem reads_at (W : World) (T : TypeId) (xs : List Int) (n : Nat) (h : W.heap.size = n) : Reads (W.alloc (.cells (arr xs) T)) (some ⟨n, 0, none⟩) xs := fun k hk =>
  ⟨n, 0, rfl, by subst h; rw [Nat.zero_add, (Blk.new W T (arr xs)).cell, arr_get hk]⟩
theorem Blk.reads {w : World} {g : Nat} {t : TypeId} {xs : List Int} (h : Blk w g t (arr xs)) : Reads w (some ⟨g, 0, none⟩) xs := fun k hk =>
  ⟨g, 0, rfl, by rw [Nat.zero_add, h.cell, arr_get hk]⟩
theorem chkF_zero {xs : List Int} (h : chkF xs = 0) : ∀ k, k < xs.length → Fig (nth xs k) := fun k hk => by
  unfold chkF at h
  split at h
  · simp at h
  · rename_i h1
    simp [anyB, outB] at h1
    have := h1 _ (nth_mem hk)
    exact ⟨by omega, by omega⟩
theorem chkF_of {xs : List Int} (h : ∀ k, k < xs.length → Fig (nth xs k)) : chkF xs = 0 := by
  unfold chkF
  rw [if_neg]
  intro h1
  simp [anyB, outB] at h1
  obtain ⟨x, hx, h2⟩ := h1
  obtain ⟨i, hi, rfl⟩ := List.getElem_of_mem hx
  have := h i hi
  rw [nth_eq hi] at this
  obtain ⟨a, b⟩ := this
  omega
theorem chkF_or (xs : List Int) : chkF xs = 0 ∨ chkF xs = 2 := by unfold chkF; split <;> simp

theorem results_cell_slot {P : Program} {fn : Func} {p q : Tmp} {ty : TypeId} (h : fn.results = #[.cell p ty, .tmp q]) (tmps : Array Value) (w : World) (g : Nat) (t : TypeId) (cs : Array Value) (fr : Nat × Nat) (d : TypeDesc)
    (hp : tmps.getD p undef = .pointer (some ⟨g, 0, none⟩)) (hg : w.heap[g]? = some (.cells cs t fr))
    (hu : P.underlying ty = some d) (hd : (match d with | .struct _ | .array _ _ => true | _ => false) = true) (hi : (P.info? ty).map (·.size) = some cs.size) (v : Value) (hv : tmps.getD q undef = v) :
    (results fn tmps).run P w = .ok (.tuple #[.agg cs, v]) w := by
  have hp' : tmps[p]?.getD undef = .pointer (some ⟨g, 0, none⟩) := by simpa using hp
  have hv' : tmps[q]?.getD undef = v := by simpa using hv
  simp [results, h, hp', hv', asAddr, run_loadVar_row w g t ty cs fr d hg hu hd hi]

/-- The chart of the document's second example. -/
def loneL : List Int := [15, 0, 0, 0, 1, 1, 1, 1, 15, 0, 0, 0, 15, 0, 15, 0]
theorem lone_is : dP [15, 0, 0, 0] 16 = loneL := by decide
/-- The chart of mothers, if they are. -/
def deriveV (m : List Int) : List Int := if chkF m = 0 then dP m 16 else List.replicate 16 0
theorem deriveV_length (m : List Int) (h : m.length = 4) : (deriveV m).length = 16 := by
  unfold deriveV
  split
  · exact dTo_length m h _
  · simp
end Go.Proofs.YtdnccdobnhbpeaaDoor
