/-
  Package shield: how many charts have a figure of a set at each place.
-/
import Derived.Test.YthioojappmnnaaaDoorShCh
import Derived.Test.YthioojappmnnaaaDoorShE
import Derived.Maps.AppendAt
namespace Go.Proofs.YthioojappmnnaaaDoor
open Go Go.RowKit Go.Shelf
set_option linter.unusedVariables false

/-- Whether the figure at a place is of its set. -/
def inB (S s : List Int) (i : Nat) : Bool := !(bits BinOp.and IntKind.i64 (nth S i / 2 ^ (nth s i).toNat) 1 == 0)
def insB (S s : List Int) : Bool := (List.range 16).all (inB S s)
theorem insB_no {S s : List Int} {k : Nat} (hk : k < 16) (h : inB S s k = false) : insB S s = false := by
  unfold insB
  rw [List.all_eq_false]
  exact ⟨k, by simpa using hk, by simp [h]⟩
theorem insB_yes {S s : List Int} (h : ∀ k, k < 16 → inB S s k = true) : insB S s = true := by
  unfold insB
  rw [List.all_eq_true]
  exact fun k hk => h k (by simpa using hk)

/-- Whether a chart has such figures; how many of some have; the mothers of the first one. -/
def insC (S : List Int) (x : Nat) : Bool := insB S (chV x)
def cntN (S : List Int) (pre : List Nat) : Nat := (pre.filter (insC S)).length
def cntF (S : List Int) (pre : List Nat) : List Int := match pre.filter (insC S) with
  | [] => [0, 0, 0, 0]
  | x :: _ => nibs x
theorem cntF_len (S : List Int) (pre : List Nat) : (cntF S pre).length = 4 := by
  unfold cntF
  split <;> rfl
theorem cntN_le (S : List Int) (pre : List Nat) : cntN S pre ≤ pre.length := List.length_filter_le _ _
theorem cnt_no {S : List Int} {pre : List Nat} {x : Nat} (h : insC S x = false) : cntN S (pre ++ [x]) = cntN S pre ∧ cntF S (pre ++ [x]) = cntF S pre := by
  simp [cntN, cntF, List.filter_append, h]
theorem cntN_yes {S : List Int} {pre : List Nat} {x : Nat} (h : insC S x = true) : cntN S (pre ++ [x]) = cntN S pre + 1 := by
  simp [cntN, List.filter_append, h]
theorem cntF_first {S : List Int} {pre : List Nat} {x : Nat} (h : insC S x = true) (h0 : cntN S pre = 0) : cntF S (pre ++ [x]) = nibs x := by
  have e : pre.filter (insC S) = [] := List.eq_nil_of_length_eq_zero h0
  simp [cntF, List.filter_append, h, e]
theorem cntF_later {S : List Int} {pre : List Nat} {x : Nat} (h0 : cntN S pre ≠ 0) : cntF S (pre ++ [x]) = cntF S pre := by
  unfold cntF
  rw [List.filter_append]
  cases e : pre.filter (insC S) with
  | nil => exact absurd (by simp [cntN, e]) h0
  | cons y r => rfl
end Go.Proofs.YthioojappmnnaaaDoor
