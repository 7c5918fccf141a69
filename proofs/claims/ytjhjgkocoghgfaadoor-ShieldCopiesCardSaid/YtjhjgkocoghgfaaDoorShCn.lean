/-
  Package shield: how many charts have a figure of a set at each place.
-/
import Derived.Test.YtjhjgkocoghgfaaDoorShCh
import Derived.Test.YtjhjgkocoghgfaaDoorShE
import Derived.Maps.AppendAt
namespace Go.Proofs.YtjhjgkocoghgfaaDoor
open Go Go.RowKit Go.Shelf
set_option linter.unusedVariables false

/-- Whether the figure at a place is of its set. -/
def inB (S s : List Int) (i : Nat) : Bool := !(bits BinOp.and IntKind.i64 (nth S i / 2 ^ (nth s i).toNat) 1 == 0)
def insB (S s : List Int) : Bool := (List.range 16).all (inB S s)
theorem insB_no {S s : List Int} {k : Nat} (hk : k < 16) (h : inB S s k = false) : insB S s = false := by
  unfold insB
  rw [List.all_eq_false]
  exact ⟨k, by simpa using hk, by simp [h]⟩
theorem insB_yes {S s : List Int} (h : ∀ k, k < 16 → inB S s k = true) : insB S s = true := by
  unfold insB
  rw [List.all_eq_true]
  exact fun k hk => h k (by simpa using hk)

set_option maxRecDepth 100000 in
set_option maxHeartbeats 2000000 in
theorem within_any (bs bc : Nat) (S s : List Int) (hS : Hid (S.length = 16)) (hs : Hid (s.length = 16)) (hf : Figs s) (w : World) (hb : Blk w bs 39 (arr S)) (hc : Blk w bc 24 (arr s)) :
    Calls Tryd.prog 36 #[.pointer (some ⟨bs, 0, none⟩), .pointer (some ⟨bc, 0, none⟩)] w fun e w' => e = .returned (.bool (insB S s)) ∧ ∃ r, w' = w.drewN r := by
  have HF := Lib.hid hf
  have HB := Lib.hid hb
  have HC := Lib.hid hc
  clear hf hb hc
  go_enter Tryd.func36, Tryd.ntmps36
  go_wp2_with fail
  go_loopw [8] (fun i wr => ∃ k : Nat, k ≤ 16 ∧ i = .int .i64 k ∧ Hid (∀ j, j < k → inB S s j = true) ∧ ∃ r, wr = w.drewN r) (fun i _ => 16 - (intOf i).toNat)
  case atStart => exact ⟨0, by omega, rfl, fun j hj => by omega, 0, rfl⟩
  case round =>
    obtain ⟨k, hk, rfl, HN, r, rfl⟩ := hrel
    by_cases hlt : k < 16
    · have c1 : w.cell? ⟨bs, k, none⟩ = some (.int .i64 (nth S k)) := by rw [HB.out.cell k, arr_get (by have := hS.out; omega)]
      have c2 : w.cell? ⟨bc, k, none⟩ = some (.int .i64 (nth s k)) := by rw [HC.out.cell k, arr_get (by have := hs.out; omega)]
      obtain ⟨f0, f1⟩ := HF.out k hlt
      have HI := Lib.hid (show inB S s k = !(bits BinOp.and IntKind.i64 (nth S k / 2 ^ (nth s k).toNat) 1 == 0) from rfl)
      obtain ⟨v, hv⟩ : ∃ v, nth s k = v := ⟨_, rfl⟩
      obtain ⟨u, hu⟩ : ∃ u, nth S k = u := ⟨_, rfl⟩
      rw [hv] at c2 f0 f1 HI
      rw [hu] at c1 HI
      clear hv hu
      cases hq : (bits BinOp.and IntKind.i64 (u / 2 ^ v.toNat) 1 == 0)
      · have HT := Lib.hid (show inB S s k = true by rw [HI.out, hq]; rfl)
        go_wp2_with fail
        go_quiet (fail)
        go_wp2_with fail
        go_roundw
        case rel => exact ⟨k + 1, by omega, by go_num, fun j hj => by rcases (by omega : j < k ∨ j = k) with h1 | rfl; exact HN.out j h1; exact HT.out, _, by first | rfl | exact World.drewN_drewN ..⟩
        case measure => simp [intOf]; omega
      · have HT := Lib.hid (show inB S s k = false by rw [HI.out, hq]; rfl)
        have E := Lib.hid (insB_no hlt HT.out)
        go_wp2_with fail
        go_quiet (fail)
        go_wp2_with fail
        go_ret
        exact ⟨by rw [E.out]; rfl, _, by first | rfl | exact World.drewN_drewN ..⟩
    · obtain rfl : k = 16 := by omega
      have E := Lib.hid (insB_yes (S := S) (s := s) HN.out)
      go_wp2_with fail
      go_ret
      exact ⟨by rw [E.out]; rfl, r, rfl⟩

/-- Whether a chart has such figures; how many of some have; the mothers of the first one. -/
def insC (S : List Int) (x : Nat) : Bool := insB S (chV x)
def cntN (S : List Int) (pre : List Nat) : Nat := (pre.filter (insC S)).length
def cntF (S : List Int) (pre : List Nat) : List Int := match pre.filter (insC S) with
  | [] => [0, 0, 0, 0]
  | x :: _ => nibs x
theorem cntF_len (S : List Int) (pre : List Nat) : (cntF S pre).length = 4 := by
  unfold cntF
  split <;> rfl
theorem cntN_le (S : List Int) (pre : List Nat) : cntN S pre ≤ pre.length := List.length_filter_le _ _
theorem cnt_no {S : List Int} {pre : List Nat} {x : Nat} (h : insC S x = false) : cntN S (pre ++ [x]) = cntN S pre ∧ cntF S (pre ++ [x]) = cntF S pre := by
  simp [cntN, cntF, List.filter_append, h]
theorem cntN_yes {S : List Int} {pre : List Nat} {x : Nat} (h : insC S x = true) : cntN S (pre ++ [x]) = cntN S pre + 1 := by
  simp [cntN, List.filter_append, h]
theorem cntF_first {S : List Int} {pre : List Nat} {x : Nat} (h : insC S x = true) (h0 : cntN S pre = 0) : cntF S (pre ++ [x]) = nibs x := by
  have e : pre.filter (insC S) = [] := List.eq_nil_of_length_eq_zero h0
  simp [cntF, List.filter_append, h, e]
theorem cntF_later {S : List Int} {pre : List Nat} {x : Nat} (h0 : cntN S pre ≠ 0) : cntF S (pre ++ [x]) = cntF S pre := by
  unfold cntF
  rw [List.filter_append]
  cases e : pre.filter (insC S) with
  | nil => exact absurd (by simp [cntN, e]) h0
  | cons y r => rfl
end Go.Proofs.YtjhjgkocoghgfaaDoor
