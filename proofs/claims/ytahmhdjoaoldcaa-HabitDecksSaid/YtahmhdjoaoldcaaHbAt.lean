/-
  HabitDecks: chances, the first of them that is 0.
-/
import Derived.Test.YtahmhdjoaoldcaaHbAs
namespace Go.Proofs.Ytahmhdjoaoldcaa
open Go Go.RowKit Go.Shelf
set_option linter.unusedVariables false
set_option linter.unusedSimpArgs false

theorem collectC_any (Bm Bl pr q o : Nat) (row xs : List Int) (m cr nl cl n0 : Nat) (pl : Option Addr) (S : Int) (w : World) (hm : ModB w Bm pr (n0 : Int)) (hbm : Bm < w.heap.size) (hbl : Bl < w.heap.size) (hpr : pr < w.heap.size) (hq : q < w.heap.size)
    (hcl : w.cell? ⟨Bl, 0, none⟩ = some (.slice pl nl cl)) (hp : w.cell? ⟨pr, 0, none⟩ = some (.slice (some ⟨q, o, none⟩) m cr)) (hR : Reads w (some ⟨q, o, none⟩) row) (hRl : Reads w pl xs)
    (hx : Hid (row.length = m)) (hxl : Hid (xs.length = nl)) (hm32 : m ≤ 32) (hnl : nl ≤ 400) (hK0 : Hid (chk1 row = 0)) (hS : Hid (lsum row = S)) (hn0 : 1 ≤ n0) (hn0S : (n0 : Int) ≤ S) (hS2 : S ≤ 100000) (hr : Hid (InReg xs m)) (hrow : Hid (∀ j, 0 ≤ nth row j ∧ nth row j ≤ 1000)) :
    Calls Try.prog 48 #[.func (.func 51) #[] #[.pointer (some ⟨Bm, 0, none⟩), .pointer (some ⟨Bl, 0, none⟩)]] w fun e W' => ∃ v, e = .returned v ∧ W'.ownsRow w.heap.size 52 2 v nl (cellsC row xs S n0 (upto id nl)) ∧ Below w.heap.size w W' := by
  have hA := callsIn_wide.1 (appendSeqC_in Bm Bl pr q o row xs m cr nl cl n0 pl S w hm hbm hbl hpr hq hcl hp hR hRl hx hxl hm32 hnl hK0 hS hn0 hn0S hS2 hr hrow)
  go_enter Try.func48, Try.ntmps48
  go_wp2_with fail
  refine hA.mono ?_
  rintro e w1 ⟨v, rfl, hv, hb⟩
  clear hA
  go_wp2
  go_ret
  exact ⟨v, rfl, hv, hb⟩

set_option maxRecDepth 100000 in
set_option maxHeartbeats 4000000 in
theorem castsH_any (pr nl cl n0 : Nat) (pl : Option Addr) (w : World) :
    Calls Try.prog 33 #[.agg #[.int .i64 3, .slice (some ⟨pr, 0, none⟩) 1 1, .int .i64 (n0 : Int)], .slice pl nl cl] w fun e W' => e = .returned (.func (.func 51) #[] #[.pointer (some ⟨w.heap.size, 0, none⟩), .pointer (some ⟨w.heap.size + 1, 0, none⟩)]) ∧ ((w.alloc (.cells #[.int .i64 3, .slice (some ⟨pr, 0, none⟩) 1 1, .int .i64 (n0 : Int)] 46)).alloc (.cells #[.slice pl nl cl] 22)) = W' := by
  go_enter Try.func33, Try.ntmps33
  go_wp2
  go_ret
  exact ⟨rfl, rfl⟩

theorem box_mod (w : World) (pr n0 : Nat) : ModB (w.alloc (.cells #[.int .i64 3, .slice (some ⟨pr, 0, none⟩) 1 1, .int .i64 (n0 : Int)] 46)) w.heap.size pr (n0 : Int) := ⟨by go_simp, by go_simp, by go_simp⟩
theorem box_mod2 (w : World) (pr nl cl n0 : Nat) (pl : Option Addr) : ModB ((w.alloc (.cells #[.int .i64 3, .slice (some ⟨pr, 0, none⟩) 1 1, .int .i64 (n0 : Int)] 46)).alloc (.cells #[.slice pl nl cl] 22)) w.heap.size pr (n0 : Int) := ⟨by go_simp, by go_simp, by go_simp⟩
theorem box_list2 (w : World) (pr nl cl n0 : Nat) (pl : Option Addr) : ((w.alloc (.cells #[.int .i64 3, .slice (some ⟨pr, 0, none⟩) 1 1, .int .i64 (n0 : Int)] 46)).alloc (.cells #[.slice pl nl cl] 22)).cell? ⟨w.heap.size + 1, 0, none⟩ = some (.slice pl nl cl) := by go_simp

set_option maxRecDepth 100000 in
set_option maxHeartbeats 4000000 in
theorem chancesH_any (pr q o : Nat) (row xs : List Int) (m cr nl cl n0 : Nat) (pl : Option Addr) (S : Int) (w : World) (hpr : pr < w.heap.size) (hq : q < w.heap.size)
    (hp : w.cell? ⟨pr, 0, none⟩ = some (.slice (some ⟨q, o, none⟩) m cr)) (hR : Reads w (some ⟨q, o, none⟩) row) (hRl : Reads w pl xs)
    (hx : Hid (row.length = m)) (hxl : Hid (xs.length = nl)) (hm32 : m ≤ 32) (hnl : nl ≤ 400) (hK0 : Hid (chk1 row = 0)) (hS : Hid (lsum row = S)) (hn0 : 1 ≤ n0) (hn0S : (n0 : Int) ≤ S) (hS2 : S ≤ 100000) (hr : Hid (InReg xs m)) (hrow : Hid (∀ j, 0 ≤ nth row j ∧ nth row j ≤ 1000)) :
    Calls Try.prog 30 #[.agg #[.int .i64 3, .slice (some ⟨pr, 0, none⟩) 1 1, .int .i64 (n0 : Int)], .slice pl nl cl] w fun e W' => ∃ v, e = .returned v ∧ W'.ownsRow w.heap.size 52 2 v nl (cellsC row xs S n0 (upto id nl)) ∧ Below w.heap.size w W' := by
  have hb0 : Below w.heap.size w (w.alloc (.cells #[.int .i64 3, .slice (some ⟨pr, 0, none⟩) 1 1, .int .i64 (n0 : Int)] 46)) := below1 _ _
  obtain ⟨W0, hW0⟩ : ∃ W0, w.alloc (.cells #[.int .i64 3, .slice (some ⟨pr, 0, none⟩) 1 1, .int .i64 (n0 : Int)] 46) = W0 := ⟨_, rfl⟩
  have hmw : ModB W0 w.heap.size pr (n0 : Int) := by rw [← hW0]; exact box_mod w pr n0
  obtain ⟨m0, m1, m2⟩ := hmw
  have hs0 : W0.heap.size = w.heap.size + 1 := by rw [← hW0]; simp
  rw [hW0] at hb0
  obtain ⟨W1, hW1⟩ : ∃ W1, (W0.alloc (.cells #[.int .i64 3, .slice (some ⟨pr, 0, none⟩) 1 1, .int .i64 (n0 : Int)] 46)).alloc (.cells #[.slice pl nl cl] 22) = W1 := ⟨_, rfl⟩
  have hb1 : Below w.heap.size w W1 := by rw [← hW1]; exact ((hb0.alloc (by omega) _).alloc (by simp; omega) _)
  have hs1 : W1.heap.size = w.heap.size + 3 := by rw [← hW1]; simp; omega
  have hm : ModB W1 (w.heap.size + 1) pr (n0 : Int) := by rw [← hW1, ← hs0]; exact box_mod2 W0 pr nl cl n0 pl
  have hcl : W1.cell? ⟨w.heap.size + 1 + 1, 0, none⟩ = some (.slice pl nl cl) := by rw [← hW1, ← hs0]; exact box_list2 W0 pr nl cl n0 pl
  have hA := collectC_any (w.heap.size + 1) (w.heap.size + 1 + 1) pr q o row xs m cr nl cl n0 pl S W1 hm (by omega) (by omega) (by omega) (by omega) hcl ((hb1.cell (p := ⟨pr, 0, none⟩) hpr).trans hp) (hR.below hb1 (Nat.le_refl _)) (hRl.below hb1 (Nat.le_refl _)) hx hxl hm32 hnl hK0 hS hn0 hn0S hS2 hr hrow
  have hC := castsH_any pr nl cl n0 pl W0
  rw [hW1, hs0] at hC
  have HW0 := Lib.hid hW0
  have HS1 := Lib.hid hs1
  clear hm hcl hW1 hp hR hRl hs0 hs1 hb0
  go_enter Try.func30, Try.ntmps30
  go_wp2_with fail
  refine hC.mono ?_
  rintro e w1 ⟨rfl, rfl⟩
  clear hC m0 m1 m2
  go_wp2_with fail
  refine hA.mono ?_
  rintro e w2 ⟨v, rfl, hv, hb2⟩
  clear hA
  go_wp2
  go_ret
  refine ⟨v, rfl, ⟨hv.1, ?_⟩, hb1.trans (hb2.mono hb1.size)⟩
  rcases hv.2 with h | ⟨g, cap, cur, e1, e2, e3⟩
  · exact .inl h
  · exact .inr ⟨g, cap, cur, e1, by have := hb1.size; omega, e3⟩

theorem cellsC_len (row xs : List Int) (S : Int) (n0 nl : Nat) : (cellsC row xs S n0 (upto id nl)).length = nl * 2 := by
  induction nl with
  | zero => simp [cellsC, upto]
  | succ k ih => rw [upto_succ, cellsC_snoc]; simp [ih]; omega
theorem cellsC_nth (row xs : List Int) (S : Int) (n0 nl k : Nat) (h : k < nl) : (cellsC row xs S n0 (upto id nl))[k * 2]? = some (.int .i64 (c1C row xs S n0 k)) ∧ (cellsC row xs S n0 (upto id nl))[k * 2 + 1]? = some (.int .i64 (c2C row xs S n0 k)) := by
  induction nl with
  | zero => omega
  | succ j ih =>
    have hl := cellsC_len row xs S n0 j
    rw [upto_succ, cellsC_snoc]
    by_cases e : k = j
    · subst e
      rw [List.getElem?_append_right (by omega), List.getElem?_append_right (by omega), hl]
      simp
    · rw [List.getElem?_append_left (by omega), List.getElem?_append_left (by omega)]
      exact ih (by omega)
/-- The chances that a slice owns. -/
def ReadsC (w : World) (p : Option Addr) (row xs : List Int) (S : Int) (n0 nl : Nat) : Prop :=
  ∀ k, k < nl → ∃ g, p = some ⟨g, 0, none⟩ ∧ w.cell? ⟨g, k * 2, none⟩ = some (.int .i64 (c1C row xs S n0 k)) ∧ w.cell? ⟨g, k * 2 + 1, none⟩ = some (.int .i64 (c2C row xs S n0 k))
theorem readsC_of {W : World} {B : Nat} {v : Value} {row xs : List Int} {S : Int} {n0 nl : Nat} (h : W.ownsRow B 52 2 v nl (cellsC row xs S n0 (upto id nl))) : ∃ p c, v = .slice p nl c ∧ ReadsC W p row xs S n0 nl := by
  rcases h.2 with ⟨rfl, h0⟩ | ⟨g, cap, cur, rfl, _, hg, _, _, hsz, ht⟩
  · subst h0
    exact ⟨none, 0, rfl, fun k hk => by omega⟩
  · refine ⟨_, _, rfl, fun k hk => ⟨g, rfl, ?_⟩⟩
    obtain ⟨n1, n2⟩ := cellsC_nth row xs S n0 nl k hk
    rw [← ht, List.getElem?_take, if_pos (by omega)] at n1 n2
    constructor
    · simpa [World.cell?, hg] using n1
    · simpa [World.cell?, hg] using n2
end Go.Proofs.Ytahmhdjoaoldcaa
