/-
  HabitDecks: the chances of all casts of a register, as a list.
-/
import Derived.Test.YtahmhdjoaoldcaaHbZ
namespace Go.Proofs.Ytahmhdjoaoldcaa
open Go Go.RowKit Go.Shelf
set_option linter.unusedVariables false
set_option linter.unusedSimpArgs false

def c1C (row xs : List Int) (S : Int) (n0 k : Nat) : Int := upC row xs n0 k / Int.gcd (upC row xs n0 k) (S - (k % n0 : Nat))
def c2C (row xs : List Int) (S : Int) (n0 k : Nat) : Int := (S - (k % n0 : Nat)) / Int.gcd (upC row xs n0 k) (S - (k % n0 : Nat))
theorem encC_eq (row xs : List Int) (S : Int) (n0 k : Nat) : encC row xs S n0 k = #[.agg #[.int .i64 (c1C row xs S n0 k), .int .i64 (c2C row xs S n0 k)]] := rfl
/-- The cells of the chances of some casts. -/
def cellsC (row xs : List Int) (S : Int) (n0 : Nat) (l : List Nat) : List Value := l.flatMap fun k => [.int .i64 (c1C row xs S n0 k), .int .i64 (c2C row xs S n0 k)]
theorem cellsC_snoc (row xs : List Int) (S : Int) (n0 : Nat) (l : List Nat) (k : Nat) : cellsC row xs S n0 (l ++ [k]) = cellsC row xs S n0 l ++ [.int .i64 (c1C row xs S n0 k), .int .i64 (c2C row xs S n0 k)] := by simp [cellsC]
theorem info_chance : (Try.prog.info? 52).map (fun i => (i.zero, i.size, i.bytes)) = some (some (.agg #[.int .i64 0, .int .i64 0]), 2, 16) := by kernel_rfl
theorem cell_two_new (w : World) (x y : Value) (t : TypeId) : ∀ j u, [x, y][j]? = some u → (w.alloc (.cells #[x, y] t)).cell? ((⟨w.heap.size, 0, none⟩ : Addr).add j) = some u := by
  intro j u h
  rcases j with _ | _ | j
  · simp at h; subst h; simp [Addr.add]
  · simp at h; subst h; simp [Addr.add]
  · simp at h
/-- A block of whole cells. -/
def BlkC (V : World) (B : Nat) (t : TypeId) (cs : Array Value) : Prop := V.heap[B]? = some (.cells cs t (0, 0))
theorem BlkC.lt {V : World} {B : Nat} {t : TypeId} {cs : Array Value} (h : BlkC V B t cs) : B < V.heap.size := (Array.getElem?_eq_some_iff.1 h).1
theorem BlkC.cells2 {V : World} {B : Nat} {t : TypeId} {x y : Value} (h : BlkC V B t #[x, y]) : V.cell? ⟨B, 0, none⟩ = some x ∧ V.cell? ⟨B, 1, none⟩ = some y := by
  constructor <;> simp [World.cell?, show V.heap[B]? = _ from h]
theorem keepsFrom_belowC {B : Nat} {V V' : World} (h : Below V.heap.size V V') : KeepsFrom B V V' := ⟨h.size, fun k o _ hk _ => (h.block k (Array.getElem?_eq_some_iff.1 hk).1).trans hk⟩
theorem grown_of_belowC {w w' : World} (h : Below w.heap.size w w') : w.grownBy w' none := ⟨h.os, h.tape, h.output, h.size, fun k hk _ => h.block k hk⟩

theorem casts_stops (n : Nat) (hn : 1 ≤ n) (Bm Bl pr q o : Nat) (row xs : List Int) (m cr nl cl n0 : Nat) (pl : Option Addr) (S : Int) (w : World) (hm : ModB w Bm pr (n0 : Int)) (hbm : Bm < w.heap.size) (hbl : Bl < w.heap.size) (hpr : pr < w.heap.size) (hq : q < w.heap.size)
    (hcl : w.cell? ⟨Bl, 0, none⟩ = some (.slice pl nl cl)) (hp : w.cell? ⟨pr, 0, none⟩ = some (.slice (some ⟨q, o, none⟩) m cr)) (hR : Reads w (some ⟨q, o, none⟩) row) (hRl : Reads w pl xs)
    (hx : Hid (row.length = m)) (hxl : Hid (xs.length = nl)) (hm32 : m ≤ 32) (hnl : nl ≤ 400) (hK0 : Hid (chk1 row = 0)) (hS : Hid (lsum row = S)) (hn0 : 1 ≤ n0) (hn0S : (n0 : Int) ≤ S) (hS2 : S ≤ 100000) (hr : Hid (InReg xs m)) (hrow : Hid (∀ j, 0 ≤ nth row j ∧ nth row j ≤ 1000)) :
    SeqStopsK Fence.wide n Try.prog 51 #[.pointer (some ⟨Bm, 0, none⟩), .pointer (some ⟨Bl, 0, none⟩)] (encC row xs S n0) (Below w.heap.size) (fun ys => ys = upto id nl) (fun _ => True) nl w := fun l J Jx W hW hJ _ hY h0 =>
  casts1_in n hn l Bm Bl pr q o row xs m cr nl cl n0 pl S w hm hbm hbl hpr hq hcl hp hR hRl hx hxl hm32 hnl hK0 hS hn0 hn0S hS2 hr hrow J Jx hY W hW hJ h0

attribute [local go_sem] Oper.semAt_some

set_option maxRecDepth 100000 in
set_option maxHeartbeats 4000000 in
theorem appendSeqC_in (Bm Bl pr q o : Nat) (row xs : List Int) (m cr nl cl n0 : Nat) (pl : Option Addr) (S : Int) (w : World) (hm : ModB w Bm pr (n0 : Int)) (hbm : Bm < w.heap.size) (hbl : Bl < w.heap.size) (hpr : pr < w.heap.size) (hq : q < w.heap.size)
    (hcl : w.cell? ⟨Bl, 0, none⟩ = some (.slice pl nl cl)) (hp : w.cell? ⟨pr, 0, none⟩ = some (.slice (some ⟨q, o, none⟩) m cr)) (hR : Reads w (some ⟨q, o, none⟩) row) (hRl : Reads w pl xs)
    (hx : Hid (row.length = m)) (hxl : Hid (xs.length = nl)) (hm32 : m ≤ 32) (hnl : nl ≤ 400) (hK0 : Hid (chk1 row = 0)) (hS : Hid (lsum row = S)) (hn0 : 1 ≤ n0) (hn0S : (n0 : Int) ≤ S) (hS2 : S ≤ 100000) (hr : Hid (InReg xs m)) (hrow : Hid (∀ j, 0 ≤ nth row j ∧ nth row j ≤ 1000)) :
    CallsIn Fence.wide 4 Try.prog 63 #[.slice none 0 0, .func (.func 51) #[] #[.pointer (some ⟨Bm, 0, none⟩), .pointer (some ⟨Bl, 0, none⟩)]] w fun e W' => ∃ v, e = .returned v ∧ W'.ownsRow w.heap.size 52 2 v nl (cellsC row xs S n0 (upto id nl)) ∧ Below w.heap.size w W' := by
  obtain ⟨i0, hi, hz0, hz1, hz2⟩ := info_parts info_chance
  have hB0 : Below w.heap.size w (w.alloc (.cells #[.slice none 0 0] 66)) := below1 _ _
  have hSeq := casts_stops (4 - 1) (by omega) Bm Bl pr q o row xs m cr nl cl n0 pl S w hm hbm hbl hpr hq hcl hp hR hRl hx hxl hm32 hnl hK0 hS hn0 hn0S hS2 hr hrow
  refine callsIn_of_wp_marks Try.func63 rfl trivial ?_ rfl
  simp only [Try.ntmps63, List.size_toArray, List.length_cons, List.length_nil, Nat.reduceAdd, Nat.reduceSub, Array.replicate_succ, Array.replicate_zero, List.push_toArray, List.append_toArray, List.nil_append, List.cons_append]
  clear hcl hR hp hRl hm
  gi_wp2
  have bG := Boxed.new w 66 (.slice none 0 0)
  refine wpIn_rangeFunc_ownH (F := Fence.wide) rfl (by omega) (gf := 51) (lb := #[.pointer (some ⟨Bm, 0, none⟩), .pointer (some ⟨Bl, 0, none⟩)]) rfl trivial (enters_of Try.func51 (by kernel_rfl) rfl)
    hSeq belowK_t (belowK_b (by simp)) hB0 (fun _ => rfl)
    (fun pre W => (∃ v, Boxed W w.heap.size 66 v ∧ W.ownsRow w.heap.size 52 2 v pre.length (cellsC row xs S n0 pre) ∧ True) ∧ Below w.heap.size w W)
    (fun _ _ _ => False)
    (OwnFrom.and (Own.from (fun s A B row' hs hg hr => holdsRow_own w.heap.size w.heap.size 66 52 2 (fun pre : List Nat => pre.length) (fun pre => cellsC row xs S n0 pre) (fun _ _ => True) s A B row' hs hg hr) _) (ownFrom_below (Nat.le_refl _) (by simp)))
    (fun _ _ _ _ _ hs _ _ => hs)
    ⟨⟨_, bG, World.ownsRow_nil _ _ _ _, trivial⟩, hB0⟩
    (fun x a' V => ∃ Bx, BlkC V Bx 52 #[.int .i64 (c1C row xs S n0 x), .int .i64 (c2C row xs S n0 x)] ∧ a' = { tmps := #[.slice none 0 0, .func (.func 51) #[] #[.pointer (some ⟨Bm, 0, none⟩), .pointer (some ⟨Bl, 0, none⟩)], .pointer (some ⟨w.heap.size, 0, none⟩), undef, .slice none 0 0, .pointer (some ⟨Bx, 0, none⟩), .func (.func 51) #[] #[.pointer (some ⟨Bm, 0, none⟩), .pointer (some ⟨Bl, 0, none⟩)], .agg #[.int .i64 (c1C row xs S n0 x), .int .i64 (c2C row xs S n0 x)], undef, undef, undef, undef, undef], defers := [] })
    (fun x a' s A B row' h hg hr => by
      obtain ⟨Bx, h1, h2⟩ := h
      refine ⟨Bx, ?_, h2⟩
      exact (hg.block Bx h1.lt (fun e => by
        obtain ⟨_, o, ho, hc⟩ := hr Bx e.symm
        rw [show A.heap[Bx]? = _ from h1] at ho
        cases ho
        cases hc)).trans h1) ?assign ?body ?done ?stop
  case assign =>
    rintro l pre x V K ⟨⟨v, hv, hr1, -⟩, hB⟩ hK
    rw [encC_eq]
    have hn2 := heap_alloc_new V (.cells #[.int .i64 (c1C row xs S n0 x), .int .i64 (c2C row xs S n0 x)] 52)
    have hbv := below1 V (.cells #[.int .i64 (c1C row xs S n0 x), .int .i64 (c2C row xs S n0 x)] 52)
    have hva := hv.alloc (.cells #[.int .i64 (c1C row xs S n0 x), .int .i64 (c2C row xs S n0 x)] 52)
    have hra := hr1.alloc (.cells #[.int .i64 (c1C row xs S n0 x), .int .i64 (c2C row xs S n0 x)] 52)
    have HN := Lib.hid hn2
    have HV := Lib.hid hva
    have HRA := Lib.hid hra
    clear hn2 hva hra
    gi_wp2
    exact hK _ _ (keepsFrom_belowC hbv) (hbv.mono hB.size) ⟨⟨v, HV.out, HRA.out, trivial⟩, hB.trans (hbv.mono hB.size)⟩ ⟨V.heap.size, HN.out, rfl⟩
  case body =>
    rintro l pre x a' W2 hl2 hrec ⟨⟨v, hv2, hr2, -⟩, hB2⟩ ⟨Bx, hBx, rfl⟩ hlen2
    obtain ⟨k1, k2⟩ := hBx.cells2
    have hcv := hv2.cell
    have hcf := hv2.frozen
    have hsz := hB2.size
    gi_wp2_with (gi_at_builtin; refine wpListIn_append_own _ rfl _ _ 66 rfl w.heap.size 52 i0 (.agg #[.int .i64 0, .int .i64 0]) 2 16 Try.underlying66 hi hz0 hz1 hz2 rfl (by decide) _ _ _ rfl (hr2.alloc _) ⟨W2.heap.size, 0, none⟩ 1 1 [.int .i64 (c1C row xs S n0 x), .int .i64 (c2C row xs S n0 x)] rfl rfl (cell_two_new _ _ _ _) (by simp [Value.oneCell']) (by unfold maxLen; omega) (by omega) (by simp; omega) ?_; intro v' w1 hown' hgrow _; obtain ⟨g', cap', rfl⟩ := ownsRow_succ hown'; obtain ⟨hv1, hv3, hr3, hk3, hb3⟩ := hv2.appended (by decide) hr2 hsz (by omega) hown' hgrow; have hc1 := hv1.cell; have hf1 := hv1.frozen)
    exact ⟨hk3.from _, hb3, ⟨_, hv3, by rw [cellsC_snoc, List.length_append]; exact hr3, trivial⟩, hB2.trans hb3⟩
  case done =>
    rintro D ys W hD rfl ⟨⟨v, hv, hrow', -⟩, hB⟩ hK
    rw [upto_length] at hrow'
    have hcv := hv.cell
    gi_wp2
    refine ⟨by simp, .inl ⟨_, _, rfl, run_takeDeferred hK, ?_⟩⟩
    exact ⟨_, results_tmp rfl _ _ _, v, rfl, ownsRow_putObj hrow' _ hK rfl, hB.trans (belowK_b (w := w) (Nat.le_refl _) W D _ _ (by simp at hD; omega) hK rfl rfl)⟩
  case stop =>
    rintro D c pre W _ _ h _
    exact h.elim
end Go.Proofs.Ytahmhdjoaoldcaa
