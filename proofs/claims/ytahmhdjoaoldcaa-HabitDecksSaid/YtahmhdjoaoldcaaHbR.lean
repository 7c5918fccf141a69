/-
  HabitDecks: odds' Check and Total at a row; a model of a deck: outcomes, total, fraction.
-/
import Derived.Test.YtahmhdjoaoldcaaC
import Derived.Test.YtahmhdjoaoldcaaHbO
import Derived.Test.YtahmhdjoaoldcaaHbM
namespace Go.Proofs.Ytahmhdjoaoldcaa
open Go Go.RowKit
set_option linter.unusedVariables false
set_option linter.unusedSimpArgs false

theorem nthL_zero (x : List Int) (r : List (List Int)) : nthL (x :: r) 0 = x := rfl
theorem check1 (p : Option Addr) (xs : List Int) (c q : Nat) (w : World) (hx : xs.length ≤ 9223372036854775807) (h0 : w.cell? ⟨q, 0, none⟩ = some (.slice p xs.length c)) (hR : Reads w p xs) :
    Calls Try.prog 81 #[.slice (some ⟨q, 0, none⟩) 1 1] w fun e w' => e = .returned (.int .i64 (chk1 xs)) ∧ Below w.heap.size w w' :=
  (check_any (some ⟨q, 0, none⟩) [xs] 1 w (by simp) (fun k hk => by
      obtain rfl : k = 0 := by simp at hk; omega
      exact hx) (fun k hk => by
      obtain rfl : k = 0 := by simp at hk; omega
      exact ⟨q, 0, rfl, p, c, h0, hR⟩)).mono fun e w' ⟨he, hb⟩ => ⟨by rw [he]; unfold chkL; split <;> simp_all [chkL], hb⟩

theorem check0 (p : Option Addr) (xs : List Int) (c : Nat) (w : World) (hl : xs.length ≤ 1000000000000000) (hR : Reads w p xs) :
    Calls Try.prog 81 #[.slice (some ⟨w.heap.size, 0, none⟩) 1 1] (w.alloc (.cells #[.slice p xs.length c] 22)) fun e w' => e = .returned (.int .i64 (chk1 xs)) ∧ Below w.heap.size w w' :=
  (check1 p xs c w.heap.size (w.alloc (.cells #[.slice p xs.length c] 22)) (by omega) (by go_simp) (hR.below (below1 _ _) (Nat.le_refl _))).mono fun e w' h => ⟨h.1, (below1 _ _).trans (h.2.mono (by simp))⟩

theorem oCheck_any (p : Option Addr) (xs : List Int) (c : Nat) (w : World) (hl : xs.length ≤ 1000000000000000) (hR : Reads w p xs) :
    Calls Try.prog 73 #[.slice p xs.length c] w fun e w' => e = .returned (.int .i64 (chk1 xs)) ∧ Below w.heap.size w w' := by
  have hck := check0 p xs c w hl hR
  go_enter Try.func73, Try.ntmps73
  go_wp2_with fail
  go_call hck as e w1 ⟨rfl, hb1⟩
  go_wp2
  go_returns
  exact ⟨rfl, hb1⟩

/-- What Total returns. -/
def sTotal (xs : List Int) : Int × Int := if chk1 xs = 0 then (lsum xs, 0) else (0, chk1 xs)
theorem oTotal_any (p : Option Addr) (xs : List Int) (c : Nat) (w : World) (hl : xs.length ≤ 1000000000000000) (hR : Reads w p xs) :
    Calls Try.prog 75 #[.slice p xs.length c] w fun e w' => e = .returned (.tuple #[.int .i64 (sTotal xs).1, .int .i64 (sTotal xs).2]) ∧ Below w.heap.size w w' := by
  have hck := check0 p xs c w hl hR
  by_cases h0 : chk1 xs = 0
  · obtain ⟨a1, a2, a3, a4⟩ := chk1_ok h0
    have Hs : Hid (sTotal xs = (lsum xs, 0)) := by show _ = _; unfold sTotal; rw [if_pos h0]
    have He := Lib.hid h0
    clear h0
    go_enter Try.func75, Try.ntmps75
    go_wp2_with fail
    go_call hck as e w1 ⟨rfl, hb1⟩
    rw [He.out]
    go_wp2_with fail
    go_call (total_any p xs c w1 a1 a2 (hR.below hb1 (Nat.le_refl _))) as e w2 ⟨rfl, hb2⟩
    go_wp2
    go_ret2
    exact ⟨by rw [Hs.out]; rfl, tr hb1 hb2⟩
  · obtain ⟨x, hx⟩ : ∃ x, chk1 xs = x := ⟨_, rfl⟩
    have Hs : Hid (sTotal xs = (0, x)) := by show _ = _; unfold sTotal; rw [if_neg h0, hx]
    rw [hx] at h0
    have hb' : (x != 0) = true := by simpa using h0
    have Hx := Lib.hid hx
    clear hx h0
    go_enter Try.func75, Try.ntmps75
    go_wp2_with fail
    go_call hck as e w1 ⟨rfl, hb1⟩
    rw [Hx.out]
    go_wp2
    go_ret2
    exact ⟨by rw [Hs.out]; rfl, hb1⟩

set_option maxRecDepth 100000 in
set_option maxHeartbeats 1000000 in
theorem fractionH_any (a b : Int) (w : World) (ha : 0 ≤ a) (hb : 1 ≤ b) (_ha2 : a ≤ 10000000000000000) (_hb2 : b ≤ 10000000000000000) :
    Calls Try.prog 57 #[.int .i64 a, .int .i64 b] w fun e w' => e = .returned (.agg #[.int .i64 (a / Int.gcd a b), .int .i64 (b / Int.gcd a b)]) ∧ Below w.heap.size w w' := by
  have hg := gcd_pos (a := a) hb
  go_enter Try.func57, Try.ntmps57
  go_wp2_with fail
  go_call (divisor2 a b _ _ ha (by omega) (by go_simp) (by go_simp)) as e w1 ⟨rfl, hb1⟩
  obtain ⟨g, hgg⟩ : ∃ g : Int, g = Int.gcd a b := ⟨_, rfl⟩
  rw [← hgg] at hg ⊢
  have Hg := Lib.hid hgg
  clear hgg
  have hz : ¬ g = 0 := by omega
  have e1 : IntKind.i64.wrap (a.tdiv g) = a / g := wdiv ha _ha2 hg
  have e2 : IntKind.i64.wrap (b.tdiv g) = b / g := wdiv (by omega) _hb2 hg
  have hf0 : w1.frozen? ⟨w.heap.size, 0, none⟩ = false := (hb1.frozen (p := ⟨w.heap.size, 0, none⟩) (by simp; omega)).trans (by go_simp)
  have hf1 : w1.frozen? ⟨w.heap.size, 1, none⟩ = false := (hb1.frozen (p := ⟨w.heap.size, 1, none⟩) (by simp; omega)).trans (by go_simp)
  have hc0 : w1.cell? ⟨w.heap.size, 0, none⟩ = some (.int .i64 0) := (hb1.cell (p := ⟨w.heap.size, 0, none⟩) (by simp; omega)).trans (by go_simp)
  have hc1 : w1.cell? ⟨w.heap.size, 1, none⟩ = some (.int .i64 0) := (hb1.cell (p := ⟨w.heap.size, 1, none⟩) (by simp; omega)).trans (by go_simp)
  go_wp2
  go_still_tail 7, (by kernel_rfl)
  go_wp2
  have h0 : (w1.setCell ⟨w.heap.size, 0, none⟩ (.int .i64 (a / g))).cell? ⟨w.heap.size, 0, none⟩ = some (.int .i64 (a / g)) := World.cell?_setCell_same' _ _ _ (by rw [hc0]; rfl)
  have h1 : ((w1.setCell ⟨w.heap.size, 0, none⟩ (.int .i64 (a / g))).setCell ⟨w.heap.size, 1, none⟩ (.int .i64 (b / g))).cell? ⟨w.heap.size, 1, none⟩ = some (.int .i64 (b / g)) := World.cell?_setCell_same' _ _ _ (by go_simp)
  refine bodyPost_ret (v := .agg #[.int .i64 (a / g), .int .i64 (b / g)]) (by simp [results, Try.results57, go_sem, h0, h1]) rfl ⟨by rw [Hg.out], ?_⟩
  exact ((((((Below.refl _ w).alloc (Nat.le_refl _) _).alloc (by simp) _).trans (hb1.mono (by simp; omega))).setCell (Nat.le_refl _) _).setCell (Nat.le_refl _) _).drew

theorem totalH_any (p : Option Addr) (xs : List Int) (n c : Nat) (hx : Hid (xs.length = n)) (hn : n ≤ 1000000) (h0 : chk1 xs = 0) (w : World) (hR : Reads w p xs) :
    Calls Try.prog 61 #[.slice p n c] w fun e w' => e = .returned (.int .i64 (lsum xs)) ∧ Below w.heap.size w w' := by
  have hT := oTotal_any p xs c w (by rw [hx.out]; omega) hR
  rw [hx.out] at hT
  have hs : sTotal xs = (lsum xs, 0) := by unfold sTotal; rw [if_pos h0]
  rw [hs] at hT
  clear hs h0
  go_enter Try.func61, Try.ntmps61
  go_wp2_with fail
  go_call hT as e w1 ⟨rfl, hb1⟩
  go_wp2
  go_returns
  exact ⟨rfl, hb1⟩

/-- A model of a deck, by the block of its rows and the number of cards that lie aside when it is put together. -/
def DeckM (pr : Nat) (A : Int) : Value := .agg #[.int .i64 3, .slice (some ⟨pr, 0, none⟩) 1 1, .int .i64 A]
theorem outcomesH_any (pr : Nat) (A : Int) (p : Option Addr) (n c : Nat) (w : World) (hlt : pr < w.heap.size) (h0 : w.cell? ⟨pr, 0, none⟩ = some (.slice p n c)) :
    Calls Try.prog 46 #[.agg #[.int .i64 3, .slice (some ⟨pr, 0, none⟩) 1 1, .int .i64 A]] w fun e w' => e = .returned (.int .i64 (n : Int)) ∧ Below w.heap.size w w' := by
  go_enter Try.func46, Try.ntmps46
  have hc : (w.alloc (.cells #[.int .i64 3, .slice (some ⟨pr, 0, none⟩) 1 1, .int .i64 A] 46)).cell? ⟨pr, 0, none⟩ = some (.slice p n c) := ((below1 _ _).cell (p := ⟨pr, 0, none⟩) hlt).trans h0
  go_wp2
  go_returns
  exact ⟨rfl, below1 _ _⟩
end Go.Proofs.Ytahmhdjoaoldcaa
