/-
  What product, multiple, fraction, lowest and only of package odds do. Conditions: numbers that are not negative, and what is divided by is above 0.
-/
import Derived.Test.YtahmhdjoaoldcaaB
import Derived.StillTailTactics
namespace Go.Proofs.Ytahmhdjoaoldcaa
open Go.RowKit

/-- Greater than 10^15. -/
def over (a b : Int) : Bool := decide (1000000000000000 / b < a)

theorem le_div {a b m : Int} (hb : 1 ≤ b) : a ≤ m / b ↔ a * b ≤ m := Int.le_ediv_iff_mul_le (by omega)

set_option maxHeartbeats 400000 in
theorem product_ok (a b : Int) (w : World) (ha : 0 ≤ a) (hb : 1 ≤ b) (h : a ≤ 1000000000000000 / b) :
    Calls Try.prog 55 #[.int .i64 a, .int .i64 b, .int .i64 10] w fun e w' => e = .returned (.tuple #[.int .i64 (a * b), .int .i64 0]) ∧ w = w' := by
  have h1 := (le_div hb).1 h
  have h2 : 0 ≤ a * b := Int.mul_nonneg ha (by omega)
  go_enter Try.func55, Try.ntmps55
  go_wp2
  go_ret2
  exact ⟨rfl, rfl⟩

set_option maxHeartbeats 400000 in
theorem product_over (a b : Int) (w : World) (_ha : 0 ≤ a) (hb : 1 ≤ b) (h : ¬ a ≤ 1000000000000000 / b) :
    Calls Try.prog 55 #[.int .i64 a, .int .i64 b, .int .i64 10] w fun e w' => e = .returned (.tuple #[.int .i64 0, .int .i64 10]) ∧ w = w' := by
  have h1 : 1000000000000000 / b < a := by omega
  go_enter Try.func55, Try.ntmps55
  go_wp2
  go_ret2
  exact ⟨rfl, rfl⟩

/-- divisor of two numbers that are written out. -/
theorem divisor2 (a b : Int) (q : Nat) (w : World) (ha : 0 ≤ a) (hb : 0 ≤ b) (h0 : w.cell? ⟨q, 0, none⟩ = some (.int .i64 a)) (h1 : w.cell? ⟨q, 1, none⟩ = some (.int .i64 b)) :
    Calls Try.prog 70 #[.slice (some ⟨q, 0, none⟩) 2 2] w fun e w' => e = .returned (.int .i64 (Int.gcd a b)) ∧ Below w.heap.size w w' :=
  (divisor_any (some ⟨q, 0, none⟩) [a, b] 2 w (by simp) (fun k hk => by
      rcases k with _ | _ | k
      · simpa [nth] using ha
      · simpa [nth] using hb
      · simp at hk; omega) (fun k hk => ⟨q, 0, rfl, by
      rcases k with _ | _ | k
      · simpa [nth] using h0
      · simpa [nth] using h1
      · simp at hk; omega⟩)).mono fun e w' ⟨he, hb⟩ => ⟨by rw [he]; simp [gcdl, Int.gcd], hb⟩

theorem wdiv {a g : Int} (ha : 0 ≤ a) (h2 : a ≤ 10000000000000000) (hg : 1 ≤ g) : IntKind.i64.wrap (a.tdiv g) = a / g := by
  rw [Int.tdiv_eq_ediv_of_nonneg ha]
  have h1 : 0 ≤ a / g := Int.ediv_nonneg ha (by omega)
  have h3 : a / g ≤ a := Int.ediv_le_self _ ha
  exact IntWalk.i64_in _ (by omega)

theorem gcd_pos {a b : Int} (hb : 1 ≤ b) : 1 ≤ (Int.gcd a b : Int) := by
  have : 0 < Int.gcd a b := Int.gcd_pos_of_ne_zero_right _ (by omega)
  omega

set_option maxRecDepth 100000 in
set_option maxHeartbeats 1000000 in
theorem fraction_any (a b : Int) (w : World) (ha : 0 ≤ a) (hb : 1 ≤ b) (_ha2 : a ≤ 10000000000000000) (_hb2 : b ≤ 10000000000000000) :
    Calls Try.prog 54 #[.int .i64 a, .int .i64 b] w fun e w' => e = .returned (.agg #[.int .i64 (a / Int.gcd a b), .int .i64 (b / Int.gcd a b)]) ∧ Below w.heap.size w w' := by
  have hg := gcd_pos (a := a) hb
  go_enter Try.func54, Try.ntmps54
  go_wp2_with fail
  go_call (divisor2 a b _ _ ha (by omega) (by go_simp) (by go_simp)) as e w1 ⟨rfl, hb1⟩
  obtain ⟨g, hgg⟩ : ∃ g : Int, g = Int.gcd a b := ⟨_, rfl⟩
  rw [← hgg] at hg ⊢
  have Hg := Lib.hid hgg
  clear hgg
  have hz : ¬ g = 0 := by omega
  have e1 : IntKind.i64.wrap (a.tdiv g) = a / g := wdiv ha _ha2 hg
  have e2 : IntKind.i64.wrap (b.tdiv g) = b / g := wdiv (by omega) _hb2 hg
  have hf0 : w1.frozen? ⟨w.heap.size, 0, none⟩ = false := (hb1.frozen (p := ⟨w.heap.size, 0, none⟩) (by simp; omega)).trans (by go_simp)
  have hf1 : w1.frozen? ⟨w.heap.size, 1, none⟩ = false := (hb1.frozen (p := ⟨w.heap.size, 1, none⟩) (by simp; omega)).trans (by go_simp)
  have hc0 : w1.cell? ⟨w.heap.size, 0, none⟩ = some (.int .i64 0) := (hb1.cell (p := ⟨w.heap.size, 0, none⟩) (by simp; omega)).trans (by go_simp)
  have hc1 : w1.cell? ⟨w.heap.size, 1, none⟩ = some (.int .i64 0) := (hb1.cell (p := ⟨w.heap.size, 1, none⟩) (by simp; omega)).trans (by go_simp)
  go_wp2
  go_still_tail 7, (by kernel_rfl)
  go_wp2
  have h0 : (w1.setCell ⟨w.heap.size, 0, none⟩ (.int .i64 (a / g))).cell? ⟨w.heap.size, 0, none⟩ = some (.int .i64 (a / g)) := World.cell?_setCell_same' _ _ _ (by rw [hc0]; rfl)
  have h1 : ((w1.setCell ⟨w.heap.size, 0, none⟩ (.int .i64 (a / g))).setCell ⟨w.heap.size, 1, none⟩ (.int .i64 (b / g))).cell? ⟨w.heap.size, 1, none⟩ = some (.int .i64 (b / g)) := World.cell?_setCell_same' _ _ _ (by go_simp)
  refine bodyPost_ret (v := .agg #[.int .i64 (a / g), .int .i64 (b / g)]) (by simp [results, Try.results54, go_sem, h0, h1]) rfl ⟨by rw [Hg.out], ?_⟩
  exact ((((((Below.refl _ w).alloc (Nat.le_refl _) _).alloc (by simp) _).trans (hb1.mono (by simp; omega))).setCell (Nat.le_refl _) _).setCell (Nat.le_refl _) _).drew

end Go.Proofs.Ytahmhdjoaoldcaa
