/-
  What product, multiple, fraction, lowest and only of package odds do. Conditions: numbers that are not negative, and what is divided by is above 0.
-/
import Derived.Test.YtnpnnfbmnlgioaaB
import Derived.StillTailTactics
namespace Go.Proofs.Ytnpnnfbmnlgioaa
open Go.RowKit

/-- Greater than 10^15. -/
def over (a b : Int) : Bool := decide (1000000000000000 / b < a)

theorem le_div {a b m : Int} (hb : 1 ≤ b) : a ≤ m / b ↔ a * b ≤ m := Int.le_ediv_iff_mul_le (by omega)

set_option maxHeartbeats 400000 in
theorem product_ok (a b : Int) (w : World) (ha : 0 ≤ a) (hb : 1 ≤ b) (h : a ≤ 1000000000000000 / b) :
    Calls Try.prog 26 #[.int .i64 a, .int .i64 b, .int .i64 10] w fun e w' => e = .returned (.tuple #[.int .i64 (a * b), .int .i64 0]) ∧ w = w' := by
  have h1 := (le_div hb).1 h
  have h2 : 0 ≤ a * b := Int.mul_nonneg ha (by omega)
  go_enter Try.func26, Try.ntmps26
  go_wp2
  go_ret2
  exact ⟨rfl, rfl⟩

set_option maxHeartbeats 400000 in
theorem product_over (a b : Int) (w : World) (_ha : 0 ≤ a) (hb : 1 ≤ b) (h : ¬ a ≤ 1000000000000000 / b) :
    Calls Try.prog 26 #[.int .i64 a, .int .i64 b, .int .i64 10] w fun e w' => e = .returned (.tuple #[.int .i64 0, .int .i64 10]) ∧ w = w' := by
  have h1 : 1000000000000000 / b < a := by omega
  go_enter Try.func26, Try.ntmps26
  go_wp2
  go_ret2
  exact ⟨rfl, rfl⟩

/-- divisor of two numbers that are written out. -/
theorem divisor2 (a b : Int) (q : Nat) (w : World) (ha : 0 ≤ a) (hb : 0 ≤ b) (h0 : w.cell? ⟨q, 0, none⟩ = some (.int .i64 a)) (h1 : w.cell? ⟨q, 1, none⟩ = some (.int .i64 b)) :
    Calls Try.prog 27 #[.slice (some ⟨q, 0, none⟩) 2 2] w fun e w' => e = .returned (.int .i64 (Int.gcd a b)) ∧ Below w.heap.size w w' :=
  (divisor_any (some ⟨q, 0, none⟩) [a, b] 2 w (by simp) (fun k hk => by
      rcases k with _ | _ | k
      · simpa [nth] using ha
      · simpa [nth] using hb
      · simp at hk; omega) (fun k hk => ⟨q, 0, rfl, by
      rcases k with _ | _ | k
      · simpa [nth] using h0
      · simpa [nth] using h1
      · simp at hk; omega⟩)).mono fun e w' ⟨he, hb⟩ => ⟨by rw [he]; simp [gcdl, Int.gcd], hb⟩

theorem wdiv {a g : Int} (ha : 0 ≤ a) (h2 : a ≤ 10000000000000000) (hg : 1 ≤ g) : IntKind.i64.wrap (a.tdiv g) = a / g := by
  rw [Int.tdiv_eq_ediv_of_nonneg ha]
  have h1 : 0 ≤ a / g := Int.ediv_nonneg ha (by omega)
  have h3 : a / g ≤ a := Int.ediv_le_self _ ha
  exact IntWalk.i64_in _ (by omega)

theorem gcd_pos {a b : Int} (hb : 1 ≤ b) : 1 ≤ (Int.gcd a b : Int) := by
  have : 0 < Int.gcd a b := Int.gcd_pos_of_ne_zero_right _ (by omega)
  omega

set_option maxRecDepth 100000 in
set_option maxHeartbeats 1000000 in
theorem fraction_any (a b : Int) (w : World) (ha : 0 ≤ a) (hb : 1 ≤ b) (_ha2 : a ≤ 10000000000000000) (_hb2 : b ≤ 10000000000000000) :
    Calls Try.prog 25 #[.int .i64 a, .int .i64 b] w fun e w' => e = .returned (.agg #[.int .i64 (a / Int.gcd a b), .int .i64 (b / Int.gcd a b)]) ∧ Below w.heap.size w w' := by
  have hg := gcd_pos (a := a) hb
  go_enter Try.func25, Try.ntmps25
  go_wp2_with fail
  go_call (divisor2 a b _ _ ha (by omega) (by go_simp) (by go_simp)) as e w1 ⟨rfl, hb1⟩
  obtain ⟨g, hgg⟩ : ∃ g : Int, g = Int.gcd a b := ⟨_, rfl⟩
  rw [← hgg] at hg ⊢
  have Hg := Lib.hid hgg
  clear hgg
  have hz : ¬ g = 0 := by omega
  have e1 : IntKind.i64.wrap (a.tdiv g) = a / g := wdiv ha _ha2 hg
  have e2 : IntKind.i64.wrap (b.tdiv g) = b / g := wdiv (by omega) _hb2 hg
  have hf0 : w1.frozen? ⟨w.heap.size, 0, none⟩ = false := (hb1.frozen (p := ⟨w.heap.size, 0, none⟩) (by simp; omega)).trans (by go_simp)
  have hf1 : w1.frozen? ⟨w.heap.size, 1, none⟩ = false := (hb1.frozen (p := ⟨w.heap.size, 1, none⟩) (by simp; omega)).trans (by go_simp)
  have hc0 : w1.cell? ⟨w.heap.size, 0, none⟩ = some (.int .i64 0) := (hb1.cell (p := ⟨w.heap.size, 0, none⟩) (by simp; omega)).trans (by go_simp)
  have hc1 : w1.cell? ⟨w.heap.size, 1, none⟩ = some (.int .i64 0) := (hb1.cell (p := ⟨w.heap.size, 1, none⟩) (by simp; omega)).trans (by go_simp)
  go_wp2
  go_still_tail 7, (by kernel_rfl)
  go_wp2
  have h0 : (w1.setCell ⟨w.heap.size, 0, none⟩ (.int .i64 (a / g))).cell? ⟨w.heap.size, 0, none⟩ = some (.int .i64 (a / g)) := World.cell?_setCell_same' _ _ _ (by rw [hc0]; rfl)
  have h1 : ((w1.setCell ⟨w.heap.size, 0, none⟩ (.int .i64 (a / g))).setCell ⟨w.heap.size, 1, none⟩ (.int .i64 (b / g))).cell? ⟨w.heap.size, 1, none⟩ = some (.int .i64 (b / g)) := World.cell?_setCell_same' _ _ _ (by go_simp)
  refine bodyPost_ret (v := .agg #[.int .i64 (a / g), .int .i64 (b / g)]) (by simp [results, Try.results25, go_sem, h0, h1]) rfl ⟨by rw [Hg.out], ?_⟩
  exact ((((((Below.refl _ w).alloc (Nat.le_refl _) _).alloc (by simp) _).trans (hb1.mono (by simp; omega))).setCell (Nat.le_refl _) _).setCell (Nat.le_refl _) _).drew

set_option maxHeartbeats 1000000 in
theorem lowest_any (p : Option Addr) (xs : List Int) (c : Nat) (w : World) (hl : xs.length ≤ 4096) (hs : Small xs) (hg : 1 ≤ gcdl xs) (hR : Reads w p xs) :
    Calls Try.prog 41 #[.slice p xs.length c] w fun e w' => ∃ g, e = .returned (.slice (some ⟨g, 0, none⟩) xs.length xs.length) ∧ Row w' w.heap.size g xs.length (xs.map (· / gcdl xs)) ∧ Below w.heap.size w w' := by
  obtain ⟨i0, hi, hz0, hz1, hz2⟩ := info_parts (show (Try.prog.info? 3).map (fun i => (i.zero, i.size, i.bytes)) = some (some (.int .i64 0), 1, 8) by kernel_rfl)
  go_enter Try.func41, Try.ntmps41
  go_wp2_with fail
  go_call (divisor_any p xs c w (by omega) (fun k hk => (hs k hk).1) hR) as e w1 ⟨rfl, hb1⟩
  have Hd : ∃ d, d = gcdl xs := ⟨_, rfl⟩
  obtain ⟨d, hd⟩ := Hd
  rw [← hd] at hg ⊢
  have Hd := Lib.hid hd
  clear hd
  go_wp2_with (at_make; refine wpList_make_full _ rfl _ _ 34 rfl w.heap.size 3 i0 (.int .i64 0) 1 Try.underlying34 hi hz0 hz1 .i64 .i64 _ _ xs.length rfl rfl rfl rfl ?c1 ?c2 ?c3 ?_)
  case c1 => rw [hz2]; omega
  case c2 => unfold maxLen; omega
  case c3 => exact hb1.size
  intro w2 hown hgr
  have hrow := Row.made hown
  have hb2 : Below w.heap.size w w2 := hb1.grown hgr hb1.size (fun k e => by cases e)
  clear hown hgr
  go_wp2
  have hR2 := hR.below hb2 (Nat.le_refl _)
  go_loopw [14] (fun i wr => ∃ k : Nat, k ≤ xs.length ∧ i = .int .i64 k ∧ Row wr w.heap.size w1.heap.size xs.length (fillTo (fun j => nth xs j / d) xs.length k) ∧ Below w.heap.size w wr) (fun i _ => xs.length - (intOf i).toNat)
  case atStart => exact ⟨0, Nat.zero_le _, rfl, by rw [fillTo_zero]; exact hrow, hb2⟩
  case round =>
    obtain ⟨k, hk, rfl, hrw, hb⟩ := hrel
    by_cases hlt : k < xs.length
    · obtain ⟨q, o, rfl, hcell⟩ := hR.below hb (Nat.le_refl _) k hlt
      have hx := hs k hlt
      have hc2 := hrw.cell hlt
      have hf2 := hrw.frozen k
      go_wp2
      go_roundw
      case rel => exact ⟨k + 1, by omega, by go_num, by have := hrw.set k (nth xs k / d); rwa [fillTo_succ] at this, hb.setCell (p := ⟨w1.heap.size, k, none⟩) hb1.size _⟩
      case measure => simp [intOf]; omega
    · obtain rfl : k = xs.length := by omega
      go_wp2
      go_ret
      refine ⟨_, rfl, ?_, hb⟩
      have := fill_map (· / d) xs
      rw [fillTo_all, this, Hd.out] at hrw
      exact hrw
end Go.Proofs.Ytnpnnfbmnlgioaa
