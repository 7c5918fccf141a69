/-
  What Apart of the reference returns: for any two lists.
-/
import Derived.Test.YtagodfaclohkmaaVi
import Derived.Test.YtagodfaclohkmaaVj
namespace Go.Proofs.Ytagodfaclohkmaa
open Go.RowKit

theorem chkL2_first {a b : List Int} (h : chk1 a ≠ 0) : chkL [a, b] = chk1 a := by simp [chkL, h]
theorem chkL2_second {a b : List Int} (h0 : chk1 a = 0) (h : chk1 b ≠ 0) : chkL [a, b] = chk1 b := by simp [chkL, h0, h]
theorem chkL2_ok {a b : List Int} (h0 : chk1 a = 0) (h : chk1 b = 0) : chkL [a, b] = 0 := by simp [chkL, h0, h]

set_option maxRecDepth 100000 in
set_option maxHeartbeats 4000000 in
theorem refApart_ok (pa : Option Addr) (a : List Int) (ca : Nat) (pb : Option Addr) (b : List Int) (cb : Nat) (w : World) (hRa : Reads w pa a) (hRb : Reads w pb b) (k1 : chk1 a = 0) (k2 : chk1 b = 0) (hab : a.length = b.length)
    (ho : lsum (low a) ≤ 1000000000000000 / lsum (low b)) (x y : List Int) (s t : Int) (hx : x = low a) (hy : y = low b) (hs : s = lsum x) (ht : t = lsum y) :
    Calls Try.prog 48 #[.slice pa a.length ca, .slice pb b.length cb] w fun e w' => e = .returned (.tuple #[.agg #[.int .i64 (moreTo x y s t a.length / Int.gcd (moreTo x y s t a.length) (s * t)), .int .i64 (s * t / Int.gcd (moreTo x y s t a.length) (s * t))], .int .i64 0]) ∧ Below w.heap.size w w' := by
  have hB0 := below1 w (.cells #[.int .i64 0, .int .i64 0] 33)
  obtain ⟨a1, a2, a3, a4⟩ := chk1_ok k1
  obtain ⟨b1, b2, b3, b4⟩ := chk1_ok k2
  obtain ⟨x1, x2, x3, x4⟩ := low_facts a2 a3
  obtain ⟨y1, y2, y3, y4⟩ := low_facts b2 b3
  have hlx : x.length = a.length := by rw [hx, low_length]
  have hly : y.length = a.length := by rw [hy, low_length, hab]
  rw [← hx, ← hs] at x3 x4 ho
  rw [← hy, ← ht] at y3 y4 ho
  rw [← hx] at x2
  rw [← hy] at y2
  have hst := (le_div y3).1 ho
  have hst0 : 1 ≤ s * t := by have := Int.mul_le_mul x3 y3 (by omega) (by omega); simpa using this
  have hmb : ∀ k, k ≤ a.length → 0 ≤ moreTo x y s t k ∧ moreTo x y s t k ≤ s * t := fun k hk => by
    have := more_bd x2.pos y2.pos (show 0 ≤ s by omega) (show 0 ≤ t by omega) (show k ≤ x.length by omega)
    have h2 := Int.mul_le_mul_of_nonneg_right (psum_le x2.pos (show k ≤ x.length by omega)) (show 0 ≤ t by omega)
    rw [← hs] at h2
    omega
  have hxt : ∀ k, 0 ≤ nth x k * t ∧ nth x k * t ≤ s * t := fun k => ⟨Int.mul_nonneg (x2.pos k) (by omega), Int.mul_le_mul_of_nonneg_right (by rw [hs]; exact nth_le_lsum x2.pos k) (by omega)⟩
  have hys : ∀ k, 0 ≤ nth y k * s ∧ nth y k * s ≤ s * t := fun k => ⟨Int.mul_nonneg (y2.pos k) (by omega), by rw [Int.mul_comm s t]; exact Int.mul_le_mul_of_nonneg_right (by rw [ht]; exact nth_le_lsum y2.pos k) (by omega)⟩
  have hL1 := fun p c w (h : Reads w p a) => refLowest_any p a c w a1 a2 x1 h
  have hL2 := fun p c w (h : Reads w p b) => refLowest_any p b c w b1 b2 y1 h
  rw [← hx, hlx] at hL1
  rw [← hy, hly] at hL2
  have hT1 := fun p c w (h : Reads w p x) => refTotal_any p x c w (by omega) x2 h
  have hT2 := fun p c w (h : Reads w p y) => refTotal_any p y c w (by omega) y2 h
  rw [hlx, ← hs] at hT1
  rw [hly, ← ht] at hT2
  have hov : decide (1000000000000000 < s * t) = false := by simp; omega
  have Hov := Lib.hid hov
  have Hmb := Lib.hid hmb
  have Hxt := Lib.hid hxt
  have Hys := Lib.hid hys
  have K1 := Lib.hid k1
  have K2 := Lib.hid k2
  have Hlx := Lib.hid hlx
  have Hly := Lib.hid hly
  have hab' : ((a.length : Int) != (b.length : Int)) = false := by simp [hab]
  clear k1 k2 hx hy hs ht hlx hly hab hmb hxt hys hov
  go_enter Try.func48, Try.ntmps48
  go_wp2_with fail
  go_call (refCheck_any pa a ca _ (by omega) (hRa.below hB0 (Nat.le_refl _))) as e w1 ⟨rfl, hb1⟩
  rw [K1.out]
  have hB1 : Below w.heap.size w w1 := hB0.trans (hb1.mono (by simp))
  have kc0 : w1.cell? ⟨w.heap.size, 0, none⟩ = some (.int .i64 0) := (hb1.cell (p := ⟨w.heap.size, 0, none⟩) (by simp)).trans (by go_simp)
  have kc1 : w1.cell? ⟨w.heap.size, 1, none⟩ = some (.int .i64 0) := (hb1.cell (p := ⟨w.heap.size, 1, none⟩) (by simp)).trans (by go_simp)
  have kf0 : w1.frozen? ⟨w.heap.size, 0, none⟩ = false := (hb1.frozen (p := ⟨w.heap.size, 0, none⟩) (by simp)).trans (by go_simp)
  have kf1 : w1.frozen? ⟨w.heap.size, 1, none⟩ = false := (hb1.frozen (p := ⟨w.heap.size, 1, none⟩) (by simp)).trans (by go_simp)
  have hsz : w.heap.size < w1.heap.size := by have := hb1.size; simp at this; omega
  clear hb1 hB0
  go_wp2_with fail
  go_call (refCheck_any pb b cb _ (by omega) (hRb.below hB1 (Nat.le_refl _))) as e w2 ⟨rfl, hb2⟩
  rw [K2.out]
  have hB2 := tr hB1 hb2
  go_wp2_with fail
  go_call (hL1 pa ca w2 (hRa.below hB2 (Nat.le_refl _))) as e w3 ⟨⟨px, cx, rfl, hRx3⟩, hb3⟩
  have hB3 := tr hB2 hb3
  go_wp2_with fail
  go_call (hL2 pb cb w3 (hRb.below hB3 (Nat.le_refl _))) as e w4 ⟨⟨py, cy, rfl, hRy4⟩, hb4⟩
  have hRx4 := hRx3.below hb4 (Nat.le_refl _)
  go_wp2_with fail
  go_call (hT1 px cx w4 hRx4) as e w5 ⟨rfl, hb5⟩
  have hRx5 := hRx4.below hb5 (Nat.le_refl _)
  have hRy5 := hRy4.below hb5 (Nat.le_refl _)
  go_wp2_with fail
  go_call (hT2 py cy w5 hRy5) as e w6 ⟨rfl, hb6⟩
  have hRx6 := hRx5.below hb6 (Nat.le_refl _)
  have hRy6 := hRy5.below hb6 (Nat.le_refl _)
  go_wp2_with fail
  go_call (refOver_any s t w6 (by omega) (by omega)) as e w7 ⟨rfl, hb7⟩
  rw [Hov.out]
  have hRx7 := hRx6.below hb7 (Nat.le_refl _)
  have hRy7 := hRy6.below hb7 (Nat.le_refl _)
  have hb := tr hb2 (tr hb3 (tr hb4 (tr hb5 (tr hb6 hb7))))
  have hB := tr hB1 hb
  have kc0' := (hb.cell (p := ⟨w.heap.size, 0, none⟩) hsz).trans kc0
  have kc1' := (hb.cell (p := ⟨w.heap.size, 1, none⟩) hsz).trans kc1
  have kf0' := (hb.frozen (p := ⟨w.heap.size, 0, none⟩) hsz).trans kf0
  have kf1' := (hb.frozen (p := ⟨w.heap.size, 1, none⟩) hsz).trans kf1
  have hsz7 : w.heap.size < w7.heap.size := by have := hb.size; omega
  clear hb2 hb3 hb4 hb5 hb6 hb7 hB1 hB2 hB3 hb kc0 kc1 kf0 kf1 hsz hRx3 hRx4 hRx5 hRx6 hRy4 hRy5 hRy6
  go_wp2
  go_loopw [12, 13] (fun m i wr => ∃ k : Nat, k ≤ a.length ∧ i = .int .i64 k ∧ m = .int .i64 (moreTo x y s t k) ∧ Below w7.heap.size w7 wr) (fun _ i _ => a.length - (intOf i).toNat)
  case atStart => exact ⟨0, Nat.zero_le _, rfl, rfl, Below.refl _ _⟩
  case round =>
    obtain ⟨k, hk, rfl, rfl, hbr⟩ := hrel
    by_cases hlt : k < a.length
    · obtain ⟨q, o, rfl, hcx⟩ := hRx7.below hbr (Nat.le_refl _) k (by rw [Hlx.out]; exact hlt)
      obtain ⟨q2, o2, rfl, hcy⟩ := hRy7.below hbr (Nat.le_refl _) k (by rw [Hly.out]; exact hlt)
      have m1 := Hmb.out k hk
      have m2 := Hmb.out (k + 1) hlt
      have n1 := Hxt.out k
      have n2 := Hys.out k
      simp only [moreTo] at m2
      have e1 : IntKind.i64.wrap (nth x k * t) = nth x k * t := IntWalk.i64_in _ (by omega)
      have e2 : IntKind.i64.wrap (nth y k * s) = nth y k * s := IntWalk.i64_in _ (by omega)
      have e3 : IntKind.i64.wrap (nth x k * t - nth y k * s) = nth x k * t - nth y k * s := IntWalk.i64_in _ (by omega)
      have e4 : IntKind.i64.wrap (moreTo x y s t k + max 0 (nth x k * t - nth y k * s)) = moreTo x y s t k + max 0 (nth x k * t - nth y k * s) := IntWalk.i64_in _ (by omega)
      have hk0 : (k : Int) < (a.length : Int) := by omega
      have E := Lib.hid (And.intro e1 (And.intro e2 (And.intro e3 e4)))
      clear e1 e2 e3 e4 m1 m2 n1 n2
      go_wp2
      obtain ⟨e1, e2, e3, e4⟩ := E.out
      go_quiet (fail)
      clear e1 e2 e3 e4
      go_wp2
      go_roundw
      case rel =>
        have m1 := Hmb.out k hk
        have m2 := Hmb.out (k + 1) hlt
        simp only [moreTo] at m2
        refine ⟨k + 1, by omega, by go_num, congrArg (Value.int .i64) ?_, below_drewN hbr _⟩
        simp only [moreTo]
      case measure => simp [intOf]; omega
    · obtain rfl : k = a.length := by omega
      have m1 := Hmb.out a.length (Nat.le_refl _)
      have hstm : IntKind.i64.wrap (s * t) = s * t := IntWalk.i64_in _ (by omega)
      go_wp2_with fail
      go_call (refChance_any (moreTo x y s t a.length) (s * t) wr m1.1 hst0 (by omega) (by omega)) as e w8 ⟨rfl, hb8⟩
      have hbq := tr hbr hb8
      have q0 := (hbq.cell (p := ⟨w.heap.size, 0, none⟩) hsz7).trans kc0'
      have q1 := (hbq.cell (p := ⟨w.heap.size, 1, none⟩) hsz7).trans kc1'
      have f0 := (hbq.frozen (p := ⟨w.heap.size, 0, none⟩) hsz7).trans kf0'
      have f1 := (hbq.frozen (p := ⟨w.heap.size, 1, none⟩) hsz7).trans kf1'
      have hBq := tr hB hbq
      clear hbr hb8 hbq kc0' kc1' hB m1 hRx7 hRy7
      go_wp2
      generalize moreTo x y s t a.length / Int.gcd (moreTo x y s t a.length) (s * t) = X at *
      generalize s * t / Int.gcd (moreTo x y s t a.length) (s * t) = Y at *
      have r0 := set0 (.int .i64 X) q0
      have r1 := set1 (.int .i64 X) (.int .i64 Y) q1
      refine bodyPost_ret (v := .tuple #[.agg #[.int .i64 X, .int .i64 Y], .int .i64 0]) (by simp [results, Try.results48, go_sem, r0, r1]) rfl ⟨rfl, ?_⟩
      exact (hBq.setCell (Nat.le_refl _) _).setCell (Nat.le_refl _) _

set_option maxRecDepth 100000 in
set_option maxHeartbeats 2000000 in
theorem refApart_err (pa : Option Addr) (a : List Int) (ca : Nat) (pb : Option Addr) (b : List Int) (cb : Nat) (w : World) (hxa : a.length ≤ 1000000000000000) (hxb : b.length ≤ 1000000000000000) (hRa : Reads w pa a) (hRb : Reads w pb b) (z : Int)
    (hz : (chk1 a = z ∧ z ≠ 0) ∨ (chk1 a = 0 ∧ chk1 b = z ∧ z ≠ 0) ∨ (chk1 a = 0 ∧ chk1 b = 0 ∧ a.length ≠ b.length ∧ z = 2) ∨ (chk1 a = 0 ∧ chk1 b = 0 ∧ a.length = b.length ∧ 1000000000000000 < lsum (low a) * lsum (low b) ∧ z = 10)) :
    Calls Try.prog 48 #[.slice pa a.length ca, .slice pb b.length cb] w fun e w' => e = .returned (.tuple #[.agg #[.int .i64 0, .int .i64 0], .int .i64 z]) ∧ Below w.heap.size w w' := by
  have hB0 := below1 w (.cells #[.int .i64 0, .int .i64 0] 33)
  have hk1 := fun W (h : Reads W pa a) => refCheck_any pa a ca W (by omega) h
  have hk2 := fun W (h : Reads W pb b) => refCheck_any pb b cb W (by omega) h
  rcases hz with ⟨h1, h2⟩ | ⟨h0, h1, h2⟩ | ⟨h0, h1, hab, rfl⟩ | ⟨h0, h1, hab, hov, rfl⟩
  · have hb' : (z != 0) = true := by simpa using h2
    rw [h1] at hk1
    clear h1 h2
    go_enter Try.func48, Try.ntmps48
    go_wp2_with fail
    go_call (hk1 _ (hRa.below hB0 (Nat.le_refl _))) as e w1 ⟨rfl, hb1⟩
    have hB1 : Below w.heap.size w w1 := hB0.trans (hb1.mono (by simp))
    have kc0 : w1.cell? ⟨w.heap.size, 0, none⟩ = some (.int .i64 0) := (hb1.cell (p := ⟨w.heap.size, 0, none⟩) (by simp)).trans (by go_simp)
    have kc1 : w1.cell? ⟨w.heap.size, 1, none⟩ = some (.int .i64 0) := (hb1.cell (p := ⟨w.heap.size, 1, none⟩) (by simp)).trans (by go_simp)
    have kf0 : w1.frozen? ⟨w.heap.size, 0, none⟩ = false := (hb1.frozen (p := ⟨w.heap.size, 0, none⟩) (by simp)).trans (by go_simp)
    have kf1 : w1.frozen? ⟨w.heap.size, 1, none⟩ = false := (hb1.frozen (p := ⟨w.heap.size, 1, none⟩) (by simp)).trans (by go_simp)
    clear hb1 hB0
    go_wp2
    have r0 := set0 (.int .i64 0) kc0
    have r1 := set1 (.int .i64 0) (.int .i64 0) kc1
    refine bodyPost_ret (v := .tuple #[.agg #[.int .i64 0, .int .i64 0], .int .i64 z]) (by simp [results, Try.results48, go_sem, r0, r1]) rfl ⟨rfl, ?_⟩
    exact (hB1.setCell (Nat.le_refl _) _).setCell (Nat.le_refl _) _
  · have hb' : (z != 0) = true := by simpa using h2
    rw [h0] at hk1
    rw [h1] at hk2
    clear h1 h2 h0
    go_enter Try.func48, Try.ntmps48
    go_wp2_with fail
    go_call (hk1 _ (hRa.below hB0 (Nat.le_refl _))) as e w0 ⟨rfl, hb0⟩
    have hB00 : Below w.heap.size w w0 := hB0.trans (hb0.mono (by simp))
    go_wp2_with fail
    go_call (hk2 _ (hRb.below hB00 (Nat.le_refl _))) as e w1 ⟨rfl, hb1⟩
    have hb01 := hb0.trans (hb1.mono hb0.size)
    have hB1 : Below w.heap.size w w1 := hB0.trans (hb01.mono (by simp))
    have kc0 : w1.cell? ⟨w.heap.size, 0, none⟩ = some (.int .i64 0) := (hb01.cell (p := ⟨w.heap.size, 0, none⟩) (by simp)).trans (by go_simp)
    have kc1 : w1.cell? ⟨w.heap.size, 1, none⟩ = some (.int .i64 0) := (hb01.cell (p := ⟨w.heap.size, 1, none⟩) (by simp)).trans (by go_simp)
    have kf0 : w1.frozen? ⟨w.heap.size, 0, none⟩ = false := (hb01.frozen (p := ⟨w.heap.size, 0, none⟩) (by simp)).trans (by go_simp)
    have kf1 : w1.frozen? ⟨w.heap.size, 1, none⟩ = false := (hb01.frozen (p := ⟨w.heap.size, 1, none⟩) (by simp)).trans (by go_simp)
    clear hb1 hB0 hb01 hb0 hB00
    go_wp2
    have r0 := set0 (.int .i64 0) kc0
    have r1 := set1 (.int .i64 0) (.int .i64 0) kc1
    refine bodyPost_ret (v := .tuple #[.agg #[.int .i64 0, .int .i64 0], .int .i64 z]) (by simp [results, Try.results48, go_sem, r0, r1]) rfl ⟨rfl, ?_⟩
    exact (hB1.setCell (Nat.le_refl _) _).setCell (Nat.le_refl _) _
  · have hb' : ((a.length : Int) != (b.length : Int)) = true := by simp; omega
    rw [h0] at hk1
    rw [h1] at hk2
    clear h1 h0 hab
    go_enter Try.func48, Try.ntmps48
    go_wp2_with fail
    go_call (hk1 _ (hRa.below hB0 (Nat.le_refl _))) as e w0 ⟨rfl, hb0⟩
    have hB00 : Below w.heap.size w w0 := hB0.trans (hb0.mono (by simp))
    go_wp2_with fail
    go_call (hk2 _ (hRb.below hB00 (Nat.le_refl _))) as e w1 ⟨rfl, hb1⟩
    have hb01 := hb0.trans (hb1.mono hb0.size)
    have hB1 : Below w.heap.size w w1 := hB0.trans (hb01.mono (by simp))
    have kc0 : w1.cell? ⟨w.heap.size, 0, none⟩ = some (.int .i64 0) := (hb01.cell (p := ⟨w.heap.size, 0, none⟩) (by simp)).trans (by go_simp)
    have kc1 : w1.cell? ⟨w.heap.size, 1, none⟩ = some (.int .i64 0) := (hb01.cell (p := ⟨w.heap.size, 1, none⟩) (by simp)).trans (by go_simp)
    have kf0 : w1.frozen? ⟨w.heap.size, 0, none⟩ = false := (hb01.frozen (p := ⟨w.heap.size, 0, none⟩) (by simp)).trans (by go_simp)
    have kf1 : w1.frozen? ⟨w.heap.size, 1, none⟩ = false := (hb01.frozen (p := ⟨w.heap.size, 1, none⟩) (by simp)).trans (by go_simp)
    clear hb1 hB0 hb01 hb0 hB00
    go_wp2
    have r0 := set0 (.int .i64 0) kc0
    have r1 := set1 (.int .i64 0) (.int .i64 0) kc1
    refine bodyPost_ret (v := .tuple #[.agg #[.int .i64 0, .int .i64 0], .int .i64 2]) (by simp [results, Try.results48, go_sem, r0, r1]) rfl ⟨rfl, ?_⟩
    exact (hB1.setCell (Nat.le_refl _) _).setCell (Nat.le_refl _) _
  · have hab' : ((a.length : Int) != (b.length : Int)) = false := by simp [hab]
    obtain ⟨a1, a2, a3, a4⟩ := chk1_ok h0
    obtain ⟨b1, b2, b3, b4⟩ := chk1_ok h1
    obtain ⟨x1, x2, x3, x4⟩ := low_facts a2 a3
    obtain ⟨y1, y2, y3, y4⟩ := low_facts b2 b3
    obtain ⟨x, hx⟩ : ∃ x, x = low a := ⟨_, rfl⟩
    obtain ⟨y, hy⟩ : ∃ y, y = low b := ⟨_, rfl⟩
    have hlx : x.length = a.length := by rw [hx, low_length]
    have hly : y.length = a.length := by rw [hy, low_length, hab]
    have hL1 := fun p c w (h : Reads w p a) => refLowest_any p a c w a1 a2 x1 h
    have hL2 := fun p c w (h : Reads w p b) => refLowest_any p b c w b1 b2 y1 h
    rw [← hx] at x2 x3 x4 hov
    rw [← hy] at y2 y3 y4 hov
    rw [← hx, hlx] at hL1
    rw [← hy, hly] at hL2
    obtain ⟨s, hs⟩ : ∃ s, s = lsum x := ⟨_, rfl⟩
    obtain ⟨t, ht⟩ : ∃ t, t = lsum y := ⟨_, rfl⟩
    have hT1 := fun p c w (h : Reads w p x) => refTotal_any p x c w (by omega) x2 h
    have hT2 := fun p c w (h : Reads w p y) => refTotal_any p y c w (by omega) y2 h
    rw [hlx, ← hs] at hT1
    rw [hly, ← ht] at hT2
    rw [← hs] at x3 x4 hov
    rw [← ht] at y3 y4 hov
    have hovd : decide (1000000000000000 < s * t) = true := by simp [hov]
    have Hov := Lib.hid hovd
    rw [h0] at hk1
    rw [h1] at hk2
    clear h0 h1 hx hy hs ht hlx hly hab hovd hov
    go_enter Try.func48, Try.ntmps48
    go_wp2_with fail
    go_call (hk1 _ (hRa.below hB0 (Nat.le_refl _))) as e w1 ⟨rfl, hb1⟩
    have hB1 : Below w.heap.size w w1 := hB0.trans (hb1.mono (by simp))
    have kc0 : w1.cell? ⟨w.heap.size, 0, none⟩ = some (.int .i64 0) := (hb1.cell (p := ⟨w.heap.size, 0, none⟩) (by simp)).trans (by go_simp)
    have kc1 : w1.cell? ⟨w.heap.size, 1, none⟩ = some (.int .i64 0) := (hb1.cell (p := ⟨w.heap.size, 1, none⟩) (by simp)).trans (by go_simp)
    have kf0 : w1.frozen? ⟨w.heap.size, 0, none⟩ = false := (hb1.frozen (p := ⟨w.heap.size, 0, none⟩) (by simp)).trans (by go_simp)
    have kf1 : w1.frozen? ⟨w.heap.size, 1, none⟩ = false := (hb1.frozen (p := ⟨w.heap.size, 1, none⟩) (by simp)).trans (by go_simp)
    have hsz : w.heap.size < w1.heap.size := by have := hb1.size; simp at this; omega
    clear hb1 hB0
    go_wp2_with fail
    go_call (hk2 _ (hRb.below hB1 (Nat.le_refl _))) as e w2 ⟨rfl, hb2⟩
    have hB2 := tr hB1 hb2
    go_wp2_with fail
    go_call (hL1 pa ca w2 (hRa.below hB2 (Nat.le_refl _))) as e w3 ⟨⟨px, cx, rfl, hRx3⟩, hb3⟩
    have hB3 := tr hB2 hb3
    go_wp2_with fail
    go_call (hL2 pb cb w3 (hRb.below hB3 (Nat.le_refl _))) as e w4 ⟨⟨py, cy, rfl, hRy4⟩, hb4⟩
    have hRx4 := hRx3.below hb4 (Nat.le_refl _)
    go_wp2_with fail
    go_call (hT1 px cx w4 hRx4) as e w5 ⟨rfl, hb5⟩
    have hRy5 := hRy4.below hb5 (Nat.le_refl _)
    go_wp2_with fail
    go_call (hT2 py cy w5 hRy5) as e w6 ⟨rfl, hb6⟩
    go_wp2_with fail
    go_call (refOver_any s t w6 (by omega) (by omega)) as e w7 ⟨rfl, hb7⟩
    rw [Hov.out]
    have hb := tr hb2 (tr hb3 (tr hb4 (tr hb5 (tr hb6 hb7))))
    have hB := tr hB1 hb
    have kc0' := (hb.cell (p := ⟨w.heap.size, 0, none⟩) hsz).trans kc0
    have kc1' := (hb.cell (p := ⟨w.heap.size, 1, none⟩) hsz).trans kc1
    have kf0' := (hb.frozen (p := ⟨w.heap.size, 0, none⟩) hsz).trans kf0
    have kf1' := (hb.frozen (p := ⟨w.heap.size, 1, none⟩) hsz).trans kf1
    clear hb2 hb3 hb4 hb5 hb6 hb7 hB1 hB2 hB3 hb kc0 kc1 kf0 kf1 hsz hRx3 hRx4 hRy4 hRy5
    go_wp2
    have r0 := set0 (.int .i64 0) kc0'
    have r1 := set1 (.int .i64 0) (.int .i64 0) kc1'
    refine bodyPost_ret (v := .tuple #[.agg #[.int .i64 0, .int .i64 0], .int .i64 10]) (by simp [results, Try.results48, go_sem, r0, r1]) rfl ⟨rfl, ?_⟩
    exact (hB.setCell (Nat.le_refl _) _).setCell (Nat.le_refl _) _

theorem refApart_any (pa : Option Addr) (a : List Int) (ca : Nat) (pb : Option Addr) (b : List Int) (cb : Nat) (w : World) (hxa : a.length ≤ 1000000000000000) (hxb : b.length ≤ 1000000000000000) (hRa : Reads w pa a) (hRb : Reads w pb b) :
    Calls Try.prog 48 #[.slice pa a.length ca, .slice pb b.length cb] w fun e w' => e = .returned (.tuple #[.agg #[.int .i64 (sApart a b).1, .int .i64 (sApart a b).2.1], .int .i64 (sApart a b).2.2]) ∧ Below w.heap.size w w' := by
  by_cases k1 : chk1 a = 0
  · by_cases k2 : chk1 b = 0
    · have he := chkL2_ok k1 k2
      by_cases hab : a.length = b.length
      · obtain ⟨b1, b2, b3, b4⟩ := chk1_ok k2
        obtain ⟨y1, y2, y3, y4⟩ := low_facts b2 b3
        have hd : lsum (low a) ≤ 1000000000000000 / lsum (low b) ↔ lsum (low a) * lsum (low b) ≤ 1000000000000000 := le_div y3
        by_cases ho : lsum (low a) ≤ 1000000000000000 / lsum (low b)
        · have e : sApart a b = (moreTo (low a) (low b) (lsum (low a)) (lsum (low b)) a.length / Int.gcd (moreTo (low a) (low b) (lsum (low a)) (lsum (low b)) a.length) (lsum (low a) * lsum (low b)), lsum (low a) * lsum (low b) / Int.gcd (moreTo (low a) (low b) (lsum (low a)) (lsum (low b)) a.length) (lsum (low a) * lsum (low b)), 0) := by
            unfold sApart; rw [if_neg (by simpa using he), if_neg (by simpa using hab), if_neg (by omega)]
          rw [e]
          exact refApart_ok pa a ca pb b cb w hRa hRb k1 k2 hab ho _ _ _ _ rfl rfl rfl rfl
        · have e : sApart a b = (0, 0, 10) := by unfold sApart; rw [if_neg (by simpa using he), if_neg (by simpa using hab), if_pos (by omega)]
          rw [e]
          exact refApart_err pa a ca pb b cb w hxa hxb hRa hRb 10 (Or.inr (Or.inr (Or.inr ⟨k1, k2, hab, by have := mt hd.2 ho; omega, rfl⟩)))
      · have e : sApart a b = (0, 0, 2) := by unfold sApart; rw [if_neg (by simpa using he), if_pos hab]
        rw [e]
        exact refApart_err pa a ca pb b cb w hxa hxb hRa hRb 2 (Or.inr (Or.inr (Or.inl ⟨k1, k2, hab, rfl⟩)))
    · have e : sApart a b = (0, 0, chk1 b) := by unfold sApart; rw [if_pos (by rw [chkL2_second k1 k2]; exact k2), chkL2_second k1 k2]
      rw [e]
      exact refApart_err pa a ca pb b cb w hxa hxb hRa hRb _ (Or.inr (Or.inl ⟨k1, rfl, k2⟩))
  · have e : sApart a b = (0, 0, chk1 a) := by unfold sApart; rw [if_pos (by rw [chkL2_first k1]; exact k1), chkL2_first k1]
    rw [e]
    exact refApart_err pa a ca pb b cb w hxa hxb hRa hRb _ (Or.inl ⟨rfl, k1⟩)
end Go.Proofs.Ytagodfaclohkmaa
