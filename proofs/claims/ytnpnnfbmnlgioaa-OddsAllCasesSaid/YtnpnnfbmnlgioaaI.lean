/-
  What Apart of package odds returns, for every two lists.
-/
import Derived.Test.YtnpnnfbmnlgioaaH
namespace Go.Proofs.Ytnpnnfbmnlgioaa
open Go.RowKit

theorem gcdTo_nonneg (xs : List Int) (k : Nat) : 0 ≤ gcdTo xs k := by
  induction k with
  | zero => rw [gcdTo_zero]; omega
  | succ k ih =>
    by_cases h : k < xs.length
    · rw [gcdTo_succ h]; omega
    · have e : gcdTo xs (k + 1) = gcdTo xs k := by unfold gcdTo; rw [List.take_of_length_le (by omega), List.take_of_length_le (by omega)]
      rw [e]; exact ih
theorem gcdTo_dvd {xs : List Int} {k i : Nat} (hi : i < k) (hk : k ≤ xs.length) : gcdTo xs k ∣ nth xs i := by
  induction k with
  | zero => omega
  | succ k ih =>
    rw [gcdTo_succ (by omega)]
    by_cases e : i = k
    · subst e; exact Int.gcd_dvd_right ..
    · exact Int.dvd_trans (Int.gcd_dvd_left ..) (ih (by omega) (by omega))
theorem gcdl_dvd {xs : List Int} {i : Nat} (hi : i < xs.length) : gcdl xs ∣ nth xs i := by
  rw [← gcdTo_all]; exact gcdTo_dvd hi (Nat.le_refl _)
theorem gcdl_nonneg (xs : List Int) : 0 ≤ gcdl xs := by rw [← gcdTo_all]; exact gcdTo_nonneg _ _

/-- Weights in lowest terms. -/
def low (xs : List Int) : List Int := xs.map (· / gcdl xs)
theorem nth_map {xs : List Int} {f : Int → Int} {k : Nat} (h : k < xs.length) : nth (xs.map f) k = f (nth xs k) := by
  rw [nth_eq (by simpa using h), nth_eq h]; simp
theorem low_length (xs : List Int) : (low xs).length = xs.length := by simp [low]
theorem lsum_low (xs : List Int) : lsum xs = gcdl xs * lsum (low xs) := by
  have h : ∀ (g : Int) (l : List Int), (∀ k, k < l.length → g ∣ nth l k) → lsum l = g * lsum (l.map (· / g)) := by
    intro g l
    induction l with
    | nil => intro _; simp [lsum]
    | cons x r ih =>
      intro hd
      have h0 := hd 0 (by simp)
      simp [nth] at h0
      have := ih fun k hk => by have := hd (k + 1) (by simp; omega); simpa [nth] using this
      rw [List.map_cons, lsum_cons, lsum_cons, Int.mul_add, ← this, Int.mul_ediv_cancel' h0]
  exact h _ _ fun k hk => gcdl_dvd hk
theorem low_facts {xs : List Int} (hs : Small xs) (h : 1 ≤ lsum xs) : 1 ≤ gcdl xs ∧ Small (low xs) ∧ 1 ≤ lsum (low xs) ∧ lsum (low xs) ≤ lsum xs := by
  have hg : 1 ≤ gcdl xs := by
    have h0 := gcdl_nonneg xs
    by_cases e : gcdl xs = 0
    · have := lsum_low xs; rw [e, Int.zero_mul] at this; omega
    · omega
  have hn : ∀ j, 0 ≤ nth (low xs) j ∧ nth (low xs) j ≤ nth xs j := fun j => by
    by_cases hj : j < xs.length
    · unfold low; rw [nth_map hj]
      have := (hs j hj).1
      exact ⟨Int.ediv_nonneg this (by omega), Int.ediv_le_self _ this⟩
    · rw [nth_out (by rw [low_length]; exact hj), nth_out hj]; omega
  refine ⟨hg, fun k hk => ?_, ?_, lsum_le (low_length xs) fun j => (hn j).2⟩
  · have := hn k
    have := hs k (by rwa [low_length] at hk)
    omega
  · have h1 := lsum_low xs
    have h2 : 0 ≤ lsum (low xs) := lsum_nonneg fun j => (hn j).1
    by_cases e : lsum (low xs) = 0
    · rw [e, Int.mul_zero] at h1; omega
    · omega

/-- How much more x has than y, times both sums, of the first k. -/
def moreTo (x y : List Int) (s t : Int) : Nat → Int
  | 0 => 0
  | k + 1 => moreTo x y s t k + max 0 (nth x k * t - nth y k * s)
theorem more_bd {x y : List Int} {s t : Int} (hx : Pos x) (hy : Pos y) (hs : 0 ≤ s) (ht : 0 ≤ t) {k : Nat} (hk : k ≤ x.length) : 0 ≤ moreTo x y s t k ∧ moreTo x y s t k ≤ psum x k * t := by
  induction k with
  | zero => simp [moreTo, psum]
  | succ k ih =>
    have h1 := ih (by omega)
    have h2 : 0 ≤ nth x k * t := Int.mul_nonneg (hx k) ht
    have h3 : 0 ≤ nth y k * s := Int.mul_nonneg (hy k) hs
    rw [psum_succ (by omega), Int.add_mul]
    simp only [moreTo]
    omega

theorem Reads.at0 {w : World} {g : Nat} {xs : List Int} (h : Reads w (some ⟨g, 0, none⟩) xs) {k : Nat} (hk : k < xs.length) : w.cell? ⟨g, k, none⟩ = some (.int .i64 (nth xs k)) := by
  obtain ⟨q, o, e, hc⟩ := h k hk
  cases e
  rwa [Nat.zero_add] at hc

/-- What Apart returns: numerator, denominator, error. -/
def sApart (a b : List Int) : Int × Int × Int :=
  if chkL [a, b] ≠ 0 then (0, 0, chkL [a, b]) else if a.length ≠ b.length then (0, 0, 2)
  else if 1000000000000000 / lsum (low b) < lsum (low a) then (0, 0, 10)
  else (moreTo (low a) (low b) (lsum (low a)) (lsum (low b)) a.length / Int.gcd (moreTo (low a) (low b) (lsum (low a)) (lsum (low b)) a.length) (lsum (low a) * lsum (low b)),
        lsum (low a) * lsum (low b) / Int.gcd (moreTo (low a) (low b) (lsum (low a)) (lsum (low b)) a.length) (lsum (low a) * lsum (low b)), 0)

set_option maxRecDepth 100000 in
set_option maxHeartbeats 2000000 in
theorem apart_ok (pa : Option Addr) (a : List Int) (ca : Nat) (pb : Option Addr) (b : List Int) (cb : Nat) (w : World) (hRa : Reads w pa a) (hRb : Reads w pb b) (he : chkL [a, b] = 0) (hab : a.length = b.length)
    (ho : lsum (low a) ≤ 1000000000000000 / lsum (low b)) (x y : List Int) (s t : Int) (hx : x = low a) (hy : y = low b) (hs : s = lsum x) (ht : t = lsum y) :
    Calls Try.prog 21 #[.slice pa a.length ca, .slice pb b.length cb] w fun e w' => e = .returned (.tuple #[.agg #[.int .i64 (moreTo x y s t a.length / Int.gcd (moreTo x y s t a.length) (s * t)), .int .i64 (s * t / Int.gcd (moreTo x y s t a.length) (s * t))], .int .i64 0]) ∧ Below w.heap.size w w' := by
  have hB0 := below1 w (.cells #[.int .i64 0, .int .i64 0] 23)
  obtain ⟨k1, k2⟩ := chk2_ok he
  obtain ⟨a1, a2, a3, a4⟩ := chk1_ok k1
  obtain ⟨b1, b2, b3, b4⟩ := chk1_ok k2
  obtain ⟨x1, x2, x3, x4⟩ := low_facts a2 a3
  obtain ⟨y1, y2, y3, y4⟩ := low_facts b2 b3
  have hlx : x.length = a.length := by rw [hx, low_length]
  have hly : y.length = a.length := by rw [hy, low_length, hab]
  rw [← hx, ← hs] at x3 x4 ho
  rw [← hy, ← ht] at y3 y4 ho
  rw [← hx] at x2
  rw [← hy] at y2
  have hst := (le_div y3).1 ho
  have hst0 : 1 ≤ s * t := by have := Int.mul_le_mul x3 y3 (by omega) (by omega); simpa using this
  have hmb : ∀ k, k ≤ a.length → 0 ≤ moreTo x y s t k ∧ moreTo x y s t k ≤ s * t := fun k hk => by
    have := more_bd x2.pos y2.pos (show 0 ≤ s by omega) (show 0 ≤ t by omega) (show k ≤ x.length by omega)
    have h2 := Int.mul_le_mul_of_nonneg_right (psum_le x2.pos (show k ≤ x.length by omega)) (show 0 ≤ t by omega)
    rw [← hs] at h2
    omega
  have hxt : ∀ k, 0 ≤ nth x k * t ∧ nth x k * t ≤ s * t := fun k => ⟨Int.mul_nonneg (x2.pos k) (by omega), Int.mul_le_mul_of_nonneg_right (by rw [hs]; exact nth_le_lsum x2.pos k) (by omega)⟩
  have hys : ∀ k, 0 ≤ nth y k * s ∧ nth y k * s ≤ s * t := fun k => ⟨Int.mul_nonneg (y2.pos k) (by omega), by rw [Int.mul_comm s t]; exact Int.mul_le_mul_of_nonneg_right (by rw [ht]; exact nth_le_lsum y2.pos k) (by omega)⟩
  have Hmb := Lib.hid hmb
  have Hxt := Lib.hid hxt
  have Hys := Lib.hid hys
  have He := Lib.hid he
  have Hx : Hid (low a = x) := hx.symm
  have Hy : Hid (low b = y) := hy.symm
  have Hxm : Hid (a.map (· / gcdl a) = x) := hx.symm
  have Hym : Hid (b.map (· / gcdl b) = y) := hy.symm
  have Hs := Lib.hid hs
  have Ht := Lib.hid ht
  have Hlx := Lib.hid hlx
  have Hly := Lib.hid hly
  have Hab := Lib.hid hab
  have hab' : ((a.length : Int) != (b.length : Int)) = false := by simp [hab]
  clear he k1 k2 hx hy hs ht hlx hly hab hmb hxt hys
  go_enter Try.func21, Try.ntmps21
  go_wp2_with fail
  go_call (check2 pa a ca pb b cb (w.heap.size + 1) _ (by omega) (by omega) (by go_simp) (by go_simp) (hRa.below (hB0.alloc (by simp) _) (Nat.le_refl _)) (hRb.below (hB0.alloc (by simp) _) (Nat.le_refl _))) as e w1 ⟨rfl, hb1⟩
  rw [He.out]
  have hB1 : Below w.heap.size w w1 := (hB0.alloc (by simp) _).trans (hb1.mono (by simp; omega))
  have kc0 : w1.cell? ⟨w.heap.size, 0, none⟩ = some (.int .i64 0) := (hb1.cell (p := ⟨w.heap.size, 0, none⟩) (by simp; omega)).trans (by go_simp)
  have kc1 : w1.cell? ⟨w.heap.size, 1, none⟩ = some (.int .i64 0) := (hb1.cell (p := ⟨w.heap.size, 1, none⟩) (by simp; omega)).trans (by go_simp)
  have kf0 : w1.frozen? ⟨w.heap.size, 0, none⟩ = false := (hb1.frozen (p := ⟨w.heap.size, 0, none⟩) (by simp; omega)).trans (by go_simp)
  have kf1 : w1.frozen? ⟨w.heap.size, 1, none⟩ = false := (hb1.frozen (p := ⟨w.heap.size, 1, none⟩) (by simp; omega)).trans (by go_simp)
  have hsz : w.heap.size < w1.heap.size := by have := hb1.size; simp at this; omega
  clear hb1 hB0
  go_wp2_with fail
  go_call (lowest_any pa a ca w1 a1 a2 x1 (hRa.below hB1 (Nat.le_refl _))) as e w2 ⟨g, rfl, hrowx, hb2⟩
  rw [Hxm.out] at hrowx
  go_wp2_with fail
  have hB2 := tr hB1 hb2
  go_call (lowest_any pb b cb w2 b1 b2 y1 (hRb.below hB2 (Nat.le_refl _))) as e w3 ⟨h, rfl, hrowy, hb3⟩
  rw [Hym.out] at hrowy
  have hRx := hrowx.reads.below hb3 (Nat.le_refl _)
  have hRy := hrowy.reads
  go_wp2_with fail
  have hT := total_any (some ⟨g, 0, none⟩) x a.length w3 (by rw [Hlx.out]; exact a1) x2 hRx
  rw [Hlx.out, ← Hs.out] at hT
  go_call hT as e w4 ⟨rfl, hb4⟩
  clear hT
  go_wp2_with fail
  have hT := total_any (some ⟨h, 0, none⟩) y b.length w4 (by rw [Hly.out]; exact a1) y2 (hRy.below hb4 (Nat.le_refl _))
  rw [Hly.out, Hab.out, ← Ht.out] at hT
  go_call hT as e w5 ⟨rfl, hb5⟩
  clear hT
  go_wp2_with fail
  go_call (product_ok s t w5 (by omega) y3 ho) as e w' ⟨rfl, rfl⟩
  have hRx5 := hRx.below (tr hb4 hb5) (Nat.le_refl _)
  have hRy5 := hRy.below (tr hb4 hb5) (Nat.le_refl _)
  have hb := tr hb2 (tr hb3 (tr hb4 hb5))
  have hB := tr hB1 hb
  have kc0' := (hb.cell (p := ⟨w.heap.size, 0, none⟩) hsz).trans kc0
  have kc1' := (hb.cell (p := ⟨w.heap.size, 1, none⟩) hsz).trans kc1
  have kf0' := (hb.frozen (p := ⟨w.heap.size, 0, none⟩) hsz).trans kf0
  have kf1' := (hb.frozen (p := ⟨w.heap.size, 1, none⟩) hsz).trans kf1
  have hsz5 : w.heap.size < w5.heap.size := by have := hb.size; omega
  clear hb2 hb3 hb4 hb5 hrowx hrowy hRx hRy hB1 hB2 hb kc0 kc1 kf0 kf1 hsz
  go_wp2
  go_loopw [11, 47] (fun m i wr => ∃ k : Nat, k ≤ a.length ∧ i = .int .i64 k ∧ m = .int .i64 (moreTo x y s t k) ∧ Below w5.heap.size w5 wr) (fun _ i _ => a.length - (intOf i).toNat)
  case atStart => exact ⟨0, Nat.zero_le _, rfl, rfl, Below.refl _ _⟩
  case round =>
    obtain ⟨k, hk, rfl, rfl, hbr⟩ := hrel
    by_cases hlt : k < a.length
    · have hcx := (hRx5.below hbr (Nat.le_refl _)).at0 (k := k) (by rw [Hlx.out]; exact hlt)
      have hcy := (hRy5.below hbr (Nat.le_refl _)).at0 (k := k) (by rw [Hly.out]; exact hlt)
      have m1 := Hmb.out k hk
      have m2 := Hmb.out (k + 1) hlt
      have n1 := Hxt.out k
      have n2 := Hys.out k
      simp only [moreTo] at m2
      have e1 : IntKind.i64.wrap (nth x k * t) = nth x k * t := IntWalk.i64_in _ (by omega)
      have e2 : IntKind.i64.wrap (nth y k * s) = nth y k * s := IntWalk.i64_in _ (by omega)
      have e3 : IntKind.i64.wrap (nth x k * t - nth y k * s) = nth x k * t - nth y k * s := IntWalk.i64_in _ (by omega)
      have e4 : IntKind.i64.wrap (moreTo x y s t k + max 0 (nth x k * t - nth y k * s)) = moreTo x y s t k + max 0 (nth x k * t - nth y k * s) := IntWalk.i64_in _ (by omega)
      have hk0 : (k : Int) < (a.length : Int) := by omega
      have hk1 : (k : Int) < (b.length : Int) := by rw [← Hab.out]; exact hk0
      have E := Lib.hid (And.intro e1 (And.intro e2 (And.intro e3 e4)))
      clear e1 e2 e3 e4 m1 m2 n1 n2
      go_wp2
      obtain ⟨e1, e2, e3, e4⟩ := E.out
      go_quiet (fail)
      clear e1 e2 e3 e4
      go_wp2
      go_roundw
      case rel =>
        have m1 := Hmb.out k hk
        have m2 := Hmb.out (k + 1) hlt
        simp only [moreTo] at m2
        refine ⟨k + 1, by omega, by go_num, congrArg (Value.int .i64) ?_, below_drewN hbr _⟩
        simp only [moreTo]
        rw [IntWalk.wrap64_in _ (by split <;> omega)]
        split <;> omega
      case measure => simp [intOf]; omega
    · obtain rfl : k = a.length := by omega
      have m1 := Hmb.out a.length (Nat.le_refl _)
      go_wp2_with fail
      go_call (fraction_any (moreTo x y s t a.length) (s * t) wr m1.1 hst0 (by omega) (by omega)) as e w6 ⟨rfl, hb6⟩
      have hbq := tr hbr hb6
      have q0 := (hbq.cell (p := ⟨w.heap.size, 0, none⟩) hsz5).trans kc0'
      have q1 := (hbq.cell (p := ⟨w.heap.size, 1, none⟩) hsz5).trans kc1'
      have f0 := (hbq.frozen (p := ⟨w.heap.size, 0, none⟩) hsz5).trans kf0'
      have f1 := (hbq.frozen (p := ⟨w.heap.size, 1, none⟩) hsz5).trans kf1'
      have hBq := tr hB hbq
      clear hbr hb6 hbq kc0' kc1' kf0' kf1' hB m1 hRx5 hRy5
      go_wp2
      generalize moreTo x y s t a.length / Int.gcd (moreTo x y s t a.length) (s * t) = X at *
      generalize s * t / Int.gcd (moreTo x y s t a.length) (s * t) = Y at *
      have r0 := set0 (.int .i64 X) q0
      have r1 := set1 (.int .i64 X) (.int .i64 Y) q1
      refine bodyPost_ret (v := .tuple #[.agg #[.int .i64 X, .int .i64 Y], .int .i64 0]) (by simp [results, Try.results21, go_sem, r0, r1]) rfl ⟨rfl, ?_⟩
      exact (hBq.setCell (Nat.le_refl _) _).setCell (Nat.le_refl _) _

set_option maxHeartbeats 1000000 in
theorem apart_err (pa : Option Addr) (a : List Int) (ca : Nat) (pb : Option Addr) (b : List Int) (cb : Nat) (w : World) (hxa : a.length ≤ 1000000000000000) (hxb : b.length ≤ 1000000000000000) (hRa : Reads w pa a) (hRb : Reads w pb b) (x : Int) (hx : chkL [a, b] = x) (he : x ≠ 0) :
    Calls Try.prog 21 #[.slice pa a.length ca, .slice pb b.length cb] w fun e w' => e = .returned (.tuple #[.agg #[.int .i64 0, .int .i64 0], .int .i64 x]) ∧ Below w.heap.size w w' := by
  have hB0 := below1 w (.cells #[.int .i64 0, .int .i64 0] 23)
  have hb : (x == 0) = false := by simpa using he
  have hb' : (x != 0) = true := by simpa using he
  have He := Lib.hid hx
  clear hx he
  go_enter Try.func21, Try.ntmps21
  go_wp2_with fail
  go_call (check2 pa a ca pb b cb (w.heap.size + 1) _ (by omega) (by omega) (by go_simp) (by go_simp) (hRa.below (hB0.alloc (by simp) _) (Nat.le_refl _)) (hRb.below (hB0.alloc (by simp) _) (Nat.le_refl _))) as e w1 ⟨rfl, hb1⟩
  rw [He.out]
  have hB1 : Below w.heap.size w w1 := (hB0.alloc (by simp) _).trans (hb1.mono (by simp; omega))
  have kc0 : w1.cell? ⟨w.heap.size, 0, none⟩ = some (.int .i64 0) := (hb1.cell (p := ⟨w.heap.size, 0, none⟩) (by simp; omega)).trans (by go_simp)
  have kc1 : w1.cell? ⟨w.heap.size, 1, none⟩ = some (.int .i64 0) := (hb1.cell (p := ⟨w.heap.size, 1, none⟩) (by simp; omega)).trans (by go_simp)
  have kf0 : w1.frozen? ⟨w.heap.size, 0, none⟩ = false := (hb1.frozen (p := ⟨w.heap.size, 0, none⟩) (by simp; omega)).trans (by go_simp)
  have kf1 : w1.frozen? ⟨w.heap.size, 1, none⟩ = false := (hb1.frozen (p := ⟨w.heap.size, 1, none⟩) (by simp; omega)).trans (by go_simp)
  have hsz : w.heap.size < w1.heap.size := by have := hb1.size; simp at this; omega
  clear hb1 hB0
  go_wp2
  have r0 := set0 (.int .i64 0) kc0
  have r1 := set1 (.int .i64 0) (.int .i64 0) kc1
  refine bodyPost_ret (v := .tuple #[.agg #[.int .i64 0, .int .i64 0], .int .i64 x]) (by simp [results, Try.results21, go_sem, r0, r1]) rfl ⟨rfl, ?_⟩
  exact (hB1.setCell (Nat.le_refl _) _).setCell (Nat.le_refl _) _

set_option maxHeartbeats 1000000 in
theorem apart_len (pa : Option Addr) (a : List Int) (ca : Nat) (pb : Option Addr) (b : List Int) (cb : Nat) (w : World) (hxa : a.length ≤ 1000000000000000) (hxb : b.length ≤ 1000000000000000) (hRa : Reads w pa a) (hRb : Reads w pb b) (he : chkL [a, b] = 0) (hab : a.length ≠ b.length) :
    Calls Try.prog 21 #[.slice pa a.length ca, .slice pb b.length cb] w fun e w' => e = .returned (.tuple #[.agg #[.int .i64 0, .int .i64 0], .int .i64 2]) ∧ Below w.heap.size w w' := by
  have hB0 := below1 w (.cells #[.int .i64 0, .int .i64 0] 23)
  have hb : ((a.length : Int) == (b.length : Int)) = false := by simp; omega
  have hb' : ((a.length : Int) != (b.length : Int)) = true := by simp; omega
  have He := Lib.hid he
  clear he hab
  go_enter Try.func21, Try.ntmps21
  go_wp2_with fail
  go_call (check2 pa a ca pb b cb (w.heap.size + 1) _ (by omega) (by omega) (by go_simp) (by go_simp) (hRa.below (hB0.alloc (by simp) _) (Nat.le_refl _)) (hRb.below (hB0.alloc (by simp) _) (Nat.le_refl _))) as e w1 ⟨rfl, hb1⟩
  rw [He.out]
  have hB1 : Below w.heap.size w w1 := (hB0.alloc (by simp) _).trans (hb1.mono (by simp; omega))
  have kc0 : w1.cell? ⟨w.heap.size, 0, none⟩ = some (.int .i64 0) := (hb1.cell (p := ⟨w.heap.size, 0, none⟩) (by simp; omega)).trans (by go_simp)
  have kc1 : w1.cell? ⟨w.heap.size, 1, none⟩ = some (.int .i64 0) := (hb1.cell (p := ⟨w.heap.size, 1, none⟩) (by simp; omega)).trans (by go_simp)
  have kf0 : w1.frozen? ⟨w.heap.size, 0, none⟩ = false := (hb1.frozen (p := ⟨w.heap.size, 0, none⟩) (by simp; omega)).trans (by go_simp)
  have kf1 : w1.frozen? ⟨w.heap.size, 1, none⟩ = false := (hb1.frozen (p := ⟨w.heap.size, 1, none⟩) (by simp; omega)).trans (by go_simp)
  have hsz : w.heap.size < w1.heap.size := by have := hb1.size; simp at this; omega
  clear hb1 hB0
  go_wp2
  have r0 := set0 (.int .i64 0) kc0
  have r1 := set1 (.int .i64 0) (.int .i64 0) kc1
  refine bodyPost_ret (v := .tuple #[.agg #[.int .i64 0, .int .i64 0], .int .i64 2]) (by simp [results, Try.results21, go_sem, r0, r1]) rfl ⟨rfl, ?_⟩
  exact (hB1.setCell (Nat.le_refl _) _).setCell (Nat.le_refl _) _

set_option maxHeartbeats 2000000 in
theorem apart_over (pa : Option Addr) (a : List Int) (ca : Nat) (pb : Option Addr) (b : List Int) (cb : Nat) (w : World) (hxa : a.length ≤ 1000000000000000) (hxb : b.length ≤ 1000000000000000) (hRa : Reads w pa a) (hRb : Reads w pb b) (he : chkL [a, b] = 0) (hab : a.length = b.length)
    (x y : List Int) (s t : Int) (hx : x = low a) (hy : y = low b) (hs : s = lsum x) (ht : t = lsum y) (ho : ¬ s ≤ 1000000000000000 / t) :
    Calls Try.prog 21 #[.slice pa a.length ca, .slice pb b.length cb] w fun e w' => e = .returned (.tuple #[.agg #[.int .i64 0, .int .i64 0], .int .i64 10]) ∧ Below w.heap.size w w' := by
  have hB0 := below1 w (.cells #[.int .i64 0, .int .i64 0] 23)
  obtain ⟨k1, k2⟩ := chk2_ok he
  obtain ⟨a1, a2, a3, a4⟩ := chk1_ok k1
  obtain ⟨b1, b2, b3, b4⟩ := chk1_ok k2
  obtain ⟨x1, x2, x3, x4⟩ := low_facts a2 a3
  obtain ⟨y1, y2, y3, y4⟩ := low_facts b2 b3
  have hlx : x.length = a.length := by rw [hx, low_length]
  have hly : y.length = a.length := by rw [hy, low_length, hab]
  rw [← hx, ← hs] at x3 x4
  rw [← hy, ← ht] at y3 y4
  rw [← hx] at x2
  rw [← hy] at y2
  have He := Lib.hid he
  have Hxm : Hid (a.map (· / gcdl a) = x) := hx.symm
  have Hym : Hid (b.map (· / gcdl b) = y) := hy.symm
  have Hs := Lib.hid hs
  have Ht := Lib.hid ht
  have Hlx := Lib.hid hlx
  have Hly := Lib.hid hly
  have Hab := Lib.hid hab
  have Ho := Lib.hid ho
  have hab' : ((a.length : Int) != (b.length : Int)) = false := by simp [hab]
  clear he k1 k2 hx hy hs ht hlx hly hab ho
  go_enter Try.func21, Try.ntmps21
  go_wp2_with fail
  go_call (check2 pa a ca pb b cb (w.heap.size + 1) _ (by omega) (by omega) (by go_simp) (by go_simp) (hRa.below (hB0.alloc (by simp) _) (Nat.le_refl _)) (hRb.below (hB0.alloc (by simp) _) (Nat.le_refl _))) as e w1 ⟨rfl, hb1⟩
  rw [He.out]
  have hB1 : Below w.heap.size w w1 := (hB0.alloc (by simp) _).trans (hb1.mono (by simp; omega))
  have kc0 : w1.cell? ⟨w.heap.size, 0, none⟩ = some (.int .i64 0) := (hb1.cell (p := ⟨w.heap.size, 0, none⟩) (by simp; omega)).trans (by go_simp)
  have kc1 : w1.cell? ⟨w.heap.size, 1, none⟩ = some (.int .i64 0) := (hb1.cell (p := ⟨w.heap.size, 1, none⟩) (by simp; omega)).trans (by go_simp)
  have kf0 : w1.frozen? ⟨w.heap.size, 0, none⟩ = false := (hb1.frozen (p := ⟨w.heap.size, 0, none⟩) (by simp; omega)).trans (by go_simp)
  have kf1 : w1.frozen? ⟨w.heap.size, 1, none⟩ = false := (hb1.frozen (p := ⟨w.heap.size, 1, none⟩) (by simp; omega)).trans (by go_simp)
  have hsz : w.heap.size < w1.heap.size := by have := hb1.size; simp at this; omega
  clear hb1 hB0
  go_wp2_with fail
  go_call (lowest_any pa a ca w1 a1 a2 x1 (hRa.below hB1 (Nat.le_refl _))) as e w2 ⟨g, rfl, hrowx, hb2⟩
  rw [Hxm.out] at hrowx
  go_wp2_with fail
  have hB2 := tr hB1 hb2
  go_call (lowest_any pb b cb w2 b1 b2 y1 (hRb.below hB2 (Nat.le_refl _))) as e w3 ⟨h, rfl, hrowy, hb3⟩
  rw [Hym.out] at hrowy
  have hRx := hrowx.reads.below hb3 (Nat.le_refl _)
  have hRy := hrowy.reads
  go_wp2_with fail
  have hT := total_any (some ⟨g, 0, none⟩) x a.length w3 (by rw [Hlx.out]; exact a1) x2 hRx
  rw [Hlx.out, ← Hs.out] at hT
  go_call hT as e w4 ⟨rfl, hb4⟩
  clear hT
  go_wp2_with fail
  have hT := total_any (some ⟨h, 0, none⟩) y b.length w4 (by rw [Hly.out]; exact a1) y2 (hRy.below hb4 (Nat.le_refl _))
  rw [Hly.out, Hab.out, ← Ht.out] at hT
  go_call hT as e w5 ⟨rfl, hb5⟩
  clear hT
  go_wp2_with fail
  go_call (product_over s t w5 (by omega) y3 (by have := Ho.out; omega)) as e w' ⟨rfl, rfl⟩
  have hb := tr hb2 (tr hb3 (tr hb4 hb5))
  have hB := tr hB1 hb
  have kc0' := (hb.cell (p := ⟨w.heap.size, 0, none⟩) hsz).trans kc0
  have kc1' := (hb.cell (p := ⟨w.heap.size, 1, none⟩) hsz).trans kc1
  have kf0' := (hb.frozen (p := ⟨w.heap.size, 0, none⟩) hsz).trans kf0
  have kf1' := (hb.frozen (p := ⟨w.heap.size, 1, none⟩) hsz).trans kf1
  clear hb2 hb3 hb4 hb5 hrowx hrowy hRx hRy hB1 hB2 hb kc0 kc1 kf0 kf1 hsz
  go_wp2
  have r0 := set0 (.int .i64 0) kc0'
  have r1 := set1 (.int .i64 0) (.int .i64 0) kc1'
  refine bodyPost_ret (v := .tuple #[.agg #[.int .i64 0, .int .i64 0], .int .i64 10]) (by simp [results, Try.results21, go_sem, r0, r1]) rfl ⟨rfl, ?_⟩
  exact (hB.setCell (Nat.le_refl _) _).setCell (Nat.le_refl _) _

theorem apart_any (pa : Option Addr) (a : List Int) (ca : Nat) (pb : Option Addr) (b : List Int) (cb : Nat) (w : World) (hxa : a.length ≤ 1000000000000000) (hxb : b.length ≤ 1000000000000000) (hRa : Reads w pa a) (hRb : Reads w pb b) :
    Calls Try.prog 21 #[.slice pa a.length ca, .slice pb b.length cb] w fun e w' => e = .returned (.tuple #[.agg #[.int .i64 (sApart a b).1, .int .i64 (sApart a b).2.1], .int .i64 (sApart a b).2.2]) ∧ Below w.heap.size w w' := by
  by_cases he : chkL [a, b] = 0
  · by_cases hab : a.length = b.length
    · by_cases ho : lsum (low a) ≤ 1000000000000000 / lsum (low b)
      · have e : sApart a b = (moreTo (low a) (low b) (lsum (low a)) (lsum (low b)) a.length / Int.gcd (moreTo (low a) (low b) (lsum (low a)) (lsum (low b)) a.length) (lsum (low a) * lsum (low b)), lsum (low a) * lsum (low b) / Int.gcd (moreTo (low a) (low b) (lsum (low a)) (lsum (low b)) a.length) (lsum (low a) * lsum (low b)), 0) := by
          unfold sApart; rw [if_neg (by simpa using he), if_neg (by simpa using hab), if_neg (by omega)]
        rw [e]
        exact apart_ok pa a ca pb b cb w hRa hRb he hab ho _ _ _ _ rfl rfl rfl rfl
      · have e : sApart a b = (0, 0, 10) := by unfold sApart; rw [if_neg (by simpa using he), if_neg (by simpa using hab), if_pos (by omega)]
        rw [e]
        exact apart_over pa a ca pb b cb w hxa hxb hRa hRb he hab _ _ _ _ rfl rfl rfl rfl ho
    · have e : sApart a b = (0, 0, 2) := by unfold sApart; rw [if_neg (by simpa using he), if_pos hab]
      rw [e]
      exact apart_len pa a ca pb b cb w hxa hxb hRa hRb he hab
  · have e : sApart a b = (0, 0, chkL [a, b]) := by unfold sApart; rw [if_pos he]
    rw [e]
    exact apart_err pa a ca pb b cb w hxa hxb hRa hRb _ rfl he
end Go.Proofs.Ytnpnnfbmnlgioaa
