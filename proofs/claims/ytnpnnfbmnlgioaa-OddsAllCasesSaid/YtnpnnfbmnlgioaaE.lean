/-
  What Sum and Repeat of package odds return, for every list and number.
-/
import Derived.Test.YtnpnnfbmnlgioaaD
namespace Go.Proofs.Ytnpnnfbmnlgioaa
open Go.RowKit

set_option maxHeartbeats 1000000 in
theorem sum_err (pa : Option Addr) (a : List Int) (ca : Nat) (pb : Option Addr) (b : List Int) (cb : Nat) (w : World) (hxa : a.length ≤ 1000000000000000) (hxb : b.length ≤ 1000000000000000) (hRa : Reads w pa a) (hRb : Reads w pb b) (he : chkP a b (a.length + b.length - 1) ≠ 0) :
    Calls Try.prog 59 #[.slice pa a.length ca, .slice pb b.length cb] w fun e w' => e = .returned (.tuple #[.slice none 0 0, .int .i64 (chkP a b (a.length + b.length - 1))]) ∧ Below w.heap.size w w' := by
  obtain ⟨x, hx⟩ : ∃ x, chkP a b (a.length + b.length - 1) = x := ⟨_, rfl⟩
  rw [hx] at he ⊢
  have hb : (x == 0) = false := by simpa using he
  have hb' : (x != 0) = true := by simpa using he
  have Hx := Lib.hid hx
  clear hx he
  go_enter Try.func59, Try.ntmps59
  go_wp2_with fail
  go_call (checkPair_any pa a ca pb b cb (a.length + b.length - 1) w (by omega) (by omega) hRa hRb) as e w1 ⟨rfl, hb1⟩
  rw [Hx.out]
  go_wp2
  go_ret2
  exact ⟨rfl, hb1⟩

theorem sum_any (pa : Option Addr) (a : List Int) (ca : Nat) (pb : Option Addr) (b : List Int) (cb : Nat) (w : World) (hxa : a.length ≤ 1000000000000000) (hxb : b.length ≤ 1000000000000000) (hRa : Reads w pa a) (hRb : Reads w pb b) :
    Calls Try.prog 59 #[.slice pa a.length ca, .slice pb b.length cb] w fun e w' => ∃ p c, e = .returned (.tuple #[.slice p (sSum a b).1.length c, .int .i64 (sSum a b).2]) ∧ Reads w' p (sSum a b).1 ∧ Below w.heap.size w w' := by
  by_cases he : chkP a b (a.length + b.length - 1) = 0
  · refine (sum_ok pa a ca pb b cb w hxa hxb hRa hRb he).mono ?_
    rintro e w' ⟨g, rfl, hr, hb⟩
    refine ⟨some ⟨g, 0, none⟩, a.length + b.length - 1, ?_, ?_, hb⟩
    · have := hr.1
      simp only [sSum, if_pos he, this]
    · simp only [sSum, if_pos he]; exact hr.reads
  · refine (sum_err pa a ca pb b cb w hxa hxb hRa hRb he).mono ?_
    rintro e w' ⟨rfl, hb⟩
    refine ⟨none, 0, ?_, ?_, hb⟩
    · simp only [sSum, if_neg he]; rfl
    · simp only [sSum, if_neg he]; exact Reads.nil _ _

/-- What is repeated so many times: the weights, and the error. -/
def repRes (w : List Int) : Nat → List Int × Int
  | 0 => ([1], 0)
  | k + 1 => if (repRes w k).2 = 0 then sSum (repRes w k).1 w else repRes w k
/-- What Repeat returns. -/
def sRep (w : List Int) (t : Int) : List Int × Int :=
  if chk1 w ≠ 0 then ([], chk1 w) else if t < 0 ∨ 64 < t then ([], 3) else if 4096 < t * (w.length - 1) + 1 then ([], 5) else repRes w t.toNat
theorem sSum_err {a b : List Int} (h : (sSum a b).2 ≠ 0) : (sSum a b).1 = [] := by
  unfold sSum at h ⊢
  split <;> simp_all
theorem sSum_length {a b : List Int} (h : (sSum a b).2 = 0) : (sSum a b).1.length ≤ 4096 := by
  unfold sSum at h ⊢
  by_cases he : chkP a b (a.length + b.length - 1) = 0
  · rw [if_pos he]
    have := (chkP_ok he).2.2.1
    simp only [conv, sumTo_length]
    omega
  · rw [if_neg he] at h; exact absurd h he
theorem repRes_length (w : List Int) (k : Nat) : (repRes w k).1.length ≤ 4096 := by
  induction k with
  | zero => simp [repRes]
  | succ k ih =>
    unfold repRes
    split
    · by_cases h : (sSum (repRes w k).1 w).2 = 0
      · exact sSum_length h
      · rw [sSum_err h]; simp
    · exact ih
theorem repRes_stop {w : List Int} {k n : Nat} (hk : k ≤ n) (h : (repRes w k).2 ≠ 0) : repRes w n = repRes w k := by
  induction n with
  | zero => obtain rfl : k = 0 := by omega
            rfl
  | succ n ih =>
    by_cases e : k = n + 1
    · rw [e]
    · have := ih (by omega)
      rw [repRes, if_neg (by rw [this]; exact h), this]
theorem repRes_nil {w : List Int} {k : Nat} (h : (repRes w k).2 ≠ 0) : (repRes w k).1 = [] := by
  induction k with
  | zero => simp [repRes] at h
  | succ k ih =>
    unfold repRes at h ⊢
    split
    · rename_i h0
      rw [if_pos h0] at h
      exact sSum_err h
    · rename_i h0
      rw [if_neg h0] at h
      exact ih h

theorem below1 (w : World) (o : Obj) : Below w.heap.size w (w.alloc o) := Below.alloc (Below.refl _ _) (Nat.le_refl _) _

set_option maxHeartbeats 2000000 in
theorem repeat_ok (p : Option Addr) (xs : List Int) (c : Nat) (t : Nat) (w : World) (hR : Reads w p xs) (hk0 : chk1 xs = 0) (ht : t ≤ 64) (hn : ¬ 4096 < (t : Int) * (xs.length - 1) + 1) :
    Calls Try.prog 36 #[.slice p xs.length c, .int .i64 t] w fun e w' => ∃ p' c', e = .returned (.tuple #[.slice p' (repRes xs t).1.length c', .int .i64 (repRes xs t).2]) ∧ Reads w' p' (repRes xs t).1 ∧ Below w.heap.size w w' := by
  obtain ⟨a1, a2, a3, a4⟩ := chk1_ok hk0
  have hl1 : 1 ≤ xs.length := by
    rcases xs with _ | ⟨x, r⟩
    · simp [lsum] at a3
    · simp
  have hm0 : 0 ≤ (t : Int) * (xs.length - 1) := Int.mul_nonneg (by omega) (by omega)
  have He := Lib.hid hk0
  have ho : outB 0 64 (t : Int) = false := by simp [outB]; omega
  have Ho := Lib.hid ho
  clear ho hk0
  go_enter Try.func36, Try.ntmps36
  go_wp2_with fail
  go_call (check1 p xs c w.heap.size _ (by omega) (by go_simp) (hR.below (below1 _ _) (Nat.le_refl _))) as e w1 ⟨rfl, hb1⟩
  rw [He.out]
  have hB1 : Below w.heap.size w w1 := (below1 _ _).trans (hb1.mono (by simp))
  clear hb1
  go_wp2_with fail
  go_call (outside_c 0 64 w1) as e w2 ⟨a, b, rfl, ha, hb, hB2⟩
  go_wp2_with fail
  go_call (outside1_any (t : Int) 0 64 a b w2 ha hb) as e w3 ⟨rfl, rfl⟩
  rw [Ho.out]
  have hB := tr hB1 hB2
  clear ha hb hB1 hB2
  go_wp2
  go_loopw [7, 27] (fun v i wr => ∃ k : Nat, k ≤ t ∧ i = .int .i64 k ∧ Hid ((repRes xs k).2 = 0) ∧ (∃ p' c', v = .slice p' (repRes xs k).1.length c' ∧ Reads wr p' (repRes xs k).1) ∧ Below w.heap.size w wr) (fun _ i _ => t - (intOf i).toNat)
  case atStart => exact ⟨0, Nat.zero_le _, rfl, by show _ = _; simp [repRes], ⟨_, 1, rfl, fun k hk => ⟨w2.heap.size, 0, rfl, by
    obtain rfl : k = 0 := by simp [repRes] at hk; omega
    rw [World.cell?_alloc_at _ _ _ _ rfl]; simp [repRes, nth]⟩⟩, hB.alloc hB.size _⟩
  case round =>
    obtain ⟨k, hk, rfl, Hz, ⟨p', c', rfl, hR'⟩, hbr⟩ := hrel
    by_cases hlt : k < t
    · have hlen := repRes_length xs k
      have Hs : Hid (repRes xs (k + 1) = sSum (repRes xs k).1 xs) := by show _ = _; rw [repRes, if_pos Hz.out]
      go_wp2_with fail
      go_call (sum_any p' (repRes xs k).1 c' p xs c wr (by omega) (by omega) hR' (hR.below hbr (Nat.le_refl _))) as e w4 ⟨p2, c2, rfl, hR4, hB4⟩
      rw [← Hs.out] at hR4 ⊢
      by_cases hz : (repRes xs (k + 1)).2 = 0
      · have Hz1 := Lib.hid hz
        rw [hz]
        clear hz
        go_wp2
        go_roundw
        case rel => exact ⟨k + 1, by omega, by go_num, Hz1, ⟨p2, c2, rfl, hR4⟩, hbr.trans (hB4.mono hbr.size)⟩
        case measure => simp [intOf]; omega
      · have Hst := Lib.hid (repRes_stop (show k + 1 ≤ t by omega) hz)
        have Hnil := Lib.hid (repRes_nil hz)
        obtain ⟨x, hx⟩ : ∃ x, (repRes xs (k + 1)).2 = x := ⟨_, rfl⟩
        rw [hx] at hz ⊢
        have hb : (x == 0) = false := by simpa using hz
        have hb' : (x != 0) = true := by simpa using hz
        have Hx := Lib.hid hx
        clear hx hz
        go_wp2
        go_ret2
        exact ⟨none, 0, by rw [Hst.out, Hnil.out, Hx.out]; rfl, by rw [Hst.out, Hnil.out]; exact Reads.nil _ _, hbr.trans (hB4.mono hbr.size)⟩
    · obtain rfl : k = t := by omega
      go_wp2
      go_ret2
      exact ⟨p', c', by rw [Hz.out]; rfl, hR', hbr⟩

set_option maxHeartbeats 1000000 in
theorem repeat_any (p : Option Addr) (xs : List Int) (c : Nat) (t : Int) (w : World) (hl : xs.length ≤ 1000000000000000) (hR : Reads w p xs) :
    Calls Try.prog 36 #[.slice p xs.length c, .int .i64 t] w fun e w' => ∃ p' c', e = .returned (.tuple #[.slice p' (sRep xs t).1.length c', .int .i64 (sRep xs t).2]) ∧ Reads w' p' (sRep xs t).1 ∧ Below w.heap.size w w' := by
  by_cases h0 : chk1 xs = 0
  · obtain ⟨a1, a2, a3, a4⟩ := chk1_ok h0
    have He := Lib.hid h0
    by_cases h1 : t < 0 ∨ 64 < t
    · have Hs : Hid (sRep xs t = ([], 3)) := by show _ = _; simp [sRep, h0, h1]
      have ho : outB 0 64 t = true := by simp [outB]; omega
      have Ho := Lib.hid ho
      clear ho h0 h1
      go_enter Try.func36, Try.ntmps36
      go_wp2_with fail
      go_call (check1 p xs c w.heap.size _ (by omega) (by go_simp) (hR.below (below1 _ _) (Nat.le_refl _))) as e w1 ⟨rfl, hb1⟩
      rw [He.out]
      have hB1 : Below w.heap.size w w1 := (below1 _ _).trans (hb1.mono (by simp))
      clear hb1
      go_wp2_with fail
      go_call (outside_c 0 64 w1) as e w2 ⟨a, b, rfl, ha, hb, hB2⟩
      go_wp2_with fail
      go_call (outside1_any t 0 64 a b w2 ha hb) as e w3 ⟨rfl, rfl⟩
      rw [Ho.out]
      go_wp2
      go_ret2
      exact ⟨none, 0, by rw [Hs.out]; rfl, by rw [Hs.out]; exact Reads.nil _ _, tr hB1 hB2⟩
    · obtain ⟨n, rfl⟩ := Int.eq_ofNat_of_zero_le (show 0 ≤ t by omega)
      by_cases h2 : 4096 < (n : Int) * (xs.length - 1) + 1
      · have Hs : Hid (sRep xs n = ([], 5)) := by show _ = _; simp only [sRep]; rw [if_neg (by simpa using h0), if_neg h1, if_pos h2]
        have ho : outB 0 64 (n : Int) = false := by simp [outB]; omega
        have Ho := Lib.hid ho
        have hl1 : 1 ≤ xs.length := by
          rcases xs with _ | ⟨x, r⟩
          · simp [lsum] at a3
          · simp
        have hm0 : 0 ≤ (n : Int) * (xs.length - 1) := Int.mul_nonneg (by omega) (by omega)
        have hm1 : (n : Int) * (xs.length - 1) ≤ 64 * (xs.length - 1) := Int.mul_le_mul_of_nonneg_right (by omega) (by omega)
        clear ho h0
        go_enter Try.func36, Try.ntmps36
        go_wp2_with fail
        go_call (check1 p xs c w.heap.size _ (by omega) (by go_simp) (hR.below (below1 _ _) (Nat.le_refl _))) as e w1 ⟨rfl, hb1⟩
        rw [He.out]
        have hB1 : Below w.heap.size w w1 := (below1 _ _).trans (hb1.mono (by simp))
        clear hb1
        go_wp2_with fail
        go_call (outside_c 0 64 w1) as e w2 ⟨a, b, rfl, ha, hb, hB2⟩
        go_wp2_with fail
        go_call (outside1_any (n : Int) 0 64 a b w2 ha hb) as e w3 ⟨rfl, rfl⟩
        rw [Ho.out]
        go_wp2
        go_ret2
        exact ⟨none, 0, by rw [Hs.out]; rfl, by rw [Hs.out]; exact Reads.nil _ _, tr hB1 hB2⟩
      · have Hs : sRep xs n = repRes xs n := by simp only [sRep]; rw [if_neg (by simpa using h0), if_neg h1, if_neg h2, Int.toNat_natCast]
        rw [Hs]
        exact repeat_ok p xs c n w hR h0 (by omega) h2
  · obtain ⟨x, hx⟩ : ∃ x, chk1 xs = x := ⟨_, rfl⟩
    have Hs : Hid (sRep xs t = ([], x)) := by show _ = _; simp only [sRep]; rw [if_pos h0, hx]
    rw [hx] at h0
    have hb : (x == 0) = false := by simpa using h0
    have hb' : (x != 0) = true := by simpa using h0
    have Hx := Lib.hid hx
    clear hx h0
    go_enter Try.func36, Try.ntmps36
    go_wp2_with fail
    go_call (check1 p xs c w.heap.size _ (by omega) (by go_simp) (hR.below (below1 _ _) (Nat.le_refl _))) as e w1 ⟨rfl, hb1⟩
    rw [Hx.out]
    go_wp2
    go_ret2
    exact ⟨none, 0, by rw [Hs.out]; rfl, by rw [Hs.out]; exact Reads.nil _ _, (below1 _ _).trans (hb1.mono (by simp))⟩
end Go.Proofs.Ytnpnnfbmnlgioaa
