/-
  What Of, Given, Map, Check, Total, Lowest and Same of package odds return, for every list.
-/
import Derived.Test.YtnpnnfbmnlgioaaG
namespace Go.Proofs.Ytnpnnfbmnlgioaa
open Go.RowKit

theorem onlyTo_bd {xs os : List Int} (h : Pos xs) (ha : asc xs.length os = true) {k : Nat} (hk : k ≤ os.length) (j : Nat) : 0 ≤ nth (onlyTo xs os k) j ∧ nth (onlyTo xs os k) j ≤ nth xs j := by
  induction k with
  | zero =>
    simp only [onlyTo]
    rw [nth_replicate]
    have := h j
    split <;> omega
  | succ k ih =>
    have h1 := ih (by omega)
    have h2 := asc_nonneg ha (show k < os.length by omega)
    have h3 := (asc_at ha (show k < os.length by omega)).2
    simp only [onlyTo]
    rw [nth_set (by rw [onlyTo_length]; omega)]
    split
    · rename_i e; subst e; exact ⟨h _, Int.le_refl _⟩
    · exact h1
theorem lsum_le {a b : List Int} (hl : a.length = b.length) (h : ∀ j, nth a j ≤ nth b j) : lsum a ≤ lsum b := by
  induction a generalizing b with
  | nil => obtain rfl : b = [] := List.eq_nil_of_length_eq_zero (by simpa using hl.symm)
           exact Int.le_refl _
  | cons x r ih =>
    rcases b with _ | ⟨y, s⟩
    · simp at hl
    · have h0 := h 0
      simp [nth] at h0
      have := ih (b := s) (by simpa using hl) (fun j => by have := h (j + 1); simpa [nth] using this)
      rw [lsum_cons, lsum_cons]; omega
/-- The weights of some outcomes alone. -/
def onlyL (xs os : List Int) : List Int := onlyTo xs os os.length
theorem onlyL_facts {xs os : List Int} (h : Small xs) (ha : asc xs.length os = true) : (onlyL xs os).length = xs.length ∧ Small (onlyL xs os) ∧ 0 ≤ lsum (onlyL xs os) ∧ lsum (onlyL xs os) ≤ lsum xs := by
  have h1 := onlyTo_length xs os os.length
  have h2 : ∀ j, 0 ≤ nth (onlyL xs os) j ∧ nth (onlyL xs os) j ≤ nth xs j := fun j => onlyTo_bd h.pos ha (Nat.le_refl _) j
  refine ⟨h1, fun k hk => ?_, lsum_nonneg fun j => (h2 j).1, lsum_le h1 fun j => (h2 j).2⟩
  have := h2 k
  have h3 := h k (by unfold onlyL at hk; rwa [h1] at hk)
  omega

theorem set0 {W : World} {b : Nat} {u : Value} (x : Value) (h : W.cell? ⟨b, 0, none⟩ = some u) : (W.setCell ⟨b, 0, none⟩ x).cell? ⟨b, 0, none⟩ = some x := World.cell?_setCell_same' _ _ _ (by rw [h]; rfl)
theorem set1 {W : World} {b : Nat} {u : Value} (x y : Value) (h : W.cell? ⟨b, 1, none⟩ = some u) : ((W.setCell ⟨b, 0, none⟩ x).setCell ⟨b, 1, none⟩ y).cell? ⟨b, 1, none⟩ = some y := World.cell?_setCell_same' _ _ _ (by go_simp)

/-- What Of returns: numerator, denominator, error. -/
def sOf (xs os : List Int) : Int × Int × Int :=
  if chkS xs os ≠ 0 then (0, 0, chkS xs os) else (lsum (onlyL xs os) / Int.gcd (lsum (onlyL xs os)) (lsum xs), lsum xs / Int.gcd (lsum (onlyL xs os)) (lsum xs), 0)

theorem chkS_ok {xs os : List Int} (h : chkS xs os = 0) : chk1 xs = 0 ∧ asc xs.length os = true := by
  unfold chkS at h
  split at h
  · rename_i h1; exact absurd h h1
  · rename_i h1
    split at h
    · rename_i h2; exact ⟨by simpa using h1, h2⟩
    · simp at h

set_option maxHeartbeats 1000000 in
theorem of_any (p : Option Addr) (xs : List Int) (c : Nat) (po : Option Addr) (os : List Int) (co : Nat) (w : World) (hl : xs.length ≤ 1000000000000000) (hlo : os.length ≤ 1000000000000000) (hR : Reads w p xs) (hRo : Reads w po os) :
    Calls Try.prog 18 #[.slice p xs.length c, .slice po os.length co] w fun e w' => e = .returned (.tuple #[.agg #[.int .i64 (sOf xs os).1, .int .i64 (sOf xs os).2.1], .int .i64 (sOf xs os).2.2]) ∧ Below w.heap.size w w' := by
  obtain ⟨D, hD⟩ : ∃ D, sOf xs os = D := ⟨_, rfl⟩
  rw [hD]
  have hB0 := below1 w (.cells #[.int .i64 0, .int .i64 0] 23)
  have kc0 : (w.alloc (.cells #[.int .i64 0, .int .i64 0] 23)).cell? ⟨w.heap.size, 0, none⟩ = some (.int .i64 0) := by go_simp
  have kc1 : (w.alloc (.cells #[.int .i64 0, .int .i64 0] 23)).cell? ⟨w.heap.size, 1, none⟩ = some (.int .i64 0) := by go_simp
  have kf0 : (w.alloc (.cells #[.int .i64 0, .int .i64 0] 23)).frozen? ⟨w.heap.size, 0, none⟩ = false := by go_simp
  have kf1 : (w.alloc (.cells #[.int .i64 0, .int .i64 0] 23)).frozen? ⟨w.heap.size, 1, none⟩ = false := by go_simp
  have hs0 : (w.alloc (.cells #[.int .i64 0, .int .i64 0] 23)).heap.size = w.heap.size + 1 := by simp
  obtain ⟨w0, hw0⟩ : ∃ w0, w.alloc (.cells #[.int .i64 0, .int .i64 0] 23) = w0 := ⟨_, rfl⟩
  by_cases he : chkS xs os = 0
  · obtain ⟨k1, k2⟩ := chkS_ok he
    obtain ⟨a1, a2, a3, a4⟩ := chk1_ok k1
    obtain ⟨o1, o2, o3, o4⟩ := onlyL_facts a2 k2
    have Hd : Hid (D = (lsum (onlyL xs os) / Int.gcd (lsum (onlyL xs os)) (lsum xs), lsum xs / Int.gcd (lsum (onlyL xs os)) (lsum xs), 0)) := by
      show _ = _; rw [← hD]; unfold sOf; rw [if_neg (by simpa using he)]
    have He := Lib.hid he
    have K2 := Lib.hid k2
    have O1 := Lib.hid o1
    clear hD he k1 k2 o1
    go_enter Try.func18, Try.ntmps18
    go_wp2_with fail
    rw [hw0] at hB0 kc0 kc1 kf0 kf1 hs0
    clear hw0
    go_call (checkSome_any p xs c po os co w0 hl hlo (hR.below hB0 (Nat.le_refl _)) (hRo.below hB0 (Nat.le_refl _))) as e w1 ⟨rfl, hb1⟩
    rw [He.out]
    have hB1 := hB0.trans (hb1.mono (by omega))
    go_wp2_with fail
    go_call (only_any p xs c po os co w1 a1 hlo K2.out (hR.below hB1 (Nat.le_refl _)) (hRo.below hB1 (Nat.le_refl _))) as e w2 ⟨g, rfl, hrow, hb2⟩
    have hB2 := tr hB1 hb2
    go_wp2_with fail
    have hT := total_any (some ⟨g, 0, none⟩) (onlyL xs os) xs.length w2 (by rw [O1.out]; exact a1) o2 hrow.reads
    rw [O1.out] at hT
    go_call hT as e w3 ⟨rfl, hb3⟩
    go_wp2_with fail
    go_call (total_any p xs c w3 a1 a2 (hR.below (tr hB2 hb3) (Nat.le_refl _))) as e w4 ⟨rfl, hb4⟩
    go_wp2_with fail
    go_call (fraction_any (lsum (onlyL xs os)) (lsum xs) w4 o3 a3 (by omega) (by omega)) as e w5 ⟨rfl, hb5⟩
    have hb := tr hb1 (tr hb2 (tr hb3 (tr hb4 hb5)))
    have hB := hB0.trans (hb.mono (by omega))
    have kc0' := (hb.cell (p := ⟨w.heap.size, 0, none⟩) (by simp; omega)).trans kc0
    have kc1' := (hb.cell (p := ⟨w.heap.size, 1, none⟩) (by simp; omega)).trans kc1
    have kf0' := (hb.frozen (p := ⟨w.heap.size, 0, none⟩) (by simp; omega)).trans kf0
    have kf1' := (hb.frozen (p := ⟨w.heap.size, 1, none⟩) (by simp; omega)).trans kf1
    clear hb hb1 hb2 hb3 hb4 hb5 hB0 hB1 hB2 kc0 kc1 kf0 kf1 hrow hT
    go_wp2
    have r0 := set0 (.int .i64 (lsum (onlyL xs os) / Int.gcd (lsum (onlyL xs os)) (lsum xs))) kc0'
    have r1 := set1 (.int .i64 (lsum (onlyL xs os) / Int.gcd (lsum (onlyL xs os)) (lsum xs))) (.int .i64 (lsum xs / Int.gcd (lsum (onlyL xs os)) (lsum xs))) kc1'
    refine bodyPost_ret (v := .tuple #[.agg #[.int .i64 (lsum (onlyL xs os) / Int.gcd (lsum (onlyL xs os)) (lsum xs)), .int .i64 (lsum xs / Int.gcd (lsum (onlyL xs os)) (lsum xs))], .int .i64 0]) (by simp [results, Try.results18, go_sem, r0, r1]) rfl ⟨by rw [Hd.out], ?_⟩
    exact (hB.setCell (Nat.le_refl _) _).setCell (Nat.le_refl _) _
  · obtain ⟨x, hx⟩ : ∃ x, chkS xs os = x := ⟨_, rfl⟩
    have Hd : Hid (D = (0, 0, x)) := by show _ = _; rw [← hD]; unfold sOf; rw [if_pos he, hx]
    rw [hx] at he
    have hb : (x == 0) = false := by simpa using he
    have hb' : (x != 0) = true := by simpa using he
    have Hx := Lib.hid hx
    clear hx he hD
    go_enter Try.func18, Try.ntmps18
    go_wp2_with fail
    rw [hw0] at hB0 kc0 kc1 kf0 kf1 hs0
    clear hw0
    go_call (checkSome_any p xs c po os co w0 hl hlo (hR.below hB0 (Nat.le_refl _)) (hRo.below hB0 (Nat.le_refl _))) as e w1 ⟨rfl, hb1⟩
    rw [Hx.out]
    have hB := hB0.trans (hb1.mono (by omega))
    have kc0' := (hb1.cell (p := ⟨w.heap.size, 0, none⟩) (by simp; omega)).trans kc0
    have kc1' := (hb1.cell (p := ⟨w.heap.size, 1, none⟩) (by simp; omega)).trans kc1
    have kf0' := (hb1.frozen (p := ⟨w.heap.size, 0, none⟩) (by simp; omega)).trans kf0
    have kf1' := (hb1.frozen (p := ⟨w.heap.size, 1, none⟩) (by simp; omega)).trans kf1
    go_wp2
    have r0 := set0 (.int .i64 0) kc0'
    have r1 := set1 (.int .i64 0) (.int .i64 0) kc1'
    refine bodyPost_ret (v := .tuple #[.agg #[.int .i64 0, .int .i64 0], .int .i64 x]) (by simp [results, Try.results18, go_sem, r0, r1]) rfl ⟨by rw [Hd.out], ?_⟩
    exact (hB.setCell (Nat.le_refl _) _).setCell (Nat.le_refl _) _
end Go.Proofs.Ytnpnnfbmnlgioaa
