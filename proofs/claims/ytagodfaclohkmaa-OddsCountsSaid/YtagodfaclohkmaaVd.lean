/-
  What Check, Total, Lowest and Given of package odds return, for every list; what Divisor and Outcomes of the reference return.
-/
import Derived.Test.YtagodfaclohkmaaI
import Derived.Test.YtagodfaclohkmaaV
namespace Go.Proofs.Ytagodfaclohkmaa
open Go.RowKit

theorem check0 (p : Option Addr) (xs : List Int) (c : Nat) (w : World) (hl : xs.length ≤ 1000000000000000) (hR : Reads w p xs) :
    Calls Try.prog 56 #[.slice (some ⟨w.heap.size, 0, none⟩) 1 1] (w.alloc (.cells #[.slice p xs.length c] 22)) fun e w' => e = .returned (.int .i64 (chk1 xs)) ∧ Below w.heap.size w w' :=
  (check1 p xs c w.heap.size (w.alloc (.cells #[.slice p xs.length c] 22)) (by omega) (by go_simp) (hR.below (below1 _ _) (Nat.le_refl _))).mono fun e w' h => ⟨h.1, (below1 _ _).trans (h.2.mono (by simp))⟩

theorem oCheck_any (p : Option Addr) (xs : List Int) (c : Nat) (w : World) (hl : xs.length ≤ 1000000000000000) (hR : Reads w p xs) :
    Calls Try.prog 18 #[.slice p xs.length c] w fun e w' => e = .returned (.int .i64 (chk1 xs)) ∧ Below w.heap.size w w' := by
  have hck := check0 p xs c w hl hR
  go_enter Try.func18, Try.ntmps18
  go_wp2_with fail
  go_call hck as e w1 ⟨rfl, hb1⟩
  go_wp2
  go_returns
  exact ⟨rfl, hb1⟩

/-- What Total returns. -/
def sTotal (xs : List Int) : Int × Int := if chk1 xs = 0 then (lsum xs, 0) else (0, chk1 xs)
theorem oTotal_any (p : Option Addr) (xs : List Int) (c : Nat) (w : World) (hl : xs.length ≤ 1000000000000000) (hR : Reads w p xs) :
    Calls Try.prog 19 #[.slice p xs.length c] w fun e w' => e = .returned (.tuple #[.int .i64 (sTotal xs).1, .int .i64 (sTotal xs).2]) ∧ Below w.heap.size w w' := by
  have hck := check0 p xs c w hl hR
  by_cases h0 : chk1 xs = 0
  · obtain ⟨a1, a2, a3, a4⟩ := chk1_ok h0
    have Hs : Hid (sTotal xs = (lsum xs, 0)) := by show _ = _; unfold sTotal; rw [if_pos h0]
    have He := Lib.hid h0
    clear h0
    go_enter Try.func19, Try.ntmps19
    go_wp2_with fail
    go_call hck as e w1 ⟨rfl, hb1⟩
    rw [He.out]
    go_wp2_with fail
    go_call (total_any p xs c w1 a1 a2 (hR.below hb1 (Nat.le_refl _))) as e w2 ⟨rfl, hb2⟩
    go_wp2
    go_ret2
    exact ⟨by rw [Hs.out]; rfl, tr hb1 hb2⟩
  · obtain ⟨x, hx⟩ : ∃ x, chk1 xs = x := ⟨_, rfl⟩
    have Hs : Hid (sTotal xs = (0, x)) := by show _ = _; unfold sTotal; rw [if_neg h0, hx]
    rw [hx] at h0
    have hb' : (x != 0) = true := by simpa using h0
    have Hx := Lib.hid hx
    clear hx h0
    go_enter Try.func19, Try.ntmps19
    go_wp2_with fail
    go_call hck as e w1 ⟨rfl, hb1⟩
    rw [Hx.out]
    go_wp2
    go_ret2
    exact ⟨by rw [Hs.out]; rfl, hb1⟩

/-- What Lowest returns. -/
def sLow (xs : List Int) : List Int × Int := if chk1 xs = 0 then (low xs, 0) else ([], chk1 xs)
theorem oLowest_any (p : Option Addr) (xs : List Int) (c : Nat) (w : World) (hl : xs.length ≤ 1000000000000000) (hR : Reads w p xs) :
    Calls Try.prog 20 #[.slice p xs.length c] w fun e w' => (∃ p' c', e = .returned (.tuple #[.slice p' (sLow xs).1.length c', .int .i64 (sLow xs).2]) ∧ Reads w' p' (sLow xs).1) ∧ Below w.heap.size w w' := by
  have hck := check0 p xs c w hl hR
  by_cases h0 : chk1 xs = 0
  · obtain ⟨a1, a2, a3, a4⟩ := chk1_ok h0
    obtain ⟨g1, _, _, _⟩ := low_facts a2 a3
    have Hs : Hid (sLow xs = (low xs, 0)) := by show _ = _; unfold sLow; rw [if_pos h0]
    have He := Lib.hid h0
    clear h0
    go_enter Try.func20, Try.ntmps20
    go_wp2_with fail
    go_call hck as e w1 ⟨rfl, hb1⟩
    rw [He.out]
    go_wp2_with fail
    go_call (lowest_any p xs c w1 a1 a2 g1 (hR.below hb1 (Nat.le_refl _))) as e w2 ⟨g, rfl, hr, hb2⟩
    go_wp2
    go_ret2
    have hlen := hr.1
    refine ⟨⟨some ⟨g, 0, none⟩, xs.length, ?_, ?_⟩, tr hb1 hb2⟩
    · rw [Hs.out, low_length]; rfl
    · rw [Hs.out]; exact hr.reads
  · obtain ⟨x, hx⟩ : ∃ x, chk1 xs = x := ⟨_, rfl⟩
    have Hs : Hid (sLow xs = ([], x)) := by show _ = _; unfold sLow; rw [if_neg h0, hx]
    rw [hx] at h0
    have hb' : (x != 0) = true := by simpa using h0
    have Hx := Lib.hid hx
    clear hx h0
    go_enter Try.func20, Try.ntmps20
    go_wp2_with fail
    go_call hck as e w1 ⟨rfl, hb1⟩
    rw [Hx.out]
    go_wp2
    go_ret2
    exact ⟨⟨none, 0, by rw [Hs.out]; rfl, by rw [Hs.out]; exact Reads.nil _ _⟩, hb1⟩

/-- What Given returns. -/
def sGiven (xs os : List Int) : List Int × Int := if chkS xs os ≠ 0 then ([], chkS xs os) else if lsum (onlyL xs os) = 0 then ([], 7) else (onlyL xs os, 0)
set_option maxRecDepth 100000 in
set_option maxHeartbeats 1000000 in
theorem oGiven_any (p : Option Addr) (xs : List Int) (c : Nat) (po : Option Addr) (os : List Int) (co : Nat) (w : World) (hl : xs.length ≤ 1000000000000000) (hlo : os.length ≤ 1000000000000000) (hR : Reads w p xs) (hRo : Reads w po os) :
    Calls Try.prog 22 #[.slice p xs.length c, .slice po os.length co] w fun e w' => (∃ p' c', e = .returned (.tuple #[.slice p' (sGiven xs os).1.length c', .int .i64 (sGiven xs os).2]) ∧ Reads w' p' (sGiven xs os).1) ∧ Below w.heap.size w w' := by
  by_cases h0 : chkS xs os = 0
  · obtain ⟨k1, k2⟩ := chkS_ok h0
    obtain ⟨a1, a2, a3, a4⟩ := chk1_ok k1
    obtain ⟨o1, o2, o3, o4⟩ := onlyL_facts a2 k2
    have He := Lib.hid h0
    by_cases h1 : lsum (onlyL xs os) = 0
    · have Hs : Hid (sGiven xs os = ([], 7)) := by show _ = _; unfold sGiven; rw [if_neg (by simpa using h0), if_pos h1]
      have H1 := Lib.hid h1
      clear h0 h1
      go_enter Try.func22, Try.ntmps22
      go_wp2_with fail
      go_call (checkSome_any p xs c po os co w hl hlo hR hRo) as e w1 ⟨rfl, hb1⟩
      rw [He.out]
      go_wp2_with fail
      go_call (only_any p xs c po os co w1 a1 hlo k2 (hR.below hb1 (Nat.le_refl _)) (hRo.below hb1 (Nat.le_refl _))) as e w2 ⟨g, rfl, hr, hb2⟩
      have hrd : Reads w2 (some ⟨g, 0, none⟩) (onlyL xs os) := hr.reads
      have hT := total_any (some ⟨g, 0, none⟩) (onlyL xs os) xs.length w2 (by omega) o2 hrd
      rw [o1] at hT
      go_wp2_with fail
      go_call hT as e w3 ⟨rfl, hb3⟩
      rw [H1.out]
      go_wp2
      go_ret2
      exact ⟨⟨none, 0, by rw [Hs.out]; rfl, by rw [Hs.out]; exact Reads.nil _ _⟩, tr (tr hb1 hb2) hb3⟩
    · have Hs : Hid (sGiven xs os = (onlyL xs os, 0)) := by show _ = _; unfold sGiven; rw [if_neg (by simpa using h0), if_neg h1]
      have hz : (lsum (onlyL xs os) == 0) = false := by simpa using h1
      clear h0
      go_enter Try.func22, Try.ntmps22
      go_wp2_with fail
      go_call (checkSome_any p xs c po os co w hl hlo hR hRo) as e w1 ⟨rfl, hb1⟩
      rw [He.out]
      go_wp2_with fail
      go_call (only_any p xs c po os co w1 a1 hlo k2 (hR.below hb1 (Nat.le_refl _)) (hRo.below hb1 (Nat.le_refl _))) as e w2 ⟨g, rfl, hr, hb2⟩
      have hrd : Reads w2 (some ⟨g, 0, none⟩) (onlyL xs os) := hr.reads
      have hT := total_any (some ⟨g, 0, none⟩) (onlyL xs os) xs.length w2 (by omega) o2 hrd
      rw [o1] at hT
      go_wp2_with fail
      go_call hT as e w3 ⟨rfl, hb3⟩
      go_wp2
      go_ret2
      refine ⟨⟨some ⟨g, 0, none⟩, xs.length, ?_, ?_⟩, tr (tr hb1 hb2) hb3⟩
      · rw [Hs.out, o1]; rfl
      · rw [Hs.out]; exact hrd.below hb3 (Nat.le_refl _)
  · obtain ⟨x, hx⟩ : ∃ x, chkS xs os = x := ⟨_, rfl⟩
    have Hs : Hid (sGiven xs os = ([], x)) := by show _ = _; unfold sGiven; rw [if_pos h0, hx]
    rw [hx] at h0
    have hb' : (x != 0) = true := by simpa using h0
    have Hx := Lib.hid hx
    clear hx h0
    go_enter Try.func22, Try.ntmps22
    go_wp2_with fail
    go_call (checkSome_any p xs c po os co w hl hlo hR hRo) as e w1 ⟨rfl, hb1⟩
    rw [Hx.out]
    go_wp2
    go_ret2
    exact ⟨⟨none, 0, by rw [Hs.out]; rfl, by rw [Hs.out]; exact Reads.nil _ _⟩, hb1⟩
end Go.Proofs.Ytagodfaclohkmaa
