/-
  What Same of package odds, and same of the statements, return: for any two lists.
-/
import Derived.Test.YtnpnnfbmnlgioaaVd
import Derived.Test.YtnpnnfbmnlgioaaR
import Derived.Test.YtnpnnfbmnlgioaaT
namespace Go.Proofs.Ytnpnnfbmnlgioaa
open Go.RowKit

/-- What Same returns. -/
def sSame (a b : List Int) : Bool × Int := if chkL [a, b] = 0 then (eqL (low a) (low b), 0) else (false, chkL [a, b])

theorem beq_eqL (a b : List Int) : (a == b) = eqL a b := by unfold eqL; by_cases h : a = b <;> simp [h]

theorem equalS (g1 g2 : Nat) (x y : List Int) (n m c d : Nat) (hn : x.length = n) (hm : y.length = m) (w : World) (hx : n ≤ 4096) (hy : m ≤ 4096) (hRx : Reads w (some ⟨g1, 0, none⟩) x) (hRy : Reads w (some ⟨g2, 0, none⟩) y) :
    Calls Try.prog 68 #[.slice (some ⟨g1, 0, none⟩) n c, .slice (some ⟨g2, 0, none⟩) m d] w fun e w' => e = .returned (.bool (eqL x y)) ∧ Below w.heap.size w w' := by
  subst hn hm
  refine (Try.slices_Equal_int g1 0 x.length c g2 0 y.length d x y w (Nat.le_refl _) (Nat.le_refl _) (by omega) (by omega) ?_ ?_).mono ?_
  · intro j hj
    have := hRx.at0 hj
    rwa [Nat.zero_add]
  · intro j hj
    have := hRy.at0 hj
    rwa [Nat.zero_add]
  · rintro e w' ⟨rfl, q, rfl⟩
    rw [List.take_length, List.take_length, beq_eqL]
    exact ⟨rfl, below_drewN (Below.refl _ _) _⟩

set_option maxRecDepth 100000 in
set_option maxHeartbeats 2000000 in
theorem oSame_any (pa : Option Addr) (a : List Int) (ca : Nat) (pb : Option Addr) (b : List Int) (cb : Nat) (w : World) (hxa : a.length ≤ 1000000000000000) (hxb : b.length ≤ 1000000000000000) (hRa : Reads w pa a) (hRb : Reads w pb b) :
    Calls Try.prog 50 #[.slice pa a.length ca, .slice pb b.length cb] w fun e w' => e = .returned (.tuple #[.bool (sSame a b).1, .int .i64 (sSame a b).2]) ∧ Below w.heap.size w w' := by
  have hck := fun (W : World) q (h0 : W.cell? ⟨q, 0, none⟩ = some (.slice pa a.length ca)) (h1 : W.cell? ⟨q, 1, none⟩ = some (.slice pb b.length cb)) (hA : Reads W pa a) (hB : Reads W pb b) => check2 pa a ca pb b cb q W (by omega) (by omega) h0 h1 hA hB
  have hB0 := below1 w (.cells #[.slice pa a.length ca, .slice pb b.length cb] 34)
  by_cases h0 : chkL [a, b] = 0
  · obtain ⟨k1, k2⟩ := chk2_ok h0
    obtain ⟨a1, a2, a3, a4⟩ := chk1_ok k1
    obtain ⟨b1, b2, b3, b4⟩ := chk1_ok k2
    obtain ⟨x1, _, _, _⟩ := low_facts a2 a3
    obtain ⟨y1, _, _, _⟩ := low_facts b2 b3
    have Hs : Hid (sSame a b = (eqL (low a) (low b), 0)) := by show _ = _; unfold sSame; rw [if_pos h0]
    have He := Lib.hid h0
    have hla := low_length a
    have hlb := low_length b
    clear h0 k1 k2
    go_enter Try.func50, Try.ntmps50
    go_wp2_with fail
    go_call (hck _ w.heap.size (by go_simp) (by go_simp) (hRa.below hB0 (Nat.le_refl _)) (hRb.below hB0 (Nat.le_refl _))) as e w1 ⟨rfl, hb1⟩
    rw [He.out]
    have hB1 := hB0.trans (hb1.mono (by simp))
    clear hB0 hb1
    go_wp2_with fail
    go_call (lowest_any pa a ca w1 a1 a2 x1 (hRa.below hB1 (Nat.le_refl _))) as e w2 ⟨g, rfl, hrx, hb2⟩
    have hB2 := tr hB1 hb2
    go_wp2_with fail
    go_call (lowest_any pb b cb w2 b1 b2 y1 (hRb.below hB2 (Nat.le_refl _))) as e w3 ⟨h, rfl, hry, hb3⟩
    have hB3 := tr hB2 hb3
    go_wp2_with fail
    go_call (equalS g h (low a) (low b) _ _ _ _ hla hlb w3 (by omega) (by omega) (hrx.reads.below hb3 (Nat.le_refl _)) hry.reads) as e w4 ⟨rfl, hb4⟩
    go_wp2
    go_ret2
    exact ⟨by rw [Hs.out]; rfl, tr hB3 hb4⟩
  · obtain ⟨x, hx⟩ : ∃ x, chkL [a, b] = x := ⟨_, rfl⟩
    have Hs : Hid (sSame a b = (false, x)) := by show _ = _; unfold sSame; rw [if_neg h0, hx]
    rw [hx] at h0
    have hb' : (x != 0) = true := by simpa using h0
    have Hx := Lib.hid hx
    clear hx h0
    go_enter Try.func50, Try.ntmps50
    go_wp2_with fail
    go_call (hck _ w.heap.size (by go_simp) (by go_simp) (hRa.below hB0 (Nat.le_refl _)) (hRb.below hB0 (Nat.le_refl _))) as e w1 ⟨rfl, hb1⟩
    rw [Hx.out]
    have hB1 := hB0.trans (hb1.mono (by simp))
    clear hB0 hb1
    go_wp2
    go_ret2
    exact ⟨by rw [Hs.out]; rfl, hB1⟩
end Go.Proofs.Ytnpnnfbmnlgioaa
