/-
  What Equal of the reference does, for every two lists; the values of the document's examples.
-/
import Derived.Test.YtnpnnfbmnlgioaaF
import Derived.Test.YtnpnnfbmnlgioaaJ
import Derived.Test.YtnpnnfbmnlgioaaQ
namespace Go.Proofs.Ytnpnnfbmnlgioaa
open Go.RowKit

/-- Whether two lists are the same. -/
def eqL (a b : List Int) : Bool := decide (a = b)
theorem eqL_len {a b : List Int} (h : a.length ≠ b.length) : eqL a b = false := by
  unfold eqL; simp; intro e; exact h (by rw [e])
theorem eqL_at {a b : List Int} {k : Nat} (h : nth a k ≠ nth b k) : eqL a b = false := by
  unfold eqL; simp; intro e; exact h (by rw [e])
theorem eqL_all {a b : List Int} (hl : a.length = b.length) (h : ∀ k, k < a.length → nth a k = nth b k) : eqL a b = true := by
  unfold eqL
  simp
  apply List.ext_getElem hl
  intro i h1 h2
  have := h i h1
  rwa [nth_eq h1, nth_eq h2] at this

set_option maxHeartbeats 1000000 in
theorem equal_any (pa : Option Addr) (a : List Int) (ca : Nat) (pb : Option Addr) (b : List Int) (cb : Nat) (w : World) (hxa : a.length ≤ 1000000000000000) (_hxb : b.length ≤ 1000000000000000) (hRa : Reads w pa a) (hRb : Reads w pb b) :
    Calls Try.prog 37 #[.slice pa a.length ca, .slice pb b.length cb] w fun e w' => e = .returned (.bool (eqL a b)) ∧ Below w.heap.size w w' := by
  by_cases hl : a.length = b.length
  · have Hl := Lib.hid hl
    have hb1 : ((a.length : Int) != (b.length : Int)) = false := by simp [hl]
    clear hl
    go_enter Try.func37, Try.ntmps37
    go_wp2
    go_loopw [5] (fun i wr => ∃ k : Nat, k ≤ a.length ∧ i = .int .i64 k ∧ Hid (∀ i, i < k → nth a i = nth b i) ∧ Below w.heap.size w wr) (fun i _ => a.length - (intOf i).toNat)
    case atStart => exact ⟨0, Nat.zero_le _, rfl, (fun i hi => by omega), Below.refl _ _⟩
    case round =>
      obtain ⟨k, hk, rfl, Hz, hb⟩ := hrel
      by_cases hlt : k < a.length
      · obtain ⟨q, o, rfl, hc1⟩ := hRa.below hb (Nat.le_refl _) k hlt
        obtain ⟨q2, o2, rfl, hc2⟩ := hRb.below hb (Nat.le_refl _) k (by have := Hl.out; omega)
        have hi1 : (k : Int) < (a.length : Int) := by omega
        have hi2 : (k : Int) < (b.length : Int) := by have := Hl.out; omega
        by_cases he : nth a k = nth b k
        · have He := Lib.hid he
          have hbe : (nth a k != nth b k) = false := by simp [he]
          have hbe2 : (nth a k == nth b k) = true := by simp [he]
          clear he
          go_wp2
          go_quiet (fail)
          go_wp2
          go_roundw
          case rel => exact ⟨k + 1, by omega, by go_num, (fun i hi => by
            by_cases e : i = k
            · subst e; exact He.out
            · exact Hz.out i (by omega)), below_drewN hb _⟩
          case measure => simp [intOf]; omega
        · have He := Lib.hid (eqL_at he)
          have hbe : (nth a k != nth b k) = true := by simp [he]
          have hbe2 : (nth a k == nth b k) = false := by simp [he]
          clear he
          go_wp2
          go_quiet (fail)
          go_wp2
          go_ret
          exact ⟨by rw [He.out]; rfl, below_drewN hb _⟩
      · have hka : k = a.length := by omega
        have He : Hid (eqL a b = true) := eqL_all Hl.out fun i hi => Hz.out i (by omega)
        go_wp2
        go_ret
        exact ⟨by rw [He.out]; rfl, hb⟩
  · have He := Lib.hid (eqL_len hl)
    have hb1 : ((a.length : Int) != (b.length : Int)) = true := by simp; omega
    have hb2 : ((a.length : Int) == (b.length : Int)) = false := by simp; omega
    clear hl
    go_enter Try.func37, Try.ntmps37
    go_wp2
    go_ret
    exact ⟨by rw [He.out]; rfl, Below.refl _ _⟩

theorem ex_of : sOf [2, 1, 1] [1, 2] = (1, 2, 0) := by decide +kernel
theorem ex_rep : sRep [1, 1] 3 = ([1, 3, 3, 1], 0) := by decide +kernel
theorem ex_mix : low (mixL (low [1, 1]) [[1, 0], [1, 2]] 2) = [2, 1] := by decide +kernel
theorem ex_apart : sApart [1, 1] [3, 1] = (1, 4, 0) := by decide +kernel
theorem ex_fair : sFair 6 4 [5, 2] = (0, 2, 0) := by decide +kernel
theorem ex_pick : sPick [2, 0, 3] 2 = (2, 0) := by decide +kernel
end Go.Proofs.Ytnpnnfbmnlgioaa
