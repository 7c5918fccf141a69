/-
  HexagramChances: what alike needs of a list and of what it folds.
-/
import Derived.Test.YtdfdgeaohneeaaaGreatDoorHxZc
import Derived.Test.YtdfdgeaohneeaaaGreatDoorHxZd
import Derived.Test.YtdfdgeaohneeaaaGreatDoorHxWx
import Derived.Test.YtdfdgeaohneeaaaGreatDoorHxWm
namespace Go.Proofs.YtdfdgeaohneeaaaGreatDoor
open Go Go.RowKit
set_option linter.unusedVariables false

theorem psum_up0 {L : List Int} (h : ∀ k, 0 ≤ nth L k) (d k : Nat) (hk : k + d ≤ L.length) : psum L k ≤ psum L (k + d) := by
  induction d with
  | zero => exact Int.le_refl _
  | succ d ih =>
    rw [← Nat.add_assoc, psum_succ (by omega)]
    have := h (k + d)
    have := ih (by omega)
    omega
theorem nth_le_sum {L : List Int} (h : ∀ k, 0 ≤ nth L k) (k : Nat) (hk : k < L.length) : nth L k ≤ lsum L := by
  have a := psum_up0 h k 0 (by omega)
  have b := psum_up0 h (L.length - (k + 1)) (k + 1) (by omega)
  rw [psum_zero, Nat.zero_add] at a
  rw [show k + 1 + (L.length - (k + 1)) = L.length by omega, psum_all, psum_succ hk] at b
  omega
/-- What alike needs. -/
structure Like (K S : List Int) (all : Int) (n : Nat) (s q : Int) : Prop where
  len : K.length = n
  bd : ∀ k, 0 ≤ nth K k ∧ nth K k ≤ 995686217814016
  sum : lsum K = s
  s1 : 1 ≤ s
  s2 : s ≤ 995686217814016
  all_ : all = s * q
  q0 : 0 ≤ q
  q1 : q ≤ 995686217814016
  eq : ∀ k, k < n → nth S k = nth K k * q
theorem Fold.like {P L S : List Int} {all : Int} (h : Fold P L S all) (h1 : 1 ≤ lsum L) (h2 : lsum L ≤ 995686217814016) (ha : all ≤ 995686217814016) : ∃ s q, Like (low L) S all L.length s q := by
  obtain ⟨q, q1, e, s1, s2, hS⟩ := h.alike h1
  refine ⟨lsum (low L), q, low_len2 L, fun k => ?_, rfl, s1, by omega, e, by omega, ?_, hS⟩
  · have hp := low_pos h.gl h.pos k
    by_cases hk : k < L.length
    · have := nth_le_sum h.pos k hk
      omega
    · have : nth (low L) k = 0 := by
        unfold nth
        rw [List.getD_eq_getElem?_getD, List.getElem?_eq_none (by rw [low_len2]; omega)]
        rfl
      omega
  · have : 1 * q ≤ lsum (low L) * q := Int.mul_le_mul_of_nonneg_right s1 (by omega)
    omega
theorem alike_of {K S : List Int} {all : Int} {n : Nat} {s q : Int} (h : Like K S all n s q) (hn : n ≤ 64) (k : Nat) (hk : k < n) (p : Option Addr) (w : World) (hR : Reads w p K) (b : 0 ≤ nth S k ∧ nth S k ≤ 4100000000000000000) :
    Calls Tryz.prog 27 #[.int .i64 (nth K k), .int .i64 (nth S k), .slice p n n, .int .i64 all] w fun e w' => e = .returned (.bool true) ∧ w' = w :=
  (alike_ok p K n n w (nth K k) (nth S k) all q s (Lib.hid h.len) hn hR (Lib.hid h.bd) (Lib.hid h.sum) h.s1 h.s2 (Lib.hid h.all_) h.q0 h.q1 (Lib.hid (h.eq k hk)) b.1 b.2).mono fun e w' ⟨h1, h2⟩ => ⟨h1, h2.symm⟩
end Go.Proofs.YtdfdgeaohneeaaaGreatDoor
