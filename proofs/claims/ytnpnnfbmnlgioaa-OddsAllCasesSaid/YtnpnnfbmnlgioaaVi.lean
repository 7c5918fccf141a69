/-
  What Outcomes of the reference returns.
  What chance and Lowest of the reference return.
  What Given of the reference returns; the sum over a list of outcomes.
  What Of of the reference returns.
-/
import Derived.Test.YtnpnnfbmnlgioaaVe
import Derived.Test.YtnpnnfbmnlgioaaT
import Derived.Laws.AppendOwn
import Derived.OwnWalk
namespace Go.Proofs.Ytnpnnfbmnlgioaa
open Go.RowKit

end Go.Proofs.Ytnpnnfbmnlgioaa

namespace Go.Proofs.Ytnpnnfbmnlgioaa
open Go.RowKit

theorem upto_all (f : Int → Int) (xs : List Int) : upto (fun j => f (nth xs j)) xs.length = xs.map f := by
  unfold upto; exact fill_map f xs

end Go.Proofs.Ytnpnnfbmnlgioaa

namespace Go.Proofs.Ytnpnnfbmnlgioaa
open Go.RowKit

theorem asc_lt {n : Nat} {os : List Int} (ha : asc n os = true) {i k : Nat} (hik : i < k) (hk : k < os.length) : nth os i < nth os k := by
  induction k with
  | zero => omega
  | succ k ih =>
    have h1 := (asc_at ha hk).1
    rw [prevO_succ] at h1
    by_cases e : i = k
    · subst e; exact h1
    · have := ih (by omega) (by omega); omega
theorem onlyTo_zero {xs os : List Int} (ha : asc xs.length os = true) {k : Nat} (hk : k ≤ os.length) {j : Nat} (hj : ∀ i, i < k → (nth os i).toNat ≠ j) : nth (onlyTo xs os k) j = 0 := by
  induction k with
  | zero => simp only [onlyTo]; rw [nth_replicate]; split <;> rfl
  | succ k ih =>
    simp only [onlyTo]
    have h1 := asc_at ha (show k < os.length by omega)
    have h2 := asc_nonneg ha (show k < os.length by omega)
    rw [nth_set (by rw [onlyTo_length]; omega), if_neg (hj k (by omega))]
    exact ih (by omega) (fun i hi => hj i (by omega))
theorem lsum_onlyTo {xs os : List Int} (ha : asc xs.length os = true) {k : Nat} (hk : k < os.length) : lsum (onlyTo xs os (k + 1)) = lsum (onlyTo xs os k) + nth xs (nth os k).toNat := by
  have h1 := asc_at ha hk
  have h2 := asc_nonneg ha hk
  have hz := onlyTo_zero ha (show k ≤ os.length by omega) (j := (nth os k).toNat) (fun i hi => by
    have := asc_lt ha hi hk
    have := asc_nonneg ha (show i < os.length by omega)
    omega)
  simp only [onlyTo]
  rw [lsum_set (by rw [onlyTo_length]; omega), hz]
  omega

end Go.Proofs.Ytnpnnfbmnlgioaa

namespace Go.Proofs.Ytnpnnfbmnlgioaa
open Go.RowKit

end Go.Proofs.Ytnpnnfbmnlgioaa

