/-
  Package shield: mothers and their numbers.
-/
import Derived.Test.YtahmhdjoaoldcaaDoorShE
import Derived.Test.YtahmhdjoaoldcaaDoorShH
import Derived.Laws.BitsLemmas
import Derived.Lib.EndianBits
namespace Go.Proofs.YtahmhdjoaoldcaaDoor
open Go Go.RowKit
set_option linter.unusedVariables false

theorem wraps_i64_62 (n : Int) (h₀ : 0 ≤ n) (h₁ : n < 2 ^ 62) : IntKind.i64.wrap n = n := by
  rw [IntWalk.i64_left]; exact IntWalk.wrap64_in _ (by omega)
theorem and_15 (x : Int) (h : 0 ≤ x) (h1 : x < 2 ^ 62) : bits .and .i64 x 15 = x % 16 :=
  bits_mask .i64 62 (by decide) wraps_i64_62 4 (by decide) x h h1
/-- The four figures of a number. -/
def nibs (n : Int) : List Int := [n / 4096 % 16, n / 256 % 16, n / 16 % 16, n % 16]
/-- The first k of them, and 0 behind. -/
def nibTo (n : Int) (k : Nat) : List Int := (nibs n).take k ++ List.replicate (4 - k) 0
/-- What Mothers returns. -/
def mothE (n : Int) : Int := if outB 0 65535 n = true then 3 else 0
def mothV (n : Int) : List Int := if outB 0 65535 n = true then [0, 0, 0, 0] else nibs n
theorem mothV_len (n : Int) : (mothV n).length = 4 := by unfold mothV; split <;> rfl
end Go.Proofs.YtahmhdjoaoldcaaDoor
