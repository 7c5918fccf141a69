/-
  A question (two sets, and two numbers of lines) that came in, opened.
-/
import Derived.Test.YtdfdgeaohneeaaaGreatDoorHxX
namespace Go.Proofs.YtdfdgeaohneeaaaGreatDoor
open Go Go.ChangeShapes Go.WideShapes Go.ChangeAt Go.RowKit
set_option linter.unusedVariables false

theorem cell_int {P : Program} {w : World} {r : Reach} {base : Nat} {t : TypeId} {v : Value} {k : IntKind} (ht : P.underlying t = some (.int k)) (h : Cell.okWide P w r base t v) : ∃ n, v = .int k n ∧ k.min ≤ n ∧ n ≤ k.max := by
  unfold Cell.okWide at h
  rw [ht] at h
  unfold Cell.ok at h
  rw [ht] at h
  cases v <;> simp at h
  obtain ⟨rfl, h⟩ := h
  exact ⟨_, rfl, by simpa [IntKind.has] using h⟩
set_option maxRecDepth 100000 in
theorem came_question {W : World} {v : Value} {j : Nat} (hv : Value.okWide Tryz.prog W .any j 63 v) :
    ∃ S O b0 b1, v = .agg #[.int .u64 S, .int .u64 O, .int .u8 b0, .int .u8 b1] ∧ (0 ≤ S ∧ S ≤ 18446744073709551615) ∧ (0 ≤ O ∧ O ≤ 18446744073709551615) ∧ (0 ≤ b0 ∧ b0 ≤ 255) ∧ (0 ≤ b1 ∧ b1 ≤ 255) := by
  simp only [Value.okWide, Tryz.underlying63] at hv
  obtain ⟨cs, rfl, hsz, ts, hts, _, hc⟩ := hv
  have hts2 : Tryz.prog.cellTypes Tryz.prog.depth 63 = some [35, 35, 5, 5] := by kernel_rfl
  rw [hts2] at hts
  cases hts
  have h4 : Tryz.prog.cellsOf 63 = 4 := by kernel_rfl
  rw [h4] at hsz
  obtain ⟨l⟩ := cs
  match l, hsz with
  | [a, b, c, d], _ =>
    obtain ⟨u0, e0, h0⟩ := hc 0 a rfl
    obtain ⟨u1, e1, h1⟩ := hc 1 b rfl
    obtain ⟨u2, e2, h2⟩ := hc 2 c rfl
    obtain ⟨u3, e3, h3⟩ := hc 3 d rfl
    cases e0
    cases e1
    cases e2
    cases e3
    obtain ⟨S, rfl, s0⟩ := cell_int Tryz.underlying35 h0
    obtain ⟨O, rfl, o0⟩ := cell_int Tryz.underlying35 h1
    obtain ⟨x, rfl, x0⟩ := cell_int Tryz.underlying5 h2
    obtain ⟨y, rfl, y0⟩ := cell_int Tryz.underlying5 h3
    simp [IntKind.min, IntKind.max, IntKind.signed, IntKind.bits] at s0 o0 x0 y0
    clear h0 h1 h2 h3 hc hts2 h4 hsz
    exact ⟨S, O, x, y, rfl, s0, o0, x0, y0⟩
end Go.Proofs.YtdfdgeaohneeaaaGreatDoor
