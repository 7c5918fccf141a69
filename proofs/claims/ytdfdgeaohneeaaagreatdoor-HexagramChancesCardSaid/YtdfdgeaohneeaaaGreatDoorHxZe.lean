/-
  HexagramChances: the ten weights; the map's keys, lists of how many lines of each kind, and what it holds.
-/
import Derived.Test.YtdfdgeaohneeaaaGreatDoorHxZc
import Derived.Test.YtdfdgeaohneeaaaGreatDoorHxX
import Derived.WideKeyPair
import Derived.DeepKeys4
import Derived.Maps.OwnSet
namespace Go.Proofs.YtdfdgeaohneeaaaGreatDoor
open Go Go.RowKit
set_option linter.unusedVariables false
set_option linter.unusedSimpArgs false

def tenTo (bs : List Int) : Nat → List Int
  | 0 => List.replicate 10 0
  | k + 1 => (tenTo bs k).set (6 + k) (nth bs k % 80)
theorem tenTo_length (bs : List Int) (k : Nat) : (tenTo bs k).length = 10 := by
  induction k with
  | zero => rfl
  | succ k ih => unfold tenTo; rw [List.length_set, ih]
def equalW (W : List Int) : List Int := (W.set 9 (nth W 6)).set 8 (nth W 7)
def tenV (bs : List Int) (e : Bool) : List Int := if e = true then equalW (tenTo bs 4) else tenTo bs 4
structure Ten (W : List Int) : Prop where
  len : W.length = 10
  bd : ∀ k, 0 ≤ nth W k ∧ nth W k ≤ 79
  zero : ∀ k, k < 6 → nth W k = 0
theorem ten_to (bs : List Int) (k : Nat) (hk : k ≤ 4) : Ten (tenTo bs k) := by
  induction k with
  | zero =>
    have hz : ∀ k, nth (List.replicate 10 (0 : Int)) k = 0 := fun k => by
      unfold nth
      rw [List.getD_eq_getElem?_getD, List.getElem?_replicate]
      split <;> rfl
    exact ⟨rfl, fun k => by unfold tenTo; rw [hz]; omega, fun k _ => by unfold tenTo; rw [hz]⟩
  | succ k ih =>
    obtain ⟨a, b, c⟩ := ih (by omega)
    refine ⟨tenTo_length .., fun j => ?_, fun j hj => ?_⟩
    · unfold tenTo
      rw [nth_set (by omega)]
      have := b j
      have := Int.emod_nonneg (nth bs k) (show (80 : Int) ≠ 0 by omega)
      have := Int.emod_lt_of_pos (nth bs k) (show (0 : Int) < 80 by omega)
      split <;> omega
    · unfold tenTo
      rw [nth_set (by omega), if_neg (by omega)]
      exact c j hj
theorem equalW_nth {W : List Int} (h : W.length = 10) (j : Nat) : nth (equalW W) j = if j = 8 then nth W 7 else if j = 9 then nth W 6 else nth W j := by
  unfold equalW
  rw [nth_set (by rw [List.length_set]; omega), nth_set (by omega)]
  by_cases h8 : 8 = j
  · subst h8; rw [if_pos rfl, if_pos rfl]
  · by_cases h9 : 9 = j
    · subst h9; simp
    · rw [if_neg h8, if_neg h9, if_neg (by omega), if_neg (by omega)]
theorem ten_equal {W : List Int} (h : Ten W) : Ten (equalW W) := by
  refine ⟨by unfold equalW; simp [h.len], fun k => ?_, fun k hk => ?_⟩
  · rw [equalW_nth h.len]
    have := h.bd 6; have := h.bd 7; have := h.bd k
    split
    · omega
    · split <;> omega
  · rw [equalW_nth h.len, if_neg (by omega), if_neg (by omega)]
    exact h.zero k hk
theorem ten_v (bs : List Int) (e : Bool) : Ten (tenV bs e) := by
  unfold tenV
  split
  · exact ten_equal (ten_to bs 4 (Nat.le_refl _))
  · exact ten_to bs 4 (Nat.le_refl _)
theorem ten_same (bs : List Int) : nth (tenV bs true) 9 = nth (tenV bs true) 6 ∧ nth (tenV bs true) 8 = nth (tenV bs true) 7 := by
  have h := tenTo_length bs 4
  unfold tenV
  rw [if_pos rfl, equalW_nth h, equalW_nth h, equalW_nth h, equalW_nth h]
  exact ⟨rfl, rfl⟩
theorem ten_lines {W : List Int} (h : Ten W) : (linesS W = 0 → linesE W = 2) ∧ (1 ≤ linesS W → linesE W = 0) ∧ 0 ≤ linesS W ∧ linesS W ≤ 316 := by
  have g := lines_good (n := 10) h.len (by omega) (by omega) (fun k hk => by
    have a := h.bd k
    unfold badB
    by_cases h6 : k < 6
    · rw [h.zero k h6]; rfl
    · have e1 : ¬ (nth W k < 0) := by omega
      have e2 : ¬ 9 < k := by omega
      simp [e1, e2, h6])
  have z0 := h.zero 0 (by omega)
  have z1 := h.zero 1 (by omega)
  have z2 := h.zero 2 (by omega)
  have z3 := h.zero 3 (by omega)
  have z4 := h.zero 4 (by omega)
  have z5 := h.zero 5 (by omega)
  have b6 := h.bd 6
  have b7 := h.bd 7
  have b8 := h.bd 8
  have b9 := h.bd 9
  have hc : capTo W 10 = linesS W := by
    simp only [capTo, linesS, z0, z1, z2, z3, z4, z5]
    omega
  rw [hc] at g
  have hs : 0 ≤ linesS W ∧ linesS W ≤ 316 := by unfold linesS; omega
  exact ⟨g.2.1, fun h1 => g.2.2.1 h1 hs.2, hs⟩

/-- The key of a list of four numbers. -/
def kl4 (m : List Int) : Lit := .string (keyBytes (m.map (Lit.int .i64)))
theorem key4 : Maps.Keyed Tryz.prog 57 := Maps.Keyed.of_law (deep_law_laid hx_laidOut (m := 2) (by omega) (of_decide_eq_true (by kernel_rfl)) (by kernel_rfl) (by rw [Tryz.underlying57]))
theorem arr4 : WideMaps.ArrKey Tryz.prog 57 3 4 := ⟨Tryz.underlying57, by kernel_rfl, by kernel_rfl, by kernel_rfl⟩
theorem size_types : ∃ m, Tryz.prog.types.size = m + 1 := ⟨Tryz.prog.types.size - 1, by have : 0 < Tryz.prog.types.size := of_decide_eq_true (by kernel_rfl); omega⟩
theorem key4_abcd {a b c d : Int} (wa : (Lit.int .i64 a).wf = true) (wb : (Lit.int .i64 b).wf = true) (wc : (Lit.int .i64 c).wf = true) (wd : (Lit.int .i64 d).wf = true) :
    keyOf Tryz.prog 57 (.agg #[.int .i64 a, .int .i64 b, .int .i64 c, .int .i64 d]) = some (.string (keyBytes [.int .i64 a, .int .i64 b, .int .i64 c, .int .i64 d])) := by
  have hkt := arr4.keyType size_types
  obtain ⟨m, hm⟩ := size_types
  have A := arr4
  have he := Tryz.underlying3
  unfold keyOf
  simp only [A.hu]
  rw [if_pos (by simp [hkt, Value.formed, A.hu, A.size]), hm]
  unfold Program.keyLits
  simp only [A.hu, Value.cells]
  rw [if_pos (by rw [A.size]; rfl), show List.range 4 = [0, 1, 2, 3] from rfl, List.mapM_cons, List.mapM_cons, List.mapM_cons, List.mapM_cons, List.mapM_nil]
  simp [A.one, Program.keyLits, he, wa, wb, wc, wd]
/-- Four small numbers. -/
def Four (m : List Int) : Prop := m.length = 4 ∧ ∀ k, 0 ≤ nth m k ∧ nth m k ≤ 6
theorem four_cases {m : List Int} (h : Four m) : ∃ a b c d : Int, m = [a, b, c, d] ∧ (0 ≤ a ∧ a ≤ 6) ∧ (0 ≤ b ∧ b ≤ 6) ∧ (0 ≤ c ∧ c ≤ 6) ∧ (0 ≤ d ∧ d ≤ 6) := by
  obtain ⟨hl, hb⟩ := h
  match m, hl with
  | [a, b, c, d], _ => exact ⟨a, b, c, d, rfl, hb 0, hb 1, hb 2, hb 3⟩
theorem key4_mk {m : List Int} (h : Four m) : keyOf Tryz.prog 57 (.agg (arr m)) = some (kl4 m) := by
  obtain ⟨a, b, c, d, rfl, ha, hb, hc, hd⟩ := four_cases h
  exact key4_abcd (WalkArith.wf_i64 (by omega)) (WalkArith.wf_i64 (by omega)) (WalkArith.wf_i64 (by omega)) (WalkArith.wf_i64 (by omega))
theorem kl4_inj {m m' : List Int} (h : Four m) (h' : Four m') (e : kl4 m = kl4 m') : m = m' := by
  have k1 := key4_mk h
  have k2 := key4_mk h'
  rw [← e] at k2
  have := key4.inj k1 k2
  obtain ⟨a, b, c, d, rfl, _⟩ := four_cases h
  obtain ⟨a', b', c', d', rfl, _⟩ := four_cases h'
  simp [arr] at this
  obtain ⟨rfl, rfl, rfl, rfl⟩ := this
  rfl
/-- What the map holds is the weight of the lines. -/
def Kinds (f : List Int → Int) (D : DataW Value) : Prop := ∀ m, Four m → Maps.has D (kl4 m) = true → D.atKey (kl4 m) (.lit (.int .i64 0)) = .lit (.int .i64 (f m))
theorem kinds_none (f : List Int → Int) : Kinds f (.map []) := fun m _ h => by simp [Maps.has_eq] at h
theorem kinds_put {f : List Int → Int} {D : DataW Value} (h : Kinds f D) (hD : Maps.IsMap D) {m : List Int} (hm : Four m) : Kinds f (D.put (kl4 m) (.lit (.int .i64 (f m)))) := fun m' hm' hh => by
  by_cases e : kl4 m' = kl4 m
  · rw [kl4_inj hm' hm e, Maps.atKey_put_same hD (show WideAt.IsKeyLit (kl4 m) from trivial)]
  · rw [Maps.atKey_put_other e]
    rw [Maps.has_put_other e] at hh
    exact h m' hm' hh
theorem four_many (x y : Int) (k : Nat) (hk : k ≤ 6) : Four (manyTo x y k) := ⟨many_len x y k, fun j => by have := many_bd x y k j; omega⟩
end Go.Proofs.YtdfdgeaohneeaaaGreatDoor
