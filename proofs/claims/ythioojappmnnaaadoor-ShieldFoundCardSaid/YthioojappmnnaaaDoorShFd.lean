/-
  Plain facts on copies of charts: two charts differ in at least six marks; so the chart of which at most two marks were changed is found alone, and with one to five changed marks it is no chart.
-/
import Derived.Test.YthioojappmnnaaaDoorShDf
import Derived.Test.YthioojappmnnaaaDoorShMd
namespace Go.Proofs.YthioojappmnnaaaDoor
open Go Go.RowKit
set_option linter.unusedVariables false

theorem ones_tri {x y z : Int} (hx : Fig x) (hy : Fig y) (hz : Fig z) : onesF (xorF x z) ≤ onesF (xorF x y) + onesF (xorF y z) := by
  refine figs1 (P := fun x => onesF (xorF x z) ≤ onesF (xorF x y) + onesF (xorF y z)) (fun i => ?_) hx
  refine figs1 (P := fun y => onesF (xorF (i.val : Int) z) ≤ onesF (xorF (i.val : Int) y) + onesF (xorF y z)) (fun j => ?_) hy
  refine figs1 (P := fun z => onesF (xorF (i.val : Int) z) ≤ onesF (xorF (i.val : Int) (j.val : Int)) + onesF (xorF (j.val : Int) z)) (fun k => ?_) hz
  revert i j k; decide +kernel
theorem ones_nil {x y : Int} (hx : Fig x) (hy : Fig y) (h : onesF (xorF x y) ≤ 0) : x = y := by
  revert h
  refine figs1 (P := fun x => onesF (xorF x y) ≤ 0 → x = y) (fun i => ?_) hx
  refine figs1 (P := fun y => onesF (xorF (i.val : Int) y) ≤ 0 → (i.val : Int) = y) (fun j => ?_) hy
  revert i j; decide +kernel
theorem ones_self {x : Int} (hx : Fig x) : onesF (xorF x x) = 0 := by
  refine figs1 (P := fun x => onesF (xorF x x) = 0) (fun i => ?_) hx
  revert i; decide +kernel
theorem difTo_tri {s t c : List Int} (hs : Figs s) (ht : Figs t) (hc : Figs c) {k : Nat} (hk : k ≤ 16) : difTo s t k ≤ difTo s c k + difTo c t k := by
  induction k with
  | zero => simp [difTo]
  | succ k ih =>
    have := ih (by omega)
    have := ones_tri (hs k (by omega)) (hc k (by omega)) (ht k (by omega))
    simp only [difTo]
    omega
theorem difTo_comm {s t : List Int} (hs : Figs s) (ht : Figs t) {k : Nat} (hk : k ≤ 16) : difTo s t k = difTo t s k := by
  induction k with
  | zero => rfl
  | succ k ih => simp only [difTo]; rw [ih (by omega), xor_comm _ _ (hs k (by omega)) (ht k (by omega))]
theorem difTo_nil {s t : List Int} (hs : Figs s) (ht : Figs t) {k : Nat} (hk : k ≤ 16) (h : difTo s t k ≤ 0) : ∀ j, j < k → nth s j = nth t j := by
  induction k with
  | zero => intro j hj; omega
  | succ k ih =>
    simp only [difTo] at h
    have h1 := (difTo_bd s t k).1
    have h2 := (onesF_bd (xorF (nth s k) (nth t k))).1
    intro j hj
    by_cases e : j = k
    · subst e; exact ones_nil (hs _ (by omega)) (ht _ (by omega)) (by omega)
    · exact ih (by omega) (by omega) j (by omega)
theorem difTo_eq {s t : List Int} (hs : Figs s) {k : Nat} (hk : k ≤ 16) (h : ∀ j, j < k → nth s j = nth t j) : difTo s t k = 0 := by
  induction k with
  | zero => rfl
  | succ k ih => simp only [difTo]; rw [ih (by omega) (fun j hj => h j (by omega)), ← h k (by omega), ones_self (hs k (by omega))]; rfl
theorem list_same {s t : List Int} (hs : s.length = 16) (ht : t.length = 16) (h : ∀ j, j < 16 → nth s j = nth t j) : s = t := by
  refine List.ext_getElem (by omega) fun i h1 h2 => ?_
  have := h i (by omega)
  rwa [nth_eq h1, nth_eq h2] at this
/-- One mark changed at a place. -/
theorem difTo_set {B : List Int} (hB : B.length = 16) (hf : Figs B) {p : Nat} (hp : p < 16) {v : Int} (hv : Fig v) {k : Nat} (hk : k ≤ 16) : difTo (B.set p v) B k = if p < k then onesF (xorF v (nth B p)) else 0 := by
  induction k with
  | zero => simp [difTo]
  | succ k ih =>
    simp only [difTo]
    rw [ih (by omega), nth_set (by omega)]
    by_cases e : k = p
    · subst e; rw [if_pos rfl, if_neg (by omega), if_pos (by omega)]; omega
    · rw [if_neg (show ¬ p = k by omega), ones_self (hf k (by omega))]
      by_cases h : p < k
      · rw [if_pos h, if_pos (by omega)]; omega
      · rw [if_neg h, if_neg (by omega)]; rfl
theorem xor_mark {x : Int} (hx : Fig x) : ∀ l : Fin 4, Fig (xorF x (2 ^ l.val)) ∧ onesF (xorF (xorF x (2 ^ l.val)) x) = 1 := by
  refine figs1 (P := fun x => ∀ l : Fin 4, Fig (xorF x (2 ^ l.val)) ∧ onesF (xorF (xorF x (2 ^ l.val)) x) = 1) (fun i => ?_) hx
  revert i; unfold Fig; decide +kernel
theorem mark_more {B S : List Int} (hB : B.length = 16) (hf : Figs B) (hS : Figs S) {p l : Nat} (hp : p < 16) (hl : l < 4) :
    Figs (B.set p (xorF (nth B p) (2 ^ l))) ∧ difTo (B.set p (xorF (nth B p) (2 ^ l))) S 16 ≤ difTo B S 16 + 1 := by
  have hm := xor_mark (hf p hp) ⟨l, hl⟩
  have hF : Figs (B.set p (xorF (nth B p) (2 ^ l))) := Figs.set hf hB hp hm.1
  refine ⟨hF, ?_⟩
  have h1 := difTo_tri hF hS hf (Nat.le_refl 16)
  rw [difTo_set hB hf hp hm.1 (Nat.le_refl 16), if_pos hp] at h1
  have h2 := hm.2
  omega

theorem xor_four {a b c d : Int} (ha : Fig a) (hb : Fig b) (hc : Fig c) (hd : Fig d) : xorF (xorF a c) (xorF b d) = xorF (xorF a b) (xorF c d) := by
  rw [xor_assoc _ _ _ ha hc (xorF_fig hb hd), ← xor_assoc _ _ _ hc hb hd, xor_comm _ _ hc hb, xor_assoc _ _ _ hb hc hd, ← xor_assoc _ _ _ ha hb (xorF_fig hc hd)]
theorem xor_fig4 : ∀ a b c d e f g h : Bool, xorF (fig4 a b c d) (fig4 e f g h) = fig4 (a != e) (b != f) (c != g) (d != h) := by decide +kernel
/-- What two charts differ in is a chart. -/
def eL (S T : List Int) : List Int := [xorF (nth S 0) (nth T 0), xorF (nth S 1) (nth T 1), xorF (nth S 2) (nth T 2), xorF (nth S 3) (nth T 3)]
theorem eL_fig {S T : List Int} (hS : Figs S) (hT : Figs T) : ∀ k, k < 4 → Fig (nth (eL S T) k) := fun k hk => by
  have e : k = 0 ∨ k = 1 ∨ k = 2 ∨ k = 3 := by omega
  rcases e with rfl | rfl | rfl | rfl
  · exact xorF_fig (hS 0 (by omega)) (hT 0 (by omega))
  · exact xorF_fig (hS 1 (by omega)) (hT 1 (by omega))
  · exact xorF_fig (hS 2 (by omega)) (hT 2 (by omega))
  · exact xorF_fig (hS 3 (by omega)) (hT 3 (by omega))
theorem dif_place0 {S T D : List Int} (cS : IsChart S) (cT : IsChart T) (cD : IsChart D) (d0 : nth D 0 = xorF (nth S 0) (nth T 0)) (d1 : nth D 1 = xorF (nth S 1) (nth T 1)) (d2 : nth D 2 = xorF (nth S 2) (nth T 2)) (d3 : nth D 3 = xorF (nth S 3) (nth T 3)) :
    ∀ k, k < 16 → nth D k = xorF (nth S k) (nth T k) := by
  have fS := fun k (hk : k < 16) => cS.figs k hk
  have fT := fun k (hk : k < 16) => cT.figs k hk
  have low : ∀ j, j < 4 → nth D (4 + j) = xorF (nth S (4 + j)) (nth T (4 + j)) := fun j hj => by
    rw [cD.low j hj, cS.low j hj, cT.low j hj, xor_fig4, d0, d1, d2, d3]
    have q := fun x y (hx : Fig x) (hy : Fig y) => xor_bit x y (j : Int) hx hy (by omega) (by omega)
    rw [q _ _ (fS 0 (by omega)) (fT 0 (by omega)), q _ _ (fS 1 (by omega)) (fT 1 (by omega)), q _ _ (fS 2 (by omega)) (fT 2 (by omega)), q _ _ (fS 3 (by omega)) (fT 3 (by omega))]
  have d4 := low 0 (by omega); have d5 := low 1 (by omega); have d6 := low 2 (by omega); have d7 := low 3 (by omega)
  simp only [Nat.reduceAdd] at d4 d5 d6 d7
  have d8 : nth D 8 = xorF (nth S 8) (nth T 8) := by
    rw [cD.s8, d0, d1, cS.s8, cT.s8]; exact xor_four (fS 0 (by omega)) (fS 1 (by omega)) (fT 0 (by omega)) (fT 1 (by omega))
  have d9 : nth D 9 = xorF (nth S 9) (nth T 9) := by
    rw [cD.s9, d2, d3, cS.s9, cT.s9]; exact xor_four (fS 2 (by omega)) (fS 3 (by omega)) (fT 2 (by omega)) (fT 3 (by omega))
  have d10 : nth D 10 = xorF (nth S 10) (nth T 10) := by
    rw [cD.s10, d4, d5, cS.s10, cT.s10]; exact xor_four (fS 4 (by omega)) (fS 5 (by omega)) (fT 4 (by omega)) (fT 5 (by omega))
  have d11 : nth D 11 = xorF (nth S 11) (nth T 11) := by
    rw [cD.s11, d6, d7, cS.s11, cT.s11]; exact xor_four (fS 6 (by omega)) (fS 7 (by omega)) (fT 6 (by omega)) (fT 7 (by omega))
  have d12 : nth D 12 = xorF (nth S 12) (nth T 12) := by
    rw [cD.s12, d8, d9, cS.s12, cT.s12]; exact xor_four (fS 8 (by omega)) (fS 9 (by omega)) (fT 8 (by omega)) (fT 9 (by omega))
  have d13 : nth D 13 = xorF (nth S 13) (nth T 13) := by
    rw [cD.s13, d10, d11, cS.s13, cT.s13]; exact xor_four (fS 10 (by omega)) (fS 11 (by omega)) (fT 10 (by omega)) (fT 11 (by omega))
  have d14 : nth D 14 = xorF (nth S 14) (nth T 14) := by
    rw [cD.s14, d12, d13, cS.s14, cT.s14]; exact xor_four (fS 12 (by omega)) (fS 13 (by omega)) (fT 12 (by omega)) (fT 13 (by omega))
  have d15 : nth D 15 = xorF (nth S 15) (nth T 15) := by
    rw [cD.s15, d14, d0, cS.s15, cT.s15]; exact xor_four (fS 14 (by omega)) (fS 0 (by omega)) (fT 14 (by omega)) (fT 0 (by omega))
  intro k hk
  have e : k = 0 ∨ k = 1 ∨ k = 2 ∨ k = 3 ∨ k = 4 ∨ k = 5 ∨ k = 6 ∨ k = 7 ∨ k = 8 ∨ k = 9 ∨ k = 10 ∨ k = 11 ∨ k = 12 ∨ k = 13 ∨ k = 14 ∨ k = 15 := by omega
  rcases e with rfl | rfl | rfl | rfl | rfl | rfl | rfl | rfl | rfl | rfl | rfl | rfl | rfl | rfl | rfl | rfl <;> assumption
theorem dif_place {S T : List Int} (cS : IsChart S) (cT : IsChart T) : ∀ k, k < 16 → nth (dP (eL S T) 16) k = xorF (nth S k) (nth T k) := by
  have hl : (eL S T).length = 4 := rfl
  have hm := fun j (hj : j < 4) => dP_moth (eL S T) hl hj
  exact dif_place0 cS cT (isChart hl (eL_fig cS.figs cT.figs)) (hm 0 (by omega)) (hm 1 (by omega)) (hm 2 (by omega)) (hm 3 (by omega))
/-- How many marks of single lines a chart has, at its first places. -/
def wTo (D : List Int) : Nat → Int
  | 0 => 0
  | k + 1 => wTo D k + onesF (nth D k)
theorem wTo_mono (D : List Int) {j k : Nat} (h : j ≤ k) : wTo D j ≤ wTo D k := by
  induction k with
  | zero => obtain rfl : j = 0 := by omega
            exact Int.le_refl _
  | succ k ih =>
    by_cases e : j = k + 1
    · subst e; exact Int.le_refl _
    · have := ih (by omega)
      have := (onesF_bd (nth D k)).1
      simp only [wTo]; omega
theorem wTo_dif {S T : List Int} (cS : IsChart S) (cT : IsChart T) {k : Nat} (hk : k ≤ 16) : wTo (dP (eL S T) 16) k = difTo S T k := by
  induction k with
  | zero => rfl
  | succ k ih => simp only [wTo, difTo]; rw [ih (by omega), dif_place cS cT k (by omega)]
def b2i (b : Bool) : Int := if b = true then 1 else 0
theorem wTo_eight {D : List Int} (c : IsChart D) : wTo D 8 = 2 * wTo D 4 := by
  have l0 := c.low 0 (by omega); have l1 := c.low 1 (by omega); have l2 := c.low 2 (by omega); have l3 := c.low 3 (by omega)
  simp only [Nat.reduceAdd] at l0 l1 l2 l3
  have o4 : ∀ a b c d : Bool, onesF (fig4 a b c d) = b2i a + b2i b + b2i c + b2i d := ones4
  have oF : ∀ f, onesF f = b2i (bitB f 0) + b2i (bitB f 1) + b2i (bitB f 2) + b2i (bitB f 3) := fun _ => rfl
  simp only [wTo, l0, l1, l2, l3, o4]
  rw [oF (nth D 0), oF (nth D 1), oF (nth D 2), oF (nth D 3)]
  show _ = 2 * _
  simp only [show ((0 : Nat) : Int) = 0 from rfl, show ((1 : Nat) : Int) = 1 from rfl, show ((2 : Nat) : Int) = 2 from rfl, show ((3 : Nat) : Int) = 3 from rfl]
  omega
set_option maxRecDepth 100000 in
theorem few_marks : ∀ a b : Fin 16, onesF (a.val : Int) + onesF (b.val : Int) ≤ 2 → ∀ c : Fin 16, onesF (a.val : Int) + onesF (b.val : Int) + onesF (c.val : Int) ≤ 2 → ∀ d : Fin 16, onesF (a.val : Int) + onesF (b.val : Int) + onesF (c.val : Int) + onesF (d.val : Int) ≤ 2 →
    (a.val = 0 ∧ b.val = 0 ∧ c.val = 0 ∧ d.val = 0) ∨ 6 ≤ wTo (dP [(a.val : Int), b.val, c.val, d.val] 16) 16 := by decide +kernel
theorem marks_six {a b c d : Int} (ha : Fig a) (hb : Fig b) (hc : Fig c) (hd : Fig d) (hne : ¬ (a = 0 ∧ b = 0 ∧ c = 0 ∧ d = 0)) : 6 ≤ wTo (dP [a, b, c, d] 16) 16 := by
  have hF : ∀ k, k < 4 → Fig (nth [a, b, c, d] k) := fun k hk => by
    have e : k = 0 ∨ k = 1 ∨ k = 2 ∨ k = 3 := by omega
    rcases e with rfl | rfl | rfl | rfl <;> assumption
  have cD := isChart (m := [a, b, c, d]) rfl hF
  have h8 := wTo_eight cD
  have h16 := wTo_mono (dP [a, b, c, d] 16) (j := 8) (k := 16) (by omega)
  have h4 : wTo (dP [a, b, c, d] 16) 4 = onesF a + onesF b + onesF c + onesF d := by
    simp only [wTo]
    rw [dP_moth _ rfl (j := 0) (by omega), dP_moth _ rfl (j := 1) (by omega), dP_moth _ rfl (j := 2) (by omega), dP_moth _ rfl (j := 3) (by omega)]
    show 0 + onesF a + onesF b + onesF c + onesF d = _
    omega
  by_cases hs : onesF a + onesF b + onesF c + onesF d ≤ 2
  · obtain ⟨a0, a1⟩ := ha; obtain ⟨b0, b1⟩ := hb; obtain ⟨c0, c1⟩ := hc; obtain ⟨d0, d1⟩ := hd
    obtain ⟨a, rfl⟩ := Int.eq_ofNat_of_zero_le a0; obtain ⟨b, rfl⟩ := Int.eq_ofNat_of_zero_le b0
    obtain ⟨c, rfl⟩ := Int.eq_ofNat_of_zero_le c0; obtain ⟨d, rfl⟩ := Int.eq_ofNat_of_zero_le d0
    have o1 := (onesF_bd (a : Int)).1; have o2 := (onesF_bd (b : Int)).1; have o3 := (onesF_bd (c : Int)).1; have o4 := (onesF_bd (d : Int)).1
    rcases few_marks ⟨a, by omega⟩ ⟨b, by omega⟩ (by simp only; omega) ⟨c, by omega⟩ (by simp only; omega) ⟨d, by omega⟩ (by simp only; omega) with h | h
    · exact absurd ⟨by simp only at h; omega, by simp only at h; omega, by simp only at h; omega, by simp only at h; omega⟩ hne
    · exact h
  · omega
theorem chV_is (x : Nat) : IsChart (chV x) := isChart rfl (fun k hk => by
  have e : k = 0 ∨ k = 1 ∨ k = 2 ∨ k = 3 := by omega
  rcases e with rfl | rfl | rfl | rfl
  · show Fig ((x : Int) / 4096 % 16); exact ⟨by omega, by omega⟩
  · show Fig ((x : Int) / 256 % 16); exact ⟨by omega, by omega⟩
  · show Fig ((x : Int) / 16 % 16); exact ⟨by omega, by omega⟩
  · show Fig ((x : Int) % 16); exact ⟨by omega, by omega⟩)
theorem chV_at (x : Nat) {j : Nat} (hj : j < 4) : nth (chV x) j = nth (nibs x) j := dP_moth _ rfl hj
/-- Two charts differ in at least six marks. -/
theorem far {x y : Nat} (hx : x < 65536) (hy : y < 65536) (hne : x ≠ y) : 6 ≤ difTo (chV x) (chV y) 16 := by
  have cx := chV_is x
  have cy := chV_is y
  rw [← wTo_dif cx cy (Nat.le_refl 16)]
  refine marks_six (xorF_fig (cx.figs 0 (by omega)) (cy.figs 0 (by omega))) (xorF_fig (cx.figs 1 (by omega)) (cy.figs 1 (by omega))) (xorF_fig (cx.figs 2 (by omega)) (cy.figs 2 (by omega))) (xorF_fig (cx.figs 3 (by omega)) (cy.figs 3 (by omega))) ?_
  rintro ⟨h0, h1, h2, h3⟩
  have z : onesF 0 = 0 := by decide
  have e0 := ones_nil (cx.figs 0 (by omega)) (cy.figs 0 (by omega)) (by rw [h0, z]; omega)
  have e1 := ones_nil (cx.figs 1 (by omega)) (cy.figs 1 (by omega)) (by rw [h1, z]; omega)
  have e2 := ones_nil (cx.figs 2 (by omega)) (cy.figs 2 (by omega)) (by rw [h2, z]; omega)
  have e3 := ones_nil (cx.figs 3 (by omega)) (cy.figs 3 (by omega)) (by rw [h3, z]; omega)
  rw [chV_at x (by omega), chV_at y (by omega)] at e0 e1 e2 e3
  have e0' : (x : Int) / 4096 % 16 = (y : Int) / 4096 % 16 := e0
  have e1' : (x : Int) / 256 % 16 = (y : Int) / 256 % 16 := e1
  have e2' : (x : Int) / 16 % 16 = (y : Int) / 16 % 16 := e2
  have e3' : (x : Int) % 16 = (y : Int) % 16 := e3
  exact hne (by omega)

theorem mendL_best (s : List Int) (k : Nat) : (∀ x, x < k → (mendL s (upto id k)).1 ≤ difTo s (chV x) 16) ∧ (0 < k → ∃ x, x < k ∧ (mendL s (upto id k)).1 = difTo s (chV x) 16 ∧ (mendL s (upto id k)).2.2 = chV x ∧ 1 ≤ (mendL s (upto id k)).2.1) := by
  induction k with
  | zero => exact ⟨fun x hx => by omega, fun h => by omega⟩
  | succ k ih =>
    obtain ⟨h1, h2⟩ := ih
    have hd := difTo_bd s (chV k) 16
    have h0 : k = 0 → (mendL s (upto id k)).1 = 65 := fun e => by subst e; rfl
    rw [upto_succ, mendL_snoc]
    show (∀ x, x < k + 1 → (mendS s (mendL s (upto id k)) k).1 ≤ difTo s (chV x) 16) ∧ (0 < k + 1 → ∃ x, x < k + 1 ∧ (mendS s (mendL s (upto id k)) k).1 = difTo s (chV x) 16 ∧ (mendS s (mendL s (upto id k)) k).2.2 = chV x ∧ 1 ≤ (mendS s (mendL s (upto id k)) k).2.1)
    generalize mendL s (upto id k) = r at *
    unfold mendS
    by_cases c1 : difTo s (chV k) 16 < r.1
    · rw [if_pos c1]
      refine ⟨fun x hx => ?_, fun _ => ⟨k, by omega, rfl, rfl, Nat.le_refl _⟩⟩
      by_cases e : x = k
      · subst e; exact Int.le_refl _
      · have := h1 x (by omega); show difTo s (chV k) 16 ≤ _; omega
    · rw [if_neg c1]
      have hk : 0 < k := by
        rcases Nat.eq_zero_or_pos k with e | e
        · have := h0 e; omega
        · exact e
      obtain ⟨y, hy, e1, e2, e3⟩ := h2 hk
      by_cases c2 : difTo s (chV k) 16 = r.1
      · rw [if_pos c2]
        refine ⟨fun x hx => ?_, fun _ => ⟨y, by omega, e1, e2, by show 1 ≤ r.2.1 + 1; omega⟩⟩
        by_cases e : x = k
        · subst e; show r.1 ≤ _; omega
        · exact h1 x (by omega)
      · rw [if_neg c2]
        refine ⟨fun x hx => ?_, fun _ => ⟨y, by omega, e1, e2, e3⟩⟩
        by_cases e : x = k
        · subst e; omega
        · exact h1 x (by omega)
theorem mendL_one (s : List Int) (x0 N : Nat) (h : ∀ y, y < N → y ≠ x0 → difTo s (chV x0) 16 < difTo s (chV y) 16) (k : Nat) (hk : k ≤ N) :
    (k ≤ x0 → difTo s (chV x0) 16 < (mendL s (upto id k)).1) ∧ (x0 < k → mendL s (upto id k) = (difTo s (chV x0) 16, 1, chV x0)) := by
  induction k with
  | zero =>
    have hd := difTo_bd s (chV x0) 16
    refine ⟨fun _ => ?_, fun h => by omega⟩
    show difTo s (chV x0) 16 < 65
    omega
  | succ k ih =>
    obtain ⟨h1, h2⟩ := ih (by omega)
    rw [upto_succ, mendL_snoc]
    show (_ → difTo s (chV x0) 16 < (mendS s (mendL s (upto id k)) k).1) ∧ (_ → mendS s (mendL s (upto id k)) k = _)
    constructor
    · intro hle
      have a := h1 (by omega)
      have b := h k (by omega) (by omega)
      unfold mendS
      by_cases c1 : difTo s (chV k) 16 < (mendL s (upto id k)).1
      · rw [if_pos c1]; exact b
      · rw [if_neg c1]
        by_cases c2 : difTo s (chV k) 16 = (mendL s (upto id k)).1
        · rw [if_pos c2]; exact a
        · rw [if_neg c2]; exact a
    · intro hlt
      by_cases e : k = x0
      · subst e
        unfold mendS
        rw [if_pos (h1 (Nat.le_refl _))]
      · rw [h2 (by omega)]
        have b := h k (by omega) e
        unfold mendS
        rw [if_neg (by show ¬ _ < difTo s (chV x0) 16; omega), if_neg (by show ¬ _ = difTo s (chV x0) 16; omega)]

/-- The number of four figures. -/
theorem moth_num {a b c d : Int} (ha : Fig a) (hb : Fig b) (hc : Fig c) (hd : Fig d) : ∃ x : Nat, x < 65536 ∧ nibs (x : Int) = [a, b, c, d] := by
  obtain ⟨a0, a1⟩ := ha; obtain ⟨b0, b1⟩ := hb; obtain ⟨c0, c1⟩ := hc; obtain ⟨d0, d1⟩ := hd
  refine ⟨(a * 4096 + b * 256 + c * 16 + d).toNat, by omega, ?_⟩
  unfold nibs
  rw [Int.toNat_of_nonneg (by omega)]
  rw [show (a * 4096 + b * 256 + c * 16 + d) / 4096 % 16 = a by omega, show (a * 4096 + b * 256 + c * 16 + d) / 256 % 16 = b by omega, show (a * 4096 + b * 256 + c * 16 + d) / 16 % 16 = c by omega, show (a * 4096 + b * 256 + c * 16 + d) % 16 = d by omega]
theorem wrongTo_nil {s : List Int} {k : Nat} (h : wrongTo s k = []) : ∀ p, 4 ≤ p → p < k → nth s p = followF s p := by
  induction k with
  | zero => intro p _ hp; omega
  | succ k ih =>
    unfold wrongTo at h
    split at h
    · rename_i c
      intro p h4 hp
      by_cases e : p = k
      · subst e; rcases c with c | c
        · omega
        · exact c
      · exact ih h p h4 (by omega)
    · simp at h
/-- A copy without a wrong place is a chart. -/
theorem chart_of {B : List Int} (hB : B.length = 16) (hf : Figs B) (h : wrongTo B 16 = []) : ∃ x, x < 65536 ∧ B = chV x := by
  obtain ⟨x, hx, e⟩ := moth_num (hf 0 (by omega)) (hf 1 (by omega)) (hf 2 (by omega)) (hf 3 (by omega))
  refine ⟨x, hx, list_same hB (chV_is x).len ?_⟩
  have key : ∀ n j, j < n → j < 16 → nth B j = nth (chV x) j := by
    intro n
    induction n with
    | zero => intro j hj; omega
    | succ n ih =>
      intro j hj h16
      by_cases h4 : j < 4
      · rw [chV_at x h4, e]
        have o : j = 0 ∨ j = 1 ∨ j = 2 ∨ j = 3 := by omega
        rcases o with rfl | rfl | rfl | rfl <;> rfl
      · rw [wrongTo_nil h j (by omega) h16, show nth (chV x) j = followF (chV x) j from dP_follow _ rfl (by omega) h16]
        exact followF_congr (by omega) h16 fun i hi => ih i (by omega) (by omega)
  exact fun j hj => key 16 j hj hj

/-- All that is known of a copy with at most five marks changed. -/
theorem found_facts {n : Nat} (hn : n < 65536) {B : List Int} (hB : B.length = 16) (hf : Figs B) (h5 : difTo B (chV n) 16 ≤ 5) :
    (wrongV B = [] ↔ difTo B (chV n) 16 = 0) ∧ ((mendL B (upto id 65536)).1 = 0 ↔ difTo B (chV n) 16 = 0) ∧ (mendL B (upto id 65536)).1 ≤ difTo B (chV n) 16 ∧ 1 ≤ (mendL B (upto id 65536)).2.1 ∧
      (difTo B (chV n) 16 ≤ 2 → mendL B (upto id 65536) = (difTo B (chV n) 16, 1, chV n)) ∧ ∃ x, x < 65536 ∧ (mendL B (upto id 65536)).2.2 = chV x := by
  have cn := chV_is n
  have wv : wrongV B = wrongTo B 16 := by unfold wrongV; rw [if_pos (chkF_figs hB hf)]
  have bd := difTo_bd B (chV n) 16
  have same : ∀ x, x < 65536 → difTo B (chV x) 16 ≤ 0 → difTo B (chV n) 16 = 0 := fun x hx h => by
    by_cases e : x = n
    · subst e; omega
    · exfalso
      have f := far hn hx (fun e' => e e'.symm)
      have t := difTo_tri cn.figs (chV_is x).figs hf (Nat.le_refl 16)
      rw [difTo_comm cn.figs hf (Nat.le_refl 16)] at t
      omega
  obtain ⟨b1, b2⟩ := mendL_best B 65536
  obtain ⟨y, hy, e1, e2, e3⟩ := b2 (by omega)
  have bn := b1 n hn
  refine ⟨⟨fun h => ?_, fun h => ?_⟩, ⟨fun h => ?_, fun h => ?_⟩, bn, e3, fun h => ?_, ⟨y, hy, e2⟩⟩
  · obtain ⟨x, hx, rfl⟩ := chart_of hB hf (wv ▸ h)
    exact same x hx (by rw [difTo_eq hf (Nat.le_refl 16) fun _ _ => rfl]; omega)
  · have e := list_same hB cn.len (difTo_nil hf cn.figs (Nat.le_refl 16) (by omega))
    rw [wv, e]
    exact wrongTo_all (fun p h4 h16 => dP_follow _ rfl h4 h16) (Nat.le_refl _)
  · exact same y hy (by omega)
  · have := (mendL_ok B (upto id 65536)).1
    omega
  · refine (mendL_one B n 65536 (fun z hz hne => ?_) 65536 (Nat.le_refl _)).2 hn
    have f := far hn hz (fun e' => hne e'.symm)
    have t := difTo_tri cn.figs (chV_is z).figs hf (Nat.le_refl 16)
    rw [difTo_comm cn.figs hf (Nat.le_refl 16)] at t
    omega
end Go.Proofs.YthioojappmnnaaaDoor
