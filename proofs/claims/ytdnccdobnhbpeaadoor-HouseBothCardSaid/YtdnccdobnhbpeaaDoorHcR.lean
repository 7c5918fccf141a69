/-
  The circle of houses: ties both ways: plain facts.
  The circle of houses: how many ties, and the verdict, both ways.
-/
import Derived.Test.YtdnccdobnhbpeaaDoorHcM
namespace Go.Proofs.YtdnccdobnhbpeaaDoor
open Go
set_option linter.unusedVariables false
set_option linter.unusedSimpArgs false

theorem nb_sym_run : ∀ n, n < 12 → ∀ m, m < 12 → ((Int.ofNat (m + 1) = nb1 (Int.ofNat (n + 1)) ∨ Int.ofNat (m + 1) = nb2 (Int.ofNat (n + 1))) ↔ (Int.ofNat (n + 1) = nb1 (Int.ofNat (m + 1)) ∨ Int.ofNat (n + 1) = nb2 (Int.ofNat (m + 1)))) ∧ ((Int.ofNat (m + 1) = nb1 (Int.ofNat (n + 1)) ∨ Int.ofNat (m + 1) = nb2 (Int.ofNat (n + 1))) ↔ apN (Int.ofNat (m + 1)) (Int.ofNat (n + 1)) = 1) ∧ (apN (Int.ofNat (m + 1)) (Int.ofNat (n + 1)) = 0 → m = n) := by decide +kernel
theorem nbs_mem {x a : Int} : x ∈ nbs a ↔ (x = nb1 a ∨ x = nb2 a) := by simp [nbs]
theorem nbs_hou {x a : Int} (h : x ∈ nbs a) : Hou x := by
  rcases nbs_mem.1 h with rfl | rfl
  · exact nb_hou.1
  · exact nb_hou.2
theorem nbs_sym {x a : Int} (hx : Hou x) (ha : Hou a) : x ∈ nbs a ↔ a ∈ nbs x := by
  obtain ⟨m, hm, rfl⟩ := hou_nat hx
  obtain ⟨n, hn, rfl⟩ := hou_nat ha
  rw [nbs_mem, nbs_mem]
  exact (nb_sym_run n hn m hm).1
theorem nbs_ap {x a : Int} (hx : Hou x) (ha : Hou a) : x ∈ nbs a ↔ apN x a = 1 := by
  obtain ⟨m, hm, rfl⟩ := hou_nat hx
  obtain ⟨n, hn, rfl⟩ := hou_nat ha
  rw [nbs_mem]
  exact (nb_sym_run n hn m hm).2.1
theorem ap_ne {x a : Int} (hx : Hou x) (ha : Hou a) (h : x ≠ a) : apN x a ≠ 0 := fun e => by
  obtain ⟨m, hm, rfl⟩ := hou_nat hx
  obtain ⟨n, hn, rfl⟩ := hou_nat ha
  exact h (by rw [(nb_sym_run n hn m hm).2.2 e])
/-- What a tie is. -/
def IsT (s : List Int) (a b : Int) (t : T3) : Prop :=
  (t.1 = 1 ∧ t.2.1 = a ∧ t.2.2 = b ∧ fg s a = fg s b) ∨
  (t.1 = 2 ∧ ((t.2.2 = b ∧ t.2.1 ∈ nbs b ∧ t.2.1 ≠ a ∧ fg s t.2.1 = fg s a) ∨ (t.2.1 = a ∧ t.2.2 ∈ nbs a ∧ t.2.2 ≠ b ∧ fg s t.2.2 = fg s b))) ∨
  (t.1 = 3 ∧ Hou t.2.1 ∧ fg s t.2.1 = fg s a ∧ t.2.2 ∈ nbs t.2.1 ∧ t.2.1 ≠ a ∧ t.2.1 ≠ b ∧ t.2.2 ≠ a ∧ t.2.2 ≠ b ∧ fg s t.2.2 = fg s b) ∨
  (t.1 = 4 ∧ t.2.1 ∈ nbs a ∧ t.2.2 ∈ nbs b ∧ fg s t.2.1 ≠ fg s a ∧ fg s t.2.1 ≠ fg s b ∧ t.2.1 ≠ a ∧ t.2.1 ≠ b ∧ t.2.2 ≠ a ∧ t.2.2 ≠ b ∧ t.2.1 ≠ t.2.2 ∧ fg s t.2.1 = fg s t.2.2)
theorem standL_mem {s : List Int} {f x : Int} : x ∈ standL s f 12 ↔ Hou x ∧ fg s x = f := by
  unfold standL
  simp only [List.mem_map, List.mem_filter, List.mem_range, decide_eq_true_eq]
  constructor
  · rintro ⟨j, ⟨hj, hf⟩, rfl⟩
    refine ⟨by unfold Hou; omega, ?_⟩
    unfold fg
    rw [show ((j : Int) + 1 - 1).toNat = j by omega]
    exact hf
  · rintro ⟨hx, hf⟩
    obtain ⟨n, hn, rfl⟩ := hou_nat hx
    refine ⟨n, ⟨hn, ?_⟩, by simp⟩
    unfold fg at hf
    rw [show (Int.ofNat (n + 1) - 1).toNat = n by simp] at hf
    exact hf
theorem rawL_eq (s : List Int) (a b : Int) : rawL s a b = occL s a b ++ (cj1 s a b (nbs b) ++ cj2 s a b (nbs a)) ++ muL s a b (standL s (fg s a) 12) ++ trL s a b (nbs a) := by
  unfold rawL
  rw [catT_succ, catT_succ, catT_succ, catT_succ]
  rfl
theorem third_iff {a b x : Int} : thirdB a b x = true ↔ x ≠ a ∧ x ≠ b := by simp [thirdB]
theorem mem_raw {s : List Int} {a b : Int} {t : T3} : t ∈ rawL s a b ↔ IsT s a b t := by
  obtain ⟨k, x, y⟩ := t
  rw [rawL_eq]
  simp only [List.mem_append]
  have h1 : ((k, x, y) : T3) ∈ occL s a b ↔ (k = 1 ∧ x = a ∧ y = b ∧ fg s a = fg s b) := by
    unfold occL
    by_cases h : (fg s a == fg s b) = true
    · rw [if_pos h]
      simp at h
      simp [h]
    · rw [if_neg h]
      simp at h
      simp [h]
  have h2 : ((k, x, y) : T3) ∈ cj1 s a b (nbs b) ↔ (k = 2 ∧ (y = b ∧ x ∈ nbs b ∧ x ≠ a ∧ fg s x = fg s a)) := by
    unfold cj1
    simp only [List.mem_map, List.mem_filter, Bool.and_eq_true, decide_eq_true_eq, beq_iff_eq, Prod.mk.injEq]
    constructor
    · rintro ⟨z, ⟨g1, g2, g3⟩, e1, e2, e3⟩; subst e1 e2 e3; exact ⟨rfl, rfl, g1, g2, g3⟩
    · rintro ⟨e1, e2, g1, g2, g3⟩; exact ⟨x, ⟨g1, g2, g3⟩, e1.symm, rfl, e2.symm⟩
  have h3 : ((k, x, y) : T3) ∈ cj2 s a b (nbs a) ↔ (k = 2 ∧ (x = a ∧ y ∈ nbs a ∧ y ≠ b ∧ fg s y = fg s b)) := by
    unfold cj2
    simp only [List.mem_map, List.mem_filter, Bool.and_eq_true, decide_eq_true_eq, beq_iff_eq, Prod.mk.injEq]
    constructor
    · rintro ⟨z, ⟨g1, g2, g3⟩, e1, e2, e3⟩; subst e1 e2 e3; exact ⟨rfl, rfl, g1, g2, g3⟩
    · rintro ⟨e1, e2, g1, g2, g3⟩; exact ⟨y, ⟨g1, g2, g3⟩, e1.symm, e2.symm, rfl⟩
  have h4 : ((k, x, y) : T3) ∈ muL s a b (standL s (fg s a) 12) ↔ (k = 3 ∧ Hou x ∧ fg s x = fg s a ∧ y ∈ nbs x ∧ x ≠ a ∧ x ≠ b ∧ y ≠ a ∧ y ≠ b ∧ fg s y = fg s b) := by
    unfold muL mu1
    simp only [List.mem_flatMap, List.mem_map, List.mem_filter, Bool.and_eq_true, third_iff, beq_iff_eq, Prod.mk.injEq, standL_mem]
    constructor
    · rintro ⟨x', ⟨g1, g2⟩, y', ⟨g3, ⟨⟨g4, g5⟩, g6, g7⟩, g8⟩, rfl, rfl, rfl⟩; exact ⟨rfl, g1, g2, g3, g4, g5, g6, g7, g8⟩
    · rintro ⟨rfl, g1, g2, g3, g4, g5, g6, g7, g8⟩; exact ⟨x, ⟨g1, g2⟩, y, ⟨g3, ⟨⟨g4, g5⟩, g6, g7⟩, g8⟩, rfl, rfl, rfl⟩
  have h5 : ((k, x, y) : T3) ∈ trL s a b (nbs a) ↔ (k = 4 ∧ x ∈ nbs a ∧ y ∈ nbs b ∧ fg s x ≠ fg s a ∧ fg s x ≠ fg s b ∧ x ≠ a ∧ x ≠ b ∧ y ≠ a ∧ y ≠ b ∧ x ≠ y ∧ fg s x = fg s y) := by
    unfold trL
    simp only [List.mem_flatMap]
    constructor
    · rintro ⟨x', g1, g2⟩
      unfold tr1 at g2
      split at g2
      · simp at g2
      · rename_i hc
        unfold tr2 at g2
        simp only [List.mem_map, List.mem_filter, Bool.and_eq_true, third_iff, bne_iff_ne, beq_iff_eq, Prod.mk.injEq] at g2
        obtain ⟨y', ⟨g3, ⟨⟨⟨g4, g5⟩, g6, g7⟩, g8⟩, g9⟩, rfl, rfl, rfl⟩ := g2
        simp at hc
        exact ⟨rfl, g1, g3, hc.1, hc.2, g4, g5, g6, g7, g8, g9⟩
    · rintro ⟨rfl, g1, g2, g3, g4, g5, g6, g7, g8, g9, g10⟩
      refine ⟨x, g1, ?_⟩
      unfold tr1
      rw [if_neg (by simp [g3, g4])]
      unfold tr2
      simp only [List.mem_map, List.mem_filter, Bool.and_eq_true, third_iff, bne_iff_ne, beq_iff_eq, Prod.mk.injEq]
      exact ⟨y, ⟨g2, ⟨⟨⟨g5, g6⟩, g7, g8⟩, g9⟩, g10⟩, by simp⟩
  rw [h1, h2, h3, h4, h5]
  unfold IsT
  simp only
  constructor
  · rintro (((h | h | h) | h) | h)
    · exact .inl h
    · exact .inr (.inl ⟨h.1, .inl h.2⟩)
    · exact .inr (.inl ⟨h.1, .inr h.2⟩)
    · exact .inr (.inr (.inl h))
    · exact .inr (.inr (.inr h))
  · rintro (h | ⟨h0, h | h⟩ | h | h)
    · exact .inl (.inl (.inl h))
    · exact .inl (.inl (.inr (.inl ⟨h0, h⟩)))
    · exact .inl (.inl (.inr (.inr ⟨h0, h⟩)))
    · exact .inl (.inr h)
    · exact .inr h
theorem isT_swap {s : List Int} {a b : Int} (ha : Hou a) (hb : Hou b) {t : T3} (h : IsT s a b t) : IsT s b a (t.1, t.2.2, t.2.1) := by
  obtain ⟨k, x, y⟩ := t
  unfold IsT at h ⊢
  simp only at h ⊢
  rcases h with ⟨h1, h2, h3, h4⟩ | ⟨h0, ⟨h1, h2, h3, h4⟩ | ⟨h1, h2, h3, h4⟩⟩ | ⟨h0, h1, h2, h3, h4, h5, h6, h7, h8⟩ | ⟨h0, h1, h2, h3, h4, h5, h6, h7, h8, h9, h10⟩
  · exact .inl ⟨h1, h3, h2, h4.symm⟩
  · exact .inr (.inl ⟨h0, .inr ⟨h1, h2, h3, h4⟩⟩)
  · exact .inr (.inl ⟨h0, .inl ⟨h1, h2, h3, h4⟩⟩)
  · exact .inr (.inr (.inl ⟨h0, nbs_hou h3, h8, (nbs_sym (nbs_hou h3) h1).1 h3, h7, h6, h5, h4, h2⟩))
  · exact .inr (.inr (.inr ⟨h0, h2, h1, by rw [← h10]; exact h4, by rw [← h10]; exact h3, h8, h7, h6, h5, fun e => h9 e.symm, h10.symm⟩))
theorem isT_hou {s : List Int} {a b : Int} (ha : Hou a) (hb : Hou b) {t : T3} (h : IsT s a b t) : Hou t.2.1 ∧ Hou t.2.2 := by
  obtain ⟨k, x, y⟩ := t
  unfold IsT at h
  simp only at h ⊢
  rcases h with ⟨h1, h2, h3, h4⟩ | ⟨h0, ⟨h1, h2, h3, h4⟩ | ⟨h1, h2, h3, h4⟩⟩ | ⟨h0, h1, h2, h3, h4, h5, h6, h7, h8⟩ | ⟨h0, h1, h2, h3, h4, h5, h6, h7, h8, h9, h10⟩
  · rw [h2, h3]; exact ⟨ha, hb⟩
  · rw [h1]; exact ⟨nbs_hou h2, hb⟩
  · rw [h1]; exact ⟨ha, nbs_hou h2⟩
  · exact ⟨h1, nbs_hou h3⟩
  · exact ⟨nbs_hou h1, nbs_hou h2⟩
/-- How many of two there are. -/
def c01 (p : Bool) : Nat := if p = true then 1 else 0
theorem len_filter_nbs (f : Int → Bool) (a : Int) : ((nbs a).filter f).length = c01 (f (nb1 a)) + c01 (f (nb2 a)) := by
  unfold nbs c01
  cases h1 : f (nb1 a) <;> cases h2 : f (nb2 a) <;> simp [List.filter, h1, h2]
theorem sum_filter (p : Nat → Bool) (g : Nat → Nat) (l : List Nat) : ((l.filter p).map g).sum = (l.map fun j => if p j = true then g j else 0).sum := by
  induction l with
  | nil => rfl
  | cons x l ih =>
    rw [List.filter_cons]
    cases h : p x
    · simp [h, ih]
    · simp [h, ih]
theorem len_mu (s : List Int) (a b : Int) : (muL s a b (standL s (fg s a) 12)).length = ((List.range 12).map fun j => if decide (nth s j = fg s a) = true then c01 (thirdB a b ((j : Int) + 1) && thirdB a b (nb1 ((j : Int) + 1)) && (fg s (nb1 ((j : Int) + 1)) == fg s b)) + c01 (thirdB a b ((j : Int) + 1) && thirdB a b (nb2 ((j : Int) + 1)) && (fg s (nb2 ((j : Int) + 1)) == fg s b)) else 0).sum := by
  unfold muL standL
  rw [List.length_flatMap, List.map_map, sum_filter]
  congr 1
  refine List.map_congr_left fun j _ => ?_
  split
  · show (mu1 s a b ((j : Int) + 1) (nbs ((j : Int) + 1))).length = _
    unfold mu1
    rw [List.length_map, len_filter_nbs]
  · rfl
theorem len_tr1 (s : List Int) (a b x : Int) : (tr1 s a b x).length = c01 ((!(fg s x == fg s a || fg s x == fg s b)) && (thirdB a b x && thirdB a b (nb1 b) && (x != nb1 b) && (fg s x == fg s (nb1 b)))) + c01 ((!(fg s x == fg s a || fg s x == fg s b)) && (thirdB a b x && thirdB a b (nb2 b) && (x != nb2 b) && (fg s x == fg s (nb2 b)))) := by
  unfold tr1
  by_cases h : (fg s x == fg s a || fg s x == fg s b) = true
  · rw [if_pos h, h]
    rfl
  · rw [if_neg h]
    have h' : (fg s x == fg s a || fg s x == fg s b) = false := by simpa using h
    rw [h']
    unfold tr2
    rw [List.length_map, len_filter_nbs]
    rfl
end Go.Proofs.YtdnccdobnhbpeaaDoor

namespace Go.Proofs.YtdnccdobnhbpeaaDoor
open Go
set_option linter.unusedVariables false
set_option linter.unusedSimpArgs false

/-- One mutation. -/
def mu01 (s : List Int) (a b x y : Int) : Nat := c01 ((decide (fg s x = fg s a) && thirdB a b x) && (thirdB a b y && decide (fg s y = fg s b)))
theorem third_sym (a b x : Int) : thirdB b a x = thirdB a b x := by
  cases h : thirdB a b x
  · cases h' : thirdB b a x
    · rfl
    · have := third_iff.1 h'
      rw [third_iff.2 ⟨this.2, this.1⟩] at h; cases h
  · have := third_iff.1 h
    exact third_iff.2 ⟨this.2, this.1⟩
theorem mu01_swap (s : List Int) (a b x y : Int) : mu01 s b a x y = mu01 s a b y x := by
  unfold mu01
  rw [third_sym a b x, third_sym a b y]
  congr 1
  cases thirdB a b x <;> cases thirdB a b y <;> cases decide (fg s x = fg s b) <;> cases decide (fg s y = fg s a) <;> rfl
theorem mu_terms (s : List Int) (a b : Int) : (muL s a b (standL s (fg s a) 12)).length = ((List.range 12).map fun (j : Nat) => mu01 s a b ((j : Int) + 1) (nb1 ((j : Int) + 1)) + mu01 s a b ((j : Int) + 1) (nb2 ((j : Int) + 1))).sum := by
  rw [len_mu]
  congr 1
  refine List.map_congr_left fun j _ => ?_
  have e : fg s ((j : Int) + 1) = nth s j := by
    unfold fg
    rw [show ((j : Int) + 1 - 1).toNat = j by omega]
  unfold mu01
  rw [e]
  by_cases h : nth s j = fg s a
  · simp [h, c01, and_assoc]
  · simp [h, c01]
theorem mu_len (s : List Int) (a b : Int) : (muL s a b (standL s (fg s a) 12)).length = (muL s b a (standL s (fg s b) 12)).length := by
  rw [mu_terms, mu_terms]
  have f : ∀ x y, mu01 s b a x y = mu01 s a b y x := mu01_swap s a b
  simp only [f]
  obtain ⟨g, hg⟩ : ∃ g, g = mu01 s a b := ⟨_, rfl⟩
  rw [← hg]
  have e1 : (List.range 12) = [0, 1, 2, 3, 4, 5, 6, 7, 8, 9, 10, 11] := by decide
  rw [e1]
  simp only [List.map_cons, List.map_nil, List.sum_cons, List.sum_nil]
  have n1 : nb1 (((0 : Nat) : Int) + 1) = 12 ∧ nb2 (((0 : Nat) : Int) + 1) = 2 ∧ nb1 (((1 : Nat) : Int) + 1) = 1 ∧ nb2 (((1 : Nat) : Int) + 1) = 3 ∧ nb1 (((2 : Nat) : Int) + 1) = 2 ∧ nb2 (((2 : Nat) : Int) + 1) = 4 ∧ nb1 (((3 : Nat) : Int) + 1) = 3 ∧ nb2 (((3 : Nat) : Int) + 1) = 5 ∧ nb1 (((4 : Nat) : Int) + 1) = 4 ∧ nb2 (((4 : Nat) : Int) + 1) = 6 ∧ nb1 (((5 : Nat) : Int) + 1) = 5 ∧ nb2 (((5 : Nat) : Int) + 1) = 7 := by decide +kernel
  have n2 : nb1 (((6 : Nat) : Int) + 1) = 6 ∧ nb2 (((6 : Nat) : Int) + 1) = 8 ∧ nb1 (((7 : Nat) : Int) + 1) = 7 ∧ nb2 (((7 : Nat) : Int) + 1) = 9 ∧ nb1 (((8 : Nat) : Int) + 1) = 8 ∧ nb2 (((8 : Nat) : Int) + 1) = 10 ∧ nb1 (((9 : Nat) : Int) + 1) = 9 ∧ nb2 (((9 : Nat) : Int) + 1) = 11 ∧ nb1 (((10 : Nat) : Int) + 1) = 10 ∧ nb2 (((10 : Nat) : Int) + 1) = 12 ∧ nb1 (((11 : Nat) : Int) + 1) = 11 ∧ nb2 (((11 : Nat) : Int) + 1) = 1 := by decide +kernel
  obtain ⟨q1, q2, q3, q4, q5, q6, q7, q8, q9, q10, q11, q12⟩ := n1
  obtain ⟨r1, r2, r3, r4, r5, r6, r7, r8, r9, r10, r11, r12⟩ := n2
  rw [q1, q2, q3, q4, q5, q6, q7, q8, q9, q10, q11, q12, r1, r2, r3, r4, r5, r6, r7, r8, r9, r10, r11, r12]
  simp only [show (((0 : Nat) : Int) + 1) = 1 from rfl, show (((1 : Nat) : Int) + 1) = 2 from rfl, show (((2 : Nat) : Int) + 1) = 3 from rfl, show (((3 : Nat) : Int) + 1) = 4 from rfl, show (((4 : Nat) : Int) + 1) = 5 from rfl, show (((5 : Nat) : Int) + 1) = 6 from rfl, show (((6 : Nat) : Int) + 1) = 7 from rfl, show (((7 : Nat) : Int) + 1) = 8 from rfl, show (((8 : Nat) : Int) + 1) = 9 from rfl, show (((9 : Nat) : Int) + 1) = 10 from rfl, show (((10 : Nat) : Int) + 1) = 11 from rfl, show (((11 : Nat) : Int) + 1) = 12 from rfl]
  omega
/-- One translation. -/
def tr01 (s : List Int) (a b x y : Int) : Nat := c01 ((!(fg s x == fg s a || fg s x == fg s b)) && (thirdB a b x && thirdB a b y && (x != y) && (fg s x == fg s y)))
theorem tr01_swap (s : List Int) (a b x y : Int) : tr01 s b a x y = tr01 s a b y x := by
  unfold tr01
  rw [third_sym a b x, third_sym a b y]
  congr 1
  by_cases h : fg s x = fg s y
  · rw [h]
    have e : (x != y) = (y != x) := by
      by_cases h' : x = y
      · rw [h']
      · rw [show (x != y) = true by simpa using h', show (y != x) = true by simpa using fun e : y = x => h' e.symm]
    rw [e]
    cases thirdB a b x <;> cases thirdB a b y <;> cases (y != x) <;> cases (fg s y == fg s a) <;> cases (fg s y == fg s b) <;> rfl
  · have h1 : (fg s x == fg s y) = false := by simpa using h
    have h2 : (fg s y == fg s x) = false := by simpa using fun e => h e.symm
    rw [h1, h2]
    simp
theorem tr_len (s : List Int) (a b : Int) : (trL s a b (nbs a)).length = (trL s b a (nbs b)).length := by
  unfold trL nbs
  simp only [List.flatMap_cons, List.flatMap_nil, List.append_nil, List.length_append]
  rw [len_tr1, len_tr1, len_tr1, len_tr1]
  have k : ∀ a b x y, c01 ((!(fg s x == fg s a || fg s x == fg s b)) && (thirdB a b x && thirdB a b y && (x != y) && (fg s x == fg s y))) = tr01 s a b x y := fun _ _ _ _ => rfl
  rw [k, k, k, k, k, k, k, k, tr01_swap s a b, tr01_swap s a b, tr01_swap s a b, tr01_swap s a b]
  omega
theorem raw_len (s : List Int) (a b : Int) : (rawL s a b).length = (rawL s b a).length := by
  rw [rawL_eq, rawL_eq]
  simp only [List.length_append]
  have h1 : (occL s a b).length = (occL s b a).length := by
    unfold occL
    simp only [beq_iff_eq]
    by_cases h : fg s a = fg s b
    · rw [if_pos h, if_pos h.symm]; rfl
    · rw [if_neg h, if_neg (fun e => h e.symm)]
  have h2 : (cj1 s a b (nbs b)).length = (cj2 s b a (nbs b)).length := by simp [cj1, cj2]
  have h3 : (cj2 s a b (nbs a)).length = (cj1 s b a (nbs a)).length := by simp [cj1, cj2]
  rw [h1, h2, h3, mu_len, tr_len]
  omega
theorem raw_near {s : List Int} {a b : Int} (ha : Hou a) (hb : Hou b) (h : (rawL s a b).any nearB = true) : (rawL s b a).any nearB = true := by
  obtain ⟨t, ht, hn⟩ := List.any_eq_true.1 h
  refine List.any_eq_true.2 ⟨(t.1, t.2.2, t.2.1), mem_raw.2 (isT_swap ha hb (mem_raw.1 ht)), ?_⟩
  unfold nearB at hn ⊢
  exact hn
theorem raw_near_eq {s : List Int} {a b : Int} (ha : Hou a) (hb : Hou b) : (rawL s a b).any nearB = (rawL s b a).any nearB := by
  cases h : (rawL s b a).any nearB
  · cases h' : (rawL s a b).any nearB
    · rfl
    · rw [raw_near ha hb h'] at h; cases h
  · exact raw_near hb ha h
theorem jdg_facts {s : List Int} {a b : Int} (ha : Hou a) (hb : Hou b) : 1 ≤ jdg s a b ∧ jdg s a b ≤ 4 ∧ (jdg s a b ≤ 2 ↔ 0 < (rawL s a b).length) ∧ (jdg s a b ≤ 2 ∨ jdg s b a ≤ 2 → jdg s a b = jdg s b a) := by
  have hn : (rawL s a b).any nearB = true → 0 < (rawL s a b).length := fun h => by
    obtain ⟨t, ht, _⟩ := List.any_eq_true.1 h
    exact List.length_pos_of_mem ht
  have hs := raw_near_eq (s := s) ha hb
  have hl := raw_len s a b
  unfold jdg jdL
  rw [← hs, ← hl]
  cases h : (rawL s a b).any nearB
  · simp only [Bool.false_eq_true, if_false]
    by_cases h0 : 0 < (rawL s a b).length
    · simp only [if_pos h0]
      exact ⟨by decide, by decide, ⟨fun _ => h0, fun _ => by decide⟩, fun _ => by trivial⟩
    · simp only [if_neg h0]
      have p : ∀ c : Prop, [Decidable c] → 3 ≤ (if c then (3 : Int) else 4) ∧ (if c then (3 : Int) else 4) ≤ 4 := fun c _ => by split <;> decide
      obtain ⟨p1, p2⟩ := p (0 < (asL b (standL s (fg s a) 12)).length ∧ (asL b (standL s (fg s a) 12)).any hardB = false)
      obtain ⟨p3, p4⟩ := p (0 < (asL a (standL s (fg s b) 12)).length ∧ (asL a (standL s (fg s b) 12)).any hardB = false)
      refine ⟨by omega, p2, ⟨fun q => by omega, fun q => absurd q h0⟩, fun q => by omega⟩
  · simp only [if_true]
    have h0 := hn h
    exact ⟨by decide, by decide, ⟨fun _ => h0, fun _ => by decide⟩, fun _ => by trivial⟩
/-- What the law asks of a tie. -/
theorem tie_law {s : List Int} {a b : Int} (ha : Hou a) (hb : Hou b) {t : T3} (h : IsT s a b t) :
    (t.1 = 1 ∧ t.2.1 = a ∧ t.2.2 = b ∧ fg s t.2.1 = fg s t.2.2) ∨
    (t.1 = 2 ∧ apN t.2.1 t.2.2 = 1 ∧ ((t.2.2 = b ∧ fg s t.2.1 = fg s a) ∨ (t.2.1 = a ∧ fg s t.2.2 = fg s b))) ∨
    (t.1 = 3 ∧ fg s t.2.1 = fg s a ∧ fg s t.2.2 = fg s b ∧ apN t.2.1 t.2.2 = 1 ∧ apN t.2.1 a ≠ 0 ∧ apN t.2.2 b ≠ 0) ∨
    (t.1 = 4 ∧ fg s t.2.1 = fg s t.2.2 ∧ fg s t.2.1 ≠ fg s a ∧ fg s t.2.1 ≠ fg s b ∧ apN t.2.1 a = 1 ∧ apN t.2.2 b = 1) := by
  obtain ⟨hx, hy⟩ := isT_hou ha hb h
  obtain ⟨k, x, y⟩ := t
  unfold IsT at h
  simp only at h hx hy ⊢
  rcases h with ⟨h1, h2, h3, h4⟩ | ⟨h0, ⟨h1, h2, h3, h4⟩ | ⟨h1, h2, h3, h4⟩⟩ | ⟨h0, h1, h2, h3, h4, h5, h6, h7, h8⟩ | ⟨h0, h1, h2, h3, h4, h5, h6, h7, h8, h9, h10⟩
  · exact .inl ⟨h1, h2, h3, by rw [h2, h3]; exact h4⟩
  · exact .inr (.inl ⟨h0, by rw [h1]; exact (nbs_ap hx hb).1 h2, .inl ⟨h1, h4⟩⟩)
  · exact .inr (.inl ⟨h0, by rw [h1]; rw [h1] at hx; exact (nbs_ap ha hy).1 ((nbs_sym hy ha).1 h2), .inr ⟨h1, h4⟩⟩)
  · exact .inr (.inr (.inl ⟨h0, h2, h8, (nbs_ap hx hy).1 ((nbs_sym hy hx).1 h3), ap_ne hx ha h4, ap_ne hy hb h7⟩))
  · exact .inr (.inr (.inr ⟨h0, h10, h3, h4, (nbs_ap hx ha).1 h1, (nbs_ap hy hb).1 h2⟩))
end Go.Proofs.YtdnccdobnhbpeaaDoor

