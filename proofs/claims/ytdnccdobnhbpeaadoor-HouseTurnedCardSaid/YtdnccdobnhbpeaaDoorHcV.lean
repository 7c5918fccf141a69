/-
  The circle of houses: ties both ways: plain facts.
  The circle of houses: how many ties, and the verdict, both ways.
  The law's input: twelve figures and two houses of fourteen bytes.
  Two ties compared, in a region that only reads.
-/
import Derived.Test.YtdnccdobnhbpeaaDoorHcM
import Derived.Test.YtdnccdobnhbpeaaDoorHcO
import Derived.Laws.StructEq
namespace Go.Proofs.YtdnccdobnhbpeaaDoor
open Go
set_option linter.unusedVariables false
set_option linter.unusedSimpArgs false

theorem nb_sym_run : ∀ n, n < 12 → ∀ m, m < 12 → ((Int.ofNat (m + 1) = nb1 (Int.ofNat (n + 1)) ∨ Int.ofNat (m + 1) = nb2 (Int.ofNat (n + 1))) ↔ (Int.ofNat (n + 1) = nb1 (Int.ofNat (m + 1)) ∨ Int.ofNat (n + 1) = nb2 (Int.ofNat (m + 1)))) ∧ ((Int.ofNat (m + 1) = nb1 (Int.ofNat (n + 1)) ∨ Int.ofNat (m + 1) = nb2 (Int.ofNat (n + 1))) ↔ apN (Int.ofNat (m + 1)) (Int.ofNat (n + 1)) = 1) ∧ (apN (Int.ofNat (m + 1)) (Int.ofNat (n + 1)) = 0 → m = n) := by decide +kernel
theorem nbs_mem {x a : Int} : x ∈ nbs a ↔ (x = nb1 a ∨ x = nb2 a) := by simp [nbs]
theorem nbs_hou {x a : Int} (h : x ∈ nbs a) : Hou x := by
  rcases nbs_mem.1 h with rfl | rfl
  · exact nb_hou.1
  · exact nb_hou.2
theorem nbs_sym {x a : Int} (hx : Hou x) (ha : Hou a) : x ∈ nbs a ↔ a ∈ nbs x := by
  obtain ⟨m, hm, rfl⟩ := hou_nat hx
  obtain ⟨n, hn, rfl⟩ := hou_nat ha
  rw [nbs_mem, nbs_mem]
  exact (nb_sym_run n hn m hm).1
theorem nbs_ap {x a : Int} (hx : Hou x) (ha : Hou a) : x ∈ nbs a ↔ apN x a = 1 := by
  obtain ⟨m, hm, rfl⟩ := hou_nat hx
  obtain ⟨n, hn, rfl⟩ := hou_nat ha
  rw [nbs_mem]
  exact (nb_sym_run n hn m hm).2.1
theorem ap_ne {x a : Int} (hx : Hou x) (ha : Hou a) (h : x ≠ a) : apN x a ≠ 0 := fun e => by
  obtain ⟨m, hm, rfl⟩ := hou_nat hx
  obtain ⟨n, hn, rfl⟩ := hou_nat ha
  exact h (by rw [(nb_sym_run n hn m hm).2.2 e])
/-- What a tie is. -/
def IsT (s : List Int) (a b : Int) (t : T3) : Prop :=
  (t.1 = 1 ∧ t.2.1 = a ∧ t.2.2 = b ∧ fg s a = fg s b) ∨
  (t.1 = 2 ∧ ((t.2.2 = b ∧ t.2.1 ∈ nbs b ∧ t.2.1 ≠ a ∧ fg s t.2.1 = fg s a) ∨ (t.2.1 = a ∧ t.2.2 ∈ nbs a ∧ t.2.2 ≠ b ∧ fg s t.2.2 = fg s b))) ∨
  (t.1 = 3 ∧ Hou t.2.1 ∧ fg s t.2.1 = fg s a ∧ t.2.2 ∈ nbs t.2.1 ∧ t.2.1 ≠ a ∧ t.2.1 ≠ b ∧ t.2.2 ≠ a ∧ t.2.2 ≠ b ∧ fg s t.2.2 = fg s b) ∨
  (t.1 = 4 ∧ t.2.1 ∈ nbs a ∧ t.2.2 ∈ nbs b ∧ fg s t.2.1 ≠ fg s a ∧ fg s t.2.1 ≠ fg s b ∧ t.2.1 ≠ a ∧ t.2.1 ≠ b ∧ t.2.2 ≠ a ∧ t.2.2 ≠ b ∧ t.2.1 ≠ t.2.2 ∧ fg s t.2.1 = fg s t.2.2)
theorem standL_mem {s : List Int} {f x : Int} : x ∈ standL s f 12 ↔ Hou x ∧ fg s x = f := by
  unfold standL
  simp only [List.mem_map, List.mem_filter, List.mem_range, decide_eq_true_eq]
  constructor
  · rintro ⟨j, ⟨hj, hf⟩, rfl⟩
    refine ⟨by unfold Hou; omega, ?_⟩
    unfold fg
    rw [show ((j : Int) + 1 - 1).toNat = j by omega]
    exact hf
  · rintro ⟨hx, hf⟩
    obtain ⟨n, hn, rfl⟩ := hou_nat hx
    refine ⟨n, ⟨hn, ?_⟩, by simp⟩
    unfold fg at hf
    rw [show (Int.ofNat (n + 1) - 1).toNat = n by simp] at hf
    exact hf
theorem rawL_eq (s : List Int) (a b : Int) : rawL s a b = occL s a b ++ (cj1 s a b (nbs b) ++ cj2 s a b (nbs a)) ++ muL s a b (standL s (fg s a) 12) ++ trL s a b (nbs a) := by
  unfold rawL
  rw [catT_succ, catT_succ, catT_succ, catT_succ]
  rfl
theorem third_iff {a b x : Int} : thirdB a b x = true ↔ x ≠ a ∧ x ≠ b := by simp [thirdB]
theorem mem_raw {s : List Int} {a b : Int} {t : T3} : t ∈ rawL s a b ↔ IsT s a b t := by
  obtain ⟨k, x, y⟩ := t
  rw [rawL_eq]
  simp only [List.mem_append]
  have h1 : ((k, x, y) : T3) ∈ occL s a b ↔ (k = 1 ∧ x = a ∧ y = b ∧ fg s a = fg s b) := by
    unfold occL
    by_cases h : (fg s a == fg s b) = true
    · rw [if_pos h]
      simp at h
      simp [h]
    · rw [if_neg h]
      simp at h
      simp [h]
  have h2 : ((k, x, y) : T3) ∈ cj1 s a b (nbs b) ↔ (k = 2 ∧ (y = b ∧ x ∈ nbs b ∧ x ≠ a ∧ fg s x = fg s a)) := by
    unfold cj1
    simp only [List.mem_map, List.mem_filter, Bool.and_eq_true, decide_eq_true_eq, beq_iff_eq, Prod.mk.injEq]
    constructor
    · rintro ⟨z, ⟨g1, g2, g3⟩, e1, e2, e3⟩; subst e1 e2 e3; exact ⟨rfl, rfl, g1, g2, g3⟩
    · rintro ⟨e1, e2, g1, g2, g3⟩; exact ⟨x, ⟨g1, g2, g3⟩, e1.symm, rfl, e2.symm⟩
  have h3 : ((k, x, y) : T3) ∈ cj2 s a b (nbs a) ↔ (k = 2 ∧ (x = a ∧ y ∈ nbs a ∧ y ≠ b ∧ fg s y = fg s b)) := by
    unfold cj2
    simp only [List.mem_map, List.mem_filter, Bool.and_eq_true, decide_eq_true_eq, beq_iff_eq, Prod.mk.injEq]
    constructor
    · rintro ⟨z, ⟨g1, g2, g3⟩, e1, e2, e3⟩; subst e1 e2 e3; exact ⟨rfl, rfl, g1, g2, g3⟩
    · rintro ⟨e1, e2, g1, g2, g3⟩; exact ⟨y, ⟨g1, g2, g3⟩, e1.symm, e2.symm, rfl⟩
  have h4 : ((k, x, y) : T3) ∈ muL s a b (standL s (fg s a) 12) ↔ (k = 3 ∧ Hou x ∧ fg s x = fg s a ∧ y ∈ nbs x ∧ x ≠ a ∧ x ≠ b ∧ y ≠ a ∧ y ≠ b ∧ fg s y = fg s b) := by
    unfold muL mu1
    simp only [List.mem_flatMap, List.mem_map, List.mem_filter, Bool.and_eq_true, third_iff, beq_iff_eq, Prod.mk.injEq, standL_mem]
    constructor
    · rintro ⟨x', ⟨g1, g2⟩, y', ⟨g3, ⟨⟨g4, g5⟩, g6, g7⟩, g8⟩, rfl, rfl, rfl⟩; exact ⟨rfl, g1, g2, g3, g4, g5, g6, g7, g8⟩
    · rintro ⟨rfl, g1, g2, g3, g4, g5, g6, g7, g8⟩; exact ⟨x, ⟨g1, g2⟩, y, ⟨g3, ⟨⟨g4, g5⟩, g6, g7⟩, g8⟩, rfl, rfl, rfl⟩
  have h5 : ((k, x, y) : T3) ∈ trL s a b (nbs a) ↔ (k = 4 ∧ x ∈ nbs a ∧ y ∈ nbs b ∧ fg s x ≠ fg s a ∧ fg s x ≠ fg s b ∧ x ≠ a ∧ x ≠ b ∧ y ≠ a ∧ y ≠ b ∧ x ≠ y ∧ fg s x = fg s y) := by
    unfold trL
    simp only [List.mem_flatMap]
    constructor
    · rintro ⟨x', g1, g2⟩
      unfold tr1 at g2
      split at g2
      · simp at g2
      · rename_i hc
        unfold tr2 at g2
        simp only [List.mem_map, List.mem_filter, Bool.and_eq_true, third_iff, bne_iff_ne, beq_iff_eq, Prod.mk.injEq] at g2
        obtain ⟨y', ⟨g3, ⟨⟨⟨g4, g5⟩, g6, g7⟩, g8⟩, g9⟩, rfl, rfl, rfl⟩ := g2
        simp at hc
        exact ⟨rfl, g1, g3, hc.1, hc.2, g4, g5, g6, g7, g8, g9⟩
    · rintro ⟨rfl, g1, g2, g3, g4, g5, g6, g7, g8, g9, g10⟩
      refine ⟨x, g1, ?_⟩
      unfold tr1
      rw [if_neg (by simp [g3, g4])]
      unfold tr2
      simp only [List.mem_map, List.mem_filter, Bool.and_eq_true, third_iff, bne_iff_ne, beq_iff_eq, Prod.mk.injEq]
      exact ⟨y, ⟨g2, ⟨⟨⟨g5, g6⟩, g7, g8⟩, g9⟩, g10⟩, by simp⟩
  rw [h1, h2, h3, h4, h5]
  unfold IsT
  simp only
  constructor
  · rintro (((h | h | h) | h) | h)
    · exact .inl h
    · exact .inr (.inl ⟨h.1, .inl h.2⟩)
    · exact .inr (.inl ⟨h.1, .inr h.2⟩)
    · exact .inr (.inr (.inl h))
    · exact .inr (.inr (.inr h))
  · rintro (h | ⟨h0, h | h⟩ | h | h)
    · exact .inl (.inl (.inl h))
    · exact .inl (.inl (.inr (.inl ⟨h0, h⟩)))
    · exact .inl (.inl (.inr (.inr ⟨h0, h⟩)))
    · exact .inl (.inr h)
    · exact .inr h
theorem isT_swap {s : List Int} {a b : Int} (ha : Hou a) (hb : Hou b) {t : T3} (h : IsT s a b t) : IsT s b a (t.1, t.2.2, t.2.1) := by
  obtain ⟨k, x, y⟩ := t
  unfold IsT at h ⊢
  simp only at h ⊢
  rcases h with ⟨h1, h2, h3, h4⟩ | ⟨h0, ⟨h1, h2, h3, h4⟩ | ⟨h1, h2, h3, h4⟩⟩ | ⟨h0, h1, h2, h3, h4, h5, h6, h7, h8⟩ | ⟨h0, h1, h2, h3, h4, h5, h6, h7, h8, h9, h10⟩
  · exact .inl ⟨h1, h3, h2, h4.symm⟩
  · exact .inr (.inl ⟨h0, .inr ⟨h1, h2, h3, h4⟩⟩)
  · exact .inr (.inl ⟨h0, .inl ⟨h1, h2, h3, h4⟩⟩)
  · exact .inr (.inr (.inl ⟨h0, nbs_hou h3, h8, (nbs_sym (nbs_hou h3) h1).1 h3, h7, h6, h5, h4, h2⟩))
  · exact .inr (.inr (.inr ⟨h0, h2, h1, by rw [← h10]; exact h4, by rw [← h10]; exact h3, h8, h7, h6, h5, fun e => h9 e.symm, h10.symm⟩))
theorem isT_hou {s : List Int} {a b : Int} (ha : Hou a) (hb : Hou b) {t : T3} (h : IsT s a b t) : Hou t.2.1 ∧ Hou t.2.2 := by
  obtain ⟨k, x, y⟩ := t
  unfold IsT at h
  simp only at h ⊢
  rcases h with ⟨h1, h2, h3, h4⟩ | ⟨h0, ⟨h1, h2, h3, h4⟩ | ⟨h1, h2, h3, h4⟩⟩ | ⟨h0, h1, h2, h3, h4, h5, h6, h7, h8⟩ | ⟨h0, h1, h2, h3, h4, h5, h6, h7, h8, h9, h10⟩
  · rw [h2, h3]; exact ⟨ha, hb⟩
  · rw [h1]; exact ⟨nbs_hou h2, hb⟩
  · rw [h1]; exact ⟨ha, nbs_hou h2⟩
  · exact ⟨h1, nbs_hou h3⟩
  · exact ⟨nbs_hou h1, nbs_hou h2⟩
/-- How many of two there are. -/
def c01 (p : Bool) : Nat := if p = true then 1 else 0
theorem len_filter_nbs (f : Int → Bool) (a : Int) : ((nbs a).filter f).length = c01 (f (nb1 a)) + c01 (f (nb2 a)) := by
  unfold nbs c01
  cases h1 : f (nb1 a) <;> cases h2 : f (nb2 a) <;> simp [List.filter, h1, h2]
theorem sum_filter (p : Nat → Bool) (g : Nat → Nat) (l : List Nat) : ((l.filter p).map g).sum = (l.map fun j => if p j = true then g j else 0).sum := by
  induction l with
  | nil => rfl
  | cons x l ih =>
    rw [List.filter_cons]
    cases h : p x
    · simp [h, ih]
    · simp [h, ih]
theorem len_mu (s : List Int) (a b : Int) : (muL s a b (standL s (fg s a) 12)).length = ((List.range 12).map fun j => if decide (nth s j = fg s a) = true then c01 (thirdB a b ((j : Int) + 1) && thirdB a b (nb1 ((j : Int) + 1)) && (fg s (nb1 ((j : Int) + 1)) == fg s b)) + c01 (thirdB a b ((j : Int) + 1) && thirdB a b (nb2 ((j : Int) + 1)) && (fg s (nb2 ((j : Int) + 1)) == fg s b)) else 0).sum := by
  unfold muL standL
  rw [List.length_flatMap, List.map_map, sum_filter]
  congr 1
  refine List.map_congr_left fun j _ => ?_
  split
  · show (mu1 s a b ((j : Int) + 1) (nbs ((j : Int) + 1))).length = _
    unfold mu1
    rw [List.length_map, len_filter_nbs]
  · rfl
theorem len_tr1 (s : List Int) (a b x : Int) : (tr1 s a b x).length = c01 ((!(fg s x == fg s a || fg s x == fg s b)) && (thirdB a b x && thirdB a b (nb1 b) && (x != nb1 b) && (fg s x == fg s (nb1 b)))) + c01 ((!(fg s x == fg s a || fg s x == fg s b)) && (thirdB a b x && thirdB a b (nb2 b) && (x != nb2 b) && (fg s x == fg s (nb2 b)))) := by
  unfold tr1
  by_cases h : (fg s x == fg s a || fg s x == fg s b) = true
  · rw [if_pos h, h]
    rfl
  · rw [if_neg h]
    have h' : (fg s x == fg s a || fg s x == fg s b) = false := by simpa using h
    rw [h']
    unfold tr2
    rw [List.length_map, len_filter_nbs]
    rfl
end Go.Proofs.YtdnccdobnhbpeaaDoor

namespace Go.Proofs.YtdnccdobnhbpeaaDoor
open Go
set_option linter.unusedVariables false
set_option linter.unusedSimpArgs false

/-- One mutation. -/
def mu01 (s : List Int) (a b x y : Int) : Nat := c01 ((decide (fg s x = fg s a) && thirdB a b x) && (thirdB a b y && decide (fg s y = fg s b)))
theorem third_sym (a b x : Int) : thirdB b a x = thirdB a b x := by
  cases h : thirdB a b x
  · cases h' : thirdB b a x
    · rfl
    · have := third_iff.1 h'
      rw [third_iff.2 ⟨this.2, this.1⟩] at h; cases h
  · have := third_iff.1 h
    exact third_iff.2 ⟨this.2, this.1⟩
theorem mu01_swap (s : List Int) (a b x y : Int) : mu01 s b a x y = mu01 s a b y x := by
  unfold mu01
  rw [third_sym a b x, third_sym a b y]
  congr 1
  cases thirdB a b x <;> cases thirdB a b y <;> cases decide (fg s x = fg s b) <;> cases decide (fg s y = fg s a) <;> rfl
theorem mu_terms (s : List Int) (a b : Int) : (muL s a b (standL s (fg s a) 12)).length = ((List.range 12).map fun (j : Nat) => mu01 s a b ((j : Int) + 1) (nb1 ((j : Int) + 1)) + mu01 s a b ((j : Int) + 1) (nb2 ((j : Int) + 1))).sum := by
  rw [len_mu]
  congr 1
  refine List.map_congr_left fun j _ => ?_
  have e : fg s ((j : Int) + 1) = nth s j := by
    unfold fg
    rw [show ((j : Int) + 1 - 1).toNat = j by omega]
  unfold mu01
  rw [e]
  by_cases h : nth s j = fg s a
  · simp [h, c01, and_assoc]
  · simp [h, c01]
theorem mu_len (s : List Int) (a b : Int) : (muL s a b (standL s (fg s a) 12)).length = (muL s b a (standL s (fg s b) 12)).length := by
  rw [mu_terms, mu_terms]
  have f : ∀ x y, mu01 s b a x y = mu01 s a b y x := mu01_swap s a b
  simp only [f]
  obtain ⟨g, hg⟩ : ∃ g, g = mu01 s a b := ⟨_, rfl⟩
  rw [← hg]
  have e1 : (List.range 12) = [0, 1, 2, 3, 4, 5, 6, 7, 8, 9, 10, 11] := by decide
  rw [e1]
  simp only [List.map_cons, List.map_nil, List.sum_cons, List.sum_nil]
  have n1 : nb1 (((0 : Nat) : Int) + 1) = 12 ∧ nb2 (((0 : Nat) : Int) + 1) = 2 ∧ nb1 (((1 : Nat) : Int) + 1) = 1 ∧ nb2 (((1 : Nat) : Int) + 1) = 3 ∧ nb1 (((2 : Nat) : Int) + 1) = 2 ∧ nb2 (((2 : Nat) : Int) + 1) = 4 ∧ nb1 (((3 : Nat) : Int) + 1) = 3 ∧ nb2 (((3 : Nat) : Int) + 1) = 5 ∧ nb1 (((4 : Nat) : Int) + 1) = 4 ∧ nb2 (((4 : Nat) : Int) + 1) = 6 ∧ nb1 (((5 : Nat) : Int) + 1) = 5 ∧ nb2 (((5 : Nat) : Int) + 1) = 7 := by decide +kernel
  have n2 : nb1 (((6 : Nat) : Int) + 1) = 6 ∧ nb2 (((6 : Nat) : Int) + 1) = 8 ∧ nb1 (((7 : Nat) : Int) + 1) = 7 ∧ nb2 (((7 : Nat) : Int) + 1) = 9 ∧ nb1 (((8 : Nat) : Int) + 1) = 8 ∧ nb2 (((8 : Nat) : Int) + 1) = 10 ∧ nb1 (((9 : Nat) : Int) + 1) = 9 ∧ nb2 (((9 : Nat) : Int) + 1) = 11 ∧ nb1 (((10 : Nat) : Int) + 1) = 10 ∧ nb2 (((10 : Nat) : Int) + 1) = 12 ∧ nb1 (((11 : Nat) : Int) + 1) = 11 ∧ nb2 (((11 : Nat) : Int) + 1) = 1 := by decide +kernel
  obtain ⟨q1, q2, q3, q4, q5, q6, q7, q8, q9, q10, q11, q12⟩ := n1
  obtain ⟨r1, r2, r3, r4, r5, r6, r7, r8, r9, r10, r11, r12⟩ := n2
  rw [q1, q2, q3, q4, q5, q6, q7, q8, q9, q10, q11, q12, r1, r2, r3, r4, r5, r6, r7, r8, r9, r10, r11, r12]
  simp only [show (((0 : Nat) : Int) + 1) = 1 from rfl, show (((1 : Nat) : Int) + 1) = 2 from rfl, show (((2 : Nat) : Int) + 1) = 3 from rfl, show (((3 : Nat) : Int) + 1) = 4 from rfl, show (((4 : Nat) : Int) + 1) = 5 from rfl, show (((5 : Nat) : Int) + 1) = 6 from rfl, show (((6 : Nat) : Int) + 1) = 7 from rfl, show (((7 : Nat) : Int) + 1) = 8 from rfl, show (((8 : Nat) : Int) + 1) = 9 from rfl, show (((9 : Nat) : Int) + 1) = 10 from rfl, show (((10 : Nat) : Int) + 1) = 11 from rfl, show (((11 : Nat) : Int) + 1) = 12 from rfl]
  omega
/-- One translation. -/
def tr01 (s : List Int) (a b x y : Int) : Nat := c01 ((!(fg s x == fg s a || fg s x == fg s b)) && (thirdB a b x && thirdB a b y && (x != y) && (fg s x == fg s y)))
theorem tr01_swap (s : List Int) (a b x y : Int) : tr01 s b a x y = tr01 s a b y x := by
  unfold tr01
  rw [third_sym a b x, third_sym a b y]
  congr 1
  by_cases h : fg s x = fg s y
  · rw [h]
    have e : (x != y) = (y != x) := by
      by_cases h' : x = y
      · rw [h']
      · rw [show (x != y) = true by simpa using h', show (y != x) = true by simpa using fun e : y = x => h' e.symm]
    rw [e]
    cases thirdB a b x <;> cases thirdB a b y <;> cases (y != x) <;> cases (fg s y == fg s a) <;> cases (fg s y == fg s b) <;> rfl
  · have h1 : (fg s x == fg s y) = false := by simpa using h
    have h2 : (fg s y == fg s x) = false := by simpa using fun e => h e.symm
    rw [h1, h2]
    simp
theorem tr_len (s : List Int) (a b : Int) : (trL s a b (nbs a)).length = (trL s b a (nbs b)).length := by
  unfold trL nbs
  simp only [List.flatMap_cons, List.flatMap_nil, List.append_nil, List.length_append]
  rw [len_tr1, len_tr1, len_tr1, len_tr1]
  have k : ∀ a b x y, c01 ((!(fg s x == fg s a || fg s x == fg s b)) && (thirdB a b x && thirdB a b y && (x != y) && (fg s x == fg s y))) = tr01 s a b x y := fun _ _ _ _ => rfl
  rw [k, k, k, k, k, k, k, k, tr01_swap s a b, tr01_swap s a b, tr01_swap s a b, tr01_swap s a b]
  omega
theorem raw_len (s : List Int) (a b : Int) : (rawL s a b).length = (rawL s b a).length := by
  rw [rawL_eq, rawL_eq]
  simp only [List.length_append]
  have h1 : (occL s a b).length = (occL s b a).length := by
    unfold occL
    simp only [beq_iff_eq]
    by_cases h : fg s a = fg s b
    · rw [if_pos h, if_pos h.symm]; rfl
    · rw [if_neg h, if_neg (fun e => h e.symm)]
  have h2 : (cj1 s a b (nbs b)).length = (cj2 s b a (nbs b)).length := by simp [cj1, cj2]
  have h3 : (cj2 s a b (nbs a)).length = (cj1 s b a (nbs a)).length := by simp [cj1, cj2]
  rw [h1, h2, h3, mu_len, tr_len]
  omega
theorem raw_near {s : List Int} {a b : Int} (ha : Hou a) (hb : Hou b) (h : (rawL s a b).any nearB = true) : (rawL s b a).any nearB = true := by
  obtain ⟨t, ht, hn⟩ := List.any_eq_true.1 h
  refine List.any_eq_true.2 ⟨(t.1, t.2.2, t.2.1), mem_raw.2 (isT_swap ha hb (mem_raw.1 ht)), ?_⟩
  unfold nearB at hn ⊢
  exact hn
theorem raw_near_eq {s : List Int} {a b : Int} (ha : Hou a) (hb : Hou b) : (rawL s a b).any nearB = (rawL s b a).any nearB := by
  cases h : (rawL s b a).any nearB
  · cases h' : (rawL s a b).any nearB
    · rfl
    · rw [raw_near ha hb h'] at h; cases h
  · exact raw_near hb ha h
theorem jdg_facts {s : List Int} {a b : Int} (ha : Hou a) (hb : Hou b) : 1 ≤ jdg s a b ∧ jdg s a b ≤ 4 ∧ (jdg s a b ≤ 2 ↔ 0 < (rawL s a b).length) ∧ (jdg s a b ≤ 2 ∨ jdg s b a ≤ 2 → jdg s a b = jdg s b a) := by
  have hn : (rawL s a b).any nearB = true → 0 < (rawL s a b).length := fun h => by
    obtain ⟨t, ht, _⟩ := List.any_eq_true.1 h
    exact List.length_pos_of_mem ht
  have hs := raw_near_eq (s := s) ha hb
  have hl := raw_len s a b
  unfold jdg jdL
  rw [← hs, ← hl]
  cases h : (rawL s a b).any nearB
  · simp only [Bool.false_eq_true, if_false]
    by_cases h0 : 0 < (rawL s a b).length
    · simp only [if_pos h0]
      exact ⟨by decide, by decide, ⟨fun _ => h0, fun _ => by decide⟩, fun _ => by trivial⟩
    · simp only [if_neg h0]
      have p : ∀ c : Prop, [Decidable c] → 3 ≤ (if c then (3 : Int) else 4) ∧ (if c then (3 : Int) else 4) ≤ 4 := fun c _ => by split <;> decide
      obtain ⟨p1, p2⟩ := p (0 < (asL b (standL s (fg s a) 12)).length ∧ (asL b (standL s (fg s a) 12)).any hardB = false)
      obtain ⟨p3, p4⟩ := p (0 < (asL a (standL s (fg s b) 12)).length ∧ (asL a (standL s (fg s b) 12)).any hardB = false)
      refine ⟨by omega, p2, ⟨fun q => by omega, fun q => absurd q h0⟩, fun q => by omega⟩
  · simp only [if_true]
    have h0 := hn h
    exact ⟨by decide, by decide, ⟨fun _ => h0, fun _ => by decide⟩, fun _ => by trivial⟩
/-- What the law asks of a tie. -/
theorem tie_law {s : List Int} {a b : Int} (ha : Hou a) (hb : Hou b) {t : T3} (h : IsT s a b t) :
    (t.1 = 1 ∧ t.2.1 = a ∧ t.2.2 = b ∧ fg s t.2.1 = fg s t.2.2) ∨
    (t.1 = 2 ∧ apN t.2.1 t.2.2 = 1 ∧ ((t.2.2 = b ∧ fg s t.2.1 = fg s a) ∨ (t.2.1 = a ∧ fg s t.2.2 = fg s b))) ∨
    (t.1 = 3 ∧ fg s t.2.1 = fg s a ∧ fg s t.2.2 = fg s b ∧ apN t.2.1 t.2.2 = 1 ∧ apN t.2.1 a ≠ 0 ∧ apN t.2.2 b ≠ 0) ∨
    (t.1 = 4 ∧ fg s t.2.1 = fg s t.2.2 ∧ fg s t.2.1 ≠ fg s a ∧ fg s t.2.1 ≠ fg s b ∧ apN t.2.1 a = 1 ∧ apN t.2.2 b = 1) := by
  obtain ⟨hx, hy⟩ := isT_hou ha hb h
  obtain ⟨k, x, y⟩ := t
  unfold IsT at h
  simp only at h hx hy ⊢
  rcases h with ⟨h1, h2, h3, h4⟩ | ⟨h0, ⟨h1, h2, h3, h4⟩ | ⟨h1, h2, h3, h4⟩⟩ | ⟨h0, h1, h2, h3, h4, h5, h6, h7, h8⟩ | ⟨h0, h1, h2, h3, h4, h5, h6, h7, h8, h9, h10⟩
  · exact .inl ⟨h1, h2, h3, by rw [h2, h3]; exact h4⟩
  · exact .inr (.inl ⟨h0, by rw [h1]; exact (nbs_ap hx hb).1 h2, .inl ⟨h1, h4⟩⟩)
  · exact .inr (.inl ⟨h0, by rw [h1]; rw [h1] at hx; exact (nbs_ap ha hy).1 ((nbs_sym hy ha).1 h2), .inr ⟨h1, h4⟩⟩)
  · exact .inr (.inr (.inl ⟨h0, h2, h8, (nbs_ap hx hy).1 ((nbs_sym hy hx).1 h3), ap_ne hx ha h4, ap_ne hy hb h7⟩))
  · exact .inr (.inr (.inr ⟨h0, h10, h3, h4, (nbs_ap hx ha).1 h1, (nbs_ap hy hb).1 h2⟩))
end Go.Proofs.YtdnccdobnhbpeaaDoor

namespace Go.Proofs.YtdnccdobnhbpeaaDoor
open Go Go.RowKit Go.Shelf Go.Maps Go.ChangeShapes
set_option linter.unusedVariables false
set_option linter.unusedSimpArgs false

def bys (xs : List Int) : Array Value := (xs.map (Value.int .u8)).toArray
theorem bys_get {xs : List Int} {k : Nat} (h : k < xs.length) : (bys xs)[k]? = some (.int .u8 (nth xs k)) := by simp [bys, nth_eq h, h]
def skyTo (zs : List Int) (k : Nat) : List Int := (List.range 12).map fun j => if j < k then nth zs j % 16 else 0
theorem skyTo_len (zs : List Int) (k : Nat) : (skyTo zs k).length = 12 := by simp [skyTo]
theorem skyTo_set (zs : List Int) (k : Nat) (hk : k < 12) : (skyTo zs k).set k (nth zs k % 16) = skyTo zs (k + 1) := by
  apply List.ext_getElem
  · simp [skyTo]
  · intro i h1 h2
    simp only [skyTo, List.getElem_set, List.getElem_map, List.getElem_range]
    by_cases e : k = i
    · subst e; simp
    · rw [if_neg e]
      by_cases h : i < k
      · rw [if_pos h, if_pos (by omega)]
      · rw [if_neg h, if_neg (by omega)]
def skyA (zs : List Int) : Int := nth zs 12 % 12 + 1
def skyB (zs : List Int) : Int := (nth zs 12 % 12 + 1 + nth zs 13 % 11) % 12 + 1
theorem results_cell_slot2 {P : Program} {fn : Func} {p q r : Tmp} {ty : TypeId} (h : fn.results = #[.cell p ty, .tmp q, .tmp r]) (tmps : Array Value) (w : World) (g : Nat) (t : TypeId) (cs : Array Value) (fr : Nat × Nat) (d : TypeDesc)
    (hp : tmps.getD p undef = .pointer (some ⟨g, 0, none⟩)) (hg : w.heap[g]? = some (.cells cs t fr))
    (hu : P.underlying ty = some d) (hd : (match d with | .struct _ | .array _ _ => true | _ => false) = true) (hi : (P.info? ty).map (·.size) = some cs.size) (v : Value) (hv : tmps.getD q undef = v) (u : Value) (hw : tmps.getD r undef = u) :
    (results fn tmps).run P w = .ok (.tuple #[.agg cs, v, u]) w := by
  have hp' : tmps[p]?.getD undef = .pointer (some ⟨g, 0, none⟩) := by simpa using hp
  have hv' : tmps[q]?.getD undef = v := by simpa using hv
  have hw' : tmps[r]?.getD undef = u := by simpa using hw
  simp [results, h, hp', hv', hw', asAddr, run_loadVar_row w g t ty cs fr d hg hu hd hi]
theorem info_sky : (Tryd.prog.info? 61).map (·.size) = some 14 := by kernel_rfl
set_option maxRecDepth 100000 in
set_option maxHeartbeats 4000000 in
theorem sky_any (zs : List Int) (hz : zs.length = 14) (hb : ∀ k, k < 14 → 0 ≤ nth zs k ∧ nth zs k < 256) (w : World) :
    Calls Tryd.prog 27 #[.agg (bys zs)] w fun e w' => e = .returned (.tuple #[.agg (arr (skyTo zs 12)), .int .i64 (skyA zs), .int .i64 (skyB zs)]) ∧ Below w.heap.size w w' := by
  have hX := Blk.new w 61 (bys zs)
  have hB0 := below1 w (.cells (bys zs) 61)
  go_enter Tryd.func27, Tryd.ntmps27
  go_wp2
  go_loopw [6] (fun i wr => ∃ k : Nat, k ≤ 12 ∧ i = .int .i64 k ∧ Blk wr w.heap.size 61 (bys zs) ∧ Blk wr (w.heap.size + 1 + 1) 24 (arr (skyTo zs k)) ∧ Below w.heap.size w wr ∧ (∃ c0 : Array Value, c0.size = 12 ∧ Blk wr (w.heap.size + 1) 24 c0)) (fun i _ => 12 - (intOf i).toNat)
  case atStart =>
    refine ⟨0, by omega, rfl, ?_, ?_, ?_, ?_⟩
    · exact (hX.alloc _).alloc _
    · have h := newAt (W := (w.alloc (.cells (bys zs) 61)).alloc (.cells #[.int .i64 0, .int .i64 0, .int .i64 0, .int .i64 0, .int .i64 0, .int .i64 0, .int .i64 0, .int .i64 0, .int .i64 0, .int .i64 0, .int .i64 0, .int .i64 0] 24)) (o := .cells #[.int .i64 0, .int .i64 0, .int .i64 0, .int .i64 0, .int .i64 0, .int .i64 0, .int .i64 0, .int .i64 0, .int .i64 0, .int .i64 0, .int .i64 0, .int .i64 0] 24) (n := w.heap.size + 1 + 1) (by simp)
      exact h
    · exact (hB0.alloc (by simp) _).alloc (by simp; omega) _
    · refine ⟨#[.int .i64 0, .int .i64 0, .int .i64 0, .int .i64 0, .int .i64 0, .int .i64 0, .int .i64 0, .int .i64 0, .int .i64 0, .int .i64 0, .int .i64 0, .int .i64 0], rfl, ?_⟩
      have h : Blk ((w.alloc (.cells (bys zs) 61)).alloc (.cells #[.int .i64 0, .int .i64 0, .int .i64 0, .int .i64 0, .int .i64 0, .int .i64 0, .int .i64 0, .int .i64 0, .int .i64 0, .int .i64 0, .int .i64 0, .int .i64 0] 24)) (w.heap.size + 1) 24 #[.int .i64 0, .int .i64 0, .int .i64 0, .int .i64 0, .int .i64 0, .int .i64 0, .int .i64 0, .int .i64 0, .int .i64 0, .int .i64 0, .int .i64 0, .int .i64 0] := newAt (by simp)
      exact h.alloc _
  case round =>
    obtain ⟨k, hk, rfl, hX2, hH, hB, c0, hc0, hR⟩ := hrel
    by_cases hlt : k < 12
    · have hc1 := hX2.cell k
      rw [bys_get (by omega)] at hc1
      have hc2 := hH.cell k
      rw [arr_get (by rw [skyTo_len]; exact hlt)] at hc2
      have hf2 := hH.frozen k
      obtain ⟨b1, b2⟩ := hb k (by omega)
      go_wp2
      go_roundw
      case rel =>
        refine ⟨k + 1, by omega, by go_num, hX2.far (by simp; omega) _, ?_, ?_, c0, hc0, hR.far (by simp) _⟩
        · have h9 := hH.set_ k (.int .i64 (nth zs k % 16))
          rw [arr_set, skyTo_set zs k hlt] at h9
          exact h9
        · exact hB.setCell (by simp; omega) _
      case measure => simp [intOf]; omega
    · obtain rfl : k = 12 := by omega
      have hc1 := hX2.cell 12
      rw [bys_get (by omega)] at hc1
      have hc2 := hX2.cell 13
      rw [bys_get (by omega)] at hc2
      obtain ⟨b1, b2⟩ := hb 12 (by omega)
      obtain ⟨b3, b4⟩ := hb 13 (by omega)
      have hm1 : 0 ≤ nth zs 12 % 12 ∧ nth zs 12 % 12 < 12 := ⟨by omega, by omega⟩
      have hm2 : 0 ≤ nth zs 13 % 11 ∧ nth zs 13 % 11 < 11 := ⟨by omega, by omega⟩
      have hm3 : 0 ≤ (nth zs 12 % 12 + 1 + nth zs 13 % 11) % 12 ∧ (nth zs 12 % 12 + 1 + nth zs 13 % 11) % 12 < 12 := ⟨by omega, by omega⟩
      have HRr := Lib.hid hR
      have HRh := Lib.hid hH
      have HIh := Lib.hid (show (Tryd.prog.info? 24).map (·.size) = some (arr (skyTo zs 12)).size by rw [arr_size, skyTo_len]; exact info_houses)
      have HIz := Lib.hid (show c0.size = (arr (skyTo zs 12)).size by rw [arr_size, skyTo_len]; exact hc0)
      clear hR hH hX hB0
      go_wp2_with (first | (refine wpList_load_row rfl 24 (.tmp 5) rfl (w.heap.size + 1 + 1) rfl 24 (arr (skyTo zs 12)) (0, 0) _ HRh.out Tryd.underlying24 rfl HIh.out ?_) | (refine wpList_store_row rfl 24 (.tmp 2) (.tmp 34) rfl (w.heap.size + 1) (arr (skyTo zs 12)) rfl rfl 24 _ HRr.out HIh.out HIz.out (arr_one _) ?_))
      exact bodyPost_ret (v := .tuple #[.agg (arr (skyTo zs 12)), .int .i64 (skyA zs), .int .i64 (skyB zs)]) (results_cell_slot2 Tryd.results27 _ _ (w.heap.size + 1) 24 _ (0, 0) _ rfl (HRr.out.row _) Tryd.underlying24 rfl HIh.out _ rfl _ rfl) rfl ⟨rfl, below_setRow hB (by omega) _⟩
end Go.Proofs.YtdnccdobnhbpeaaDoor

namespace Go.Proofs.YtdnccdobnhbpeaaDoor
open Go Go.RowKit
set_option linter.unusedVariables false
set_option linter.unusedSimpArgs false
attribute [local go_sem] Oper.semAt_some

set_option maxRecDepth 100000 in
theorem eql_tie (a b c d e f : Int) (w : World) : (binOp .eql 66 (.agg #[.int .i64 a, .int .i64 b, .int .i64 c]) (.agg #[.int .i64 d, .int .i64 e, .int .i64 f])).run Tryd.prog w = .ok (.bool (decide ((a, b, c) = (d, e, f)))) w := by
  have ht : Tryd.prog.underlying 66 = some (.struct (Tryd.prog.fieldsOf 66)) := by unfold Program.fieldsOf; rw [Tryd.underlying66]
  have hp : Tryd.prog.stoodInHeld 66 = false := by kernel_rfl
  rw [run_eql_struct, show (10000 : Nat) = 9999 + 1 from rfl, run_equalIn_struct w 9999 _ _ _ ht hp]
  unfold Program.fieldsOf
  rw [Tryd.underlying66]
  have p : ∀ (t : TypeId) (x y z : Int) (k : Nat) (v : Value), (#[Value.int .i64 x, .int .i64 y, .int .i64 z] : Array Value)[k]? = some v → Tryd.prog.underlying t = some (.int .i64) → (part t #[.int .i64 x, .int .i64 y, .int .i64 z] k).run Tryd.prog w = .ok v w := fun t x y z k v h h2 => by
    simp [part, isAgg, run_underlying h2, Sem.run_bind, h]
  have p0 : ∀ x y z : Int, (part 64 #[.int .i64 x, .int .i64 y, .int .i64 z] 0).run Tryd.prog w = .ok (.int .i64 x) w := fun x y z => p _ x y z 0 _ rfl Tryd.underlying64
  have p1 : ∀ x y z : Int, (part 3 #[.int .i64 x, .int .i64 y, .int .i64 z] 1).run Tryd.prog w = .ok (.int .i64 y) w := fun x y z => p _ x y z 1 _ rfl Tryd.underlying3
  have p2 : ∀ x y z : Int, (part 3 #[.int .i64 x, .int .i64 y, .int .i64 z] 2).run Tryd.prog w = .ok (.int .i64 z) w := fun x y z => p _ x y z 2 _ rfl Tryd.underlying3
  have q0 : ∀ x y : Int, (Op.equalIn 9999 64 (.int .i64 x) (.int .i64 y)).run Tryd.prog w = .ok (x == y) w := fun x y => run_equalIn_int w 9998 _ .i64 .i64 x y Tryd.underlying64
  have q1 : ∀ x y : Int, (Op.equalIn 9999 3 (.int .i64 x) (.int .i64 y)).run Tryd.prog w = .ok (x == y) w := fun x y => run_equalIn_int w 9998 _ .i64 .i64 x y Tryd.underlying3
  simp only [Op.eqFields, Sem.run_bind, p0, p1, p2, q0, q1, Result.andThen_ok, Sem.run_ite, Sem.run_pure]
  by_cases h1 : a = d
  · by_cases h2 : b = e
    · by_cases h3 : c = f
      · simp [h1, h2, h3, Op.eqFields, p0, p1, p2, q0, q1]
      · simp [h1, h2, h3, Op.eqFields, p0, p1, p2, q0, q1]
    · simp [h1, h2, Op.eqFields, p0, p1, p2, q0, q1]
  · simp [h1, Op.eqFields, p0, p1, p2, q0, q1]
section
variable {P : Program} {o : Oper} {a : Act} {C : World → Prop} {K : Act → Prop}
theorem quiet_eql_tie (x y : Operand) (ho : o.op = .binOp .eql 66 x y 66) (b c d e f g : Int) (hx : a.eval x = .agg #[.int .i64 b, .int .i64 c, .int .i64 d]) (hy : a.eval y = .agg #[.int .i64 e, .int .i64 f, .int .i64 g]) (hk : K (a.put o.dst (.bool (decide ((b, c, d) = (e, f, g)))))) : o.quiet Tryd.prog a C K :=
  ⟨_, fun w hw => by
    unfold Oper.quietAt execOp
    have hm : Tryd.prog.eqGuardType Tryd.prog.depth 66 = false := by kernel_rfl
    simp only [ho, hx, hy, Sem.run_bind, run_eqGuard_agg w .eql _ x y _ _ hm, eql_tie, Result.andThen_ok]
    exact ⟨rfl, rfl⟩, hk⟩
theorem run_index_h (a : Addr) (i : Int) (w : World) (h0 : 0 ≤ i) (h1 : i < 12) : (Instr.indexAt 24 (.pointer (some a)) (.int .i64 i)).run Tryd.prog w = .ok (.pointer (some (a.add i.toNat))) w := by
  have h : Tryd.prog.underlying 24 = some (.array 12 22) := Tryd.underlying24
  have hn : (sizeOf 22).run Tryd.prog w = .ok 1 w := by
    have := info_fig
    simp only [Option.map_eq_some_iff] at this
    obtain ⟨i, hi, hs⟩ := this
    simp [sizeOf, typeInfo, hi, hs]
  simp [Instr.indexAt, Sem.run_bind, asIntOf, run_underlying h, Instr.sureAddr, hn, h0, h1]
theorem quiet_index_h (x y : Operand) (ho : o.op = .indexAddr 24 x y) (g : Nat) (i : Int) (hx : a.eval x = .pointer (some ⟨g, 0, none⟩)) (hy : a.eval y = .int .i64 i) (h0 : 0 ≤ i) (h1 : i < 12) (hk : K (a.put o.dst (.pointer (some ⟨g, i.toNat, none⟩)))) : o.quiet Tryd.prog a C K :=
  ⟨_, fun w hw => by
    unfold Oper.quietAt execOp
    simp only [ho, hx, hy, Sem.run_bind, run_index_h ⟨g, 0, none⟩ i w h0 h1, Result.andThen_ok]
    have e : (⟨g, 0, none⟩ : Addr).add i.toNat = ⟨g, i.toNat, none⟩ := by simp [Addr.add]; omega
    rw [e]
    exact ⟨rfl, rfl⟩, hk⟩
end
end Go.Proofs.YtdnccdobnhbpeaaDoor

