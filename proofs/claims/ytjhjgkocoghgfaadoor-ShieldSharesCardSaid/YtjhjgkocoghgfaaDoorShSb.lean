/-
  Plain facts on counts of charts: how many charts a judge has.
-/
import Derived.Test.YtjhjgkocoghgfaaDoorShSa
namespace Go.Proofs.YtjhjgkocoghgfaaDoor
open Go Go.RowKit
set_option linter.unusedVariables false

theorem bitZ (l : Int) (h0 : 0 ≤ l) (h3 : l ≤ 3) : bitB 0 l = false :=
  lines1 (P := fun l => bitB 0 l = false) (by decide) h0 h3
theorem sum_bit (xs : List Int) (hx : ∀ x ∈ xs, Fig x) (y : Int) (hy : Fig y) (l : Int) (h0 : 0 ≤ l) (h3 : l ≤ 3) : Fig (sumL y xs) ∧ bitB (sumL y xs) l = xs.foldl (fun b x => b != bitB x l) (bitB y l) := by
  induction xs generalizing y with
  | nil => exact ⟨hy, rfl⟩
  | cons x r ih =>
    have hxy := xorF_fig hy (hx x (by simp))
    have := ih (fun z hz => hx z (by simp [hz])) (xorF y x) hxy
    simp only [sumL, List.foldl_cons]
    rw [← xor_bit y x l hy (hx x (by simp)) h0 h3]
    exact this
/-- The lines of the judge: of the mothers' lines l, and of the lines of the mother l. -/
theorem judge_bit {S : List Int} (c : IsChart S) (l : Nat) (hl : l < 4) : bitB (nth S 14) l = (((((((bitB (nth S 0) l != bitB (nth S 1) l) != bitB (nth S 2) l) != bitB (nth S 3) l) != bitB (nth S l) 0) != bitB (nth S l) 1) != bitB (nth S l) 2) != bitB (nth S l) 3) := by
  have f := fun k (hk : k < 16) => c.figs k hk
  have h := (sum_bit [nth S 0, nth S 1, nth S 2, nth S 3, nth S 4, nth S 5, nth S 6, nth S 7] (by
    intro x hx
    simp only [List.mem_cons, List.not_mem_nil, or_false] at hx
    rcases hx with rfl | rfl | rfl | rfl | rfl | rfl | rfl | rfl
    · exact f 0 (by omega)
    · exact f 1 (by omega)
    · exact f 2 (by omega)
    · exact f 3 (by omega)
    · exact f 4 (by omega)
    · exact f 5 (by omega)
    · exact f 6 (by omega)
    · exact f 7 (by omega)) 0 ⟨by omega, by omega⟩ (l : Int) (by omega) (by omega)).2
  rw [judge_all c, bitZ _ (by omega) (by omega)] at h
  have d : ∀ j, j < 4 → bitB (nth S (4 + j)) l = bitB (nth S l) j := fun j hj => by
    rw [c.low j hj]
    have b := bit_fig4 (bitB (nth S 0) j) (bitB (nth S 1) j) (bitB (nth S 2) j) (bitB (nth S 3) j)
    have e : l = 0 ∨ l = 1 ∨ l = 2 ∨ l = 3 := by omega
    rcases e with rfl | rfl | rfl | rfl
    · exact b.1
    · exact b.2.1
    · exact b.2.2.1
    · exact b.2.2.2
  have d0 := d 0 (by omega)
  have d1 := d 1 (by omega)
  have d2 := d 2 (by omega)
  have d3 := d 3 (by omega)
  simp only [List.foldl_cons, List.foldl_nil] at h
  rw [show nth S 4 = nth S (4 + 0) from rfl, show nth S 5 = nth S (4 + 1) from rfl, show nth S 6 = nth S (4 + 2) from rfl, show nth S 7 = nth S (4 + 3) from rfl, d0, d1, d2, d3] at h
  rw [h]
  simp only [Bool.false_bne]
  rfl

/-- The lines of the judge that the first three mothers give; and the last one. -/
def kB (a b c : Int) (l : Nat) : Bool := if l = 0 then ((((((bitB a 0 != bitB b 0) != bitB c 0) != bitB a 0) != bitB a 1) != bitB a 2) != bitB a 3)
  else if l = 1 then ((((((bitB a 1 != bitB b 1) != bitB c 1) != bitB b 0) != bitB b 1) != bitB b 2) != bitB b 3)
  else if l = 2 then ((((((bitB a 2 != bitB b 2) != bitB c 2) != bitB c 0) != bitB c 1) != bitB c 2) != bitB c 3)
  else ((bitB a 3 != bitB b 3) != bitB c 3)
def lB (d : Int) (l : Nat) : Bool := if l = 3 then ((bitB d 0 != bitB d 1) != bitB d 2) else bitB d l
theorem split0 : ∀ a0 a1 a2 a3 b0 c0 d0 : Bool, (((((((a0 != b0) != c0) != d0) != a0) != a1) != a2) != a3) = ((((((((a0 != b0) != c0) != a0) != a1) != a2) != a3)) != d0) := by decide
theorem split1 : ∀ b0 b1 b2 b3 a1 c1 d1 : Bool, (((((((a1 != b1) != c1) != d1) != b0) != b1) != b2) != b3) = ((((((((a1 != b1) != c1) != b0) != b1) != b2) != b3)) != d1) := by decide
theorem split2 : ∀ c0 c1 c2 c3 a2 b2 d2 : Bool, (((((((a2 != b2) != c2) != d2) != c0) != c1) != c2) != c3) = ((((((((a2 != b2) != c2) != c0) != c1) != c2) != c3)) != d2) := by decide
theorem split3 : ∀ a3 b3 c3 d0 d1 d2 d3 : Bool, (((((((a3 != b3) != c3) != d3) != d0) != d1) != d2) != d3) = (((a3 != b3) != c3) != ((d0 != d1) != d2)) := by decide
theorem judge_split {a b c d : Int} {S : List Int} (hc : IsChart S) (h0 : nth S 0 = a) (h1 : nth S 1 = b) (h2 : nth S 2 = c) (h3 : nth S 3 = d) (l : Nat) (hl : l < 4) : bitB (nth S 14) l = (kB a b c l != lB d l) := by
  have h := judge_bit hc l hl
  have e : l = 0 ∨ l = 1 ∨ l = 2 ∨ l = 3 := by omega
  rcases e with rfl | rfl | rfl | rfl
  · rw [h, h0, h1, h2, h3]
    exact split0 (bitB a 0) (bitB a 1) (bitB a 2) (bitB a 3) (bitB b 0) (bitB c 0) (bitB d 0)
  · rw [h, h0, h1, h2, h3]
    exact split1 (bitB b 0) (bitB b 1) (bitB b 2) (bitB b 3) (bitB a 1) (bitB c 1) (bitB d 1)
  · rw [h, h0, h1, h2, h3]
    exact split2 (bitB c 0) (bitB c 1) (bitB c 2) (bitB c 3) (bitB a 2) (bitB b 2) (bitB d 2)
  · rw [h, h0, h1, h2, h3]
    exact split3 (bitB a 3) (bitB b 3) (bitB c 3) (bitB d 0) (bitB d 1) (bitB d 2) (bitB d 3)

/-- Which last mothers give the lines that are wanted. -/
def wantB (g : Nat → Bool) (d : Nat) : Bool := lB d 0 == g 0 && lB d 1 == g 1 && lB d 2 == g 2 && lB d 3 == g 3
theorem want_count : ∀ g0 g1 g2 g3 : Bool, ((List.range 16).filter (wantB fun l => if l = 0 then g0 else if l = 1 then g1 else if l = 2 then g2 else g3)).length = if (((g0 != g1) != g2) != g3) = true then 0 else 2 := by decide +kernel
theorem bits_eq {x y : Int} (hx : Fig x) (hy : Fig y) (h : ∀ l : Nat, l < 4 → bitB x (l : Int) = bitB y (l : Int)) : x = y := by
  rw [← fig4_bits x hx, ← fig4_bits y hy]
  have h0 := h 0 (by omega); have h1 := h 1 (by omega); have h2 := h 2 (by omega); have h3 := h 3 (by omega)
  exact congr (congr (congr (congrArg fig4 h0) h1) h2) h3
/-- All sets, but one figure for the judge. -/
def eachS (v : Int) : List Int := (List.replicate 16 65535).set 14 v
theorem inV_all : ∀ f : Fin 16, inV 65535 f.val = true := by decide +kernel
theorem inV_one : ∀ f g : Fin 16, inV (2 ^ f.val) g.val = decide (g.val = f.val) := by decide +kernel
theorem nib_fig (x : Nat) : ∀ k, k < 4 → Fig (nth (nibs x) k) := fun k hk => by
  have e : k = 0 ∨ k = 1 ∨ k = 2 ∨ k = 3 := by omega
  rcases e with rfl | rfl | rfl | rfl
  · show Fig ((x : Int) / 4096 % 16); exact ⟨by omega, by omega⟩
  · show Fig ((x : Int) / 256 % 16); exact ⟨by omega, by omega⟩
  · show Fig ((x : Int) / 16 % 16); exact ⟨by omega, by omega⟩
  · show Fig ((x : Int) % 16); exact ⟨by omega, by omega⟩
theorem chV_chart (x : Nat) : IsChart (chV x) := isChart rfl (nib_fig x)
theorem chV_moth (x : Nat) {j : Nat} (hj : j < 4) : nth (chV x) j = nth (nibs x) j := dP_moth _ rfl hj
/-- A chart has the figure as its judge. -/
theorem each_iff {f : Nat} (hf : f < 16) (x : Nat) : insC (eachS (2 ^ f)) x = decide (nth (chV x) 14 = (f : Int)) := by
  have hc := chV_chart x
  unfold insC eachS
  rw [insB_set (by simp) (by omega)]
  have h1 : restB (List.replicate 16 65535) (chV x) 14 = true := by
    rw [restB_iff]
    intro i hi _
    rw [inB_eq, show nth (List.replicate 16 (65535 : Int)) i = 65535 by rw [nth_eq (by simpa using hi)]; exact List.getElem_replicate ..]
    exact figs1 (P := fun g => inV 65535 g = true) inV_all (hc.figs i hi)
  rw [h1, Bool.true_and]
  exact figs1 (P := fun g => inV (2 ^ f) g = decide (g = (f : Int))) (fun g => by
    have := inV_one ⟨f, hf⟩ g
    simp only at this
    rw [this]
    by_cases e : g.val = f
    · simp [e]
    · have : ¬ (g.val : Int) = f := by omega
      simp [e, this]) (hc.figs 14 (by omega))

def parB4 (g : Nat → Bool) : Bool := ((g 0 != g 1) != g 2) != g 3
theorem ones_par : ∀ f : Fin 16, (onesF f.val % 2 = 1 ↔ parB4 (fun l => bitB f.val (l : Nat)) = true) := by decide +kernel
theorem par_bne : ∀ a0 a1 a2 a3 b0 b1 b2 b3 : Bool, ((((a0 != b0) != (a1 != b1)) != (a2 != b2)) != (a3 != b3)) = ((((a0 != a1) != a2) != a3) != (((b0 != b1) != b2) != b3)) := by decide
theorem lB_zero : ∀ l : Fin 4, lB 0 l.val = false := by decide +kernel
theorem block_moth (y t : Nat) (ht : t < 16) : nibs ((16 * y + t : Nat) : Int) = [((y / 256 % 16 : Nat) : Int), ((y / 16 % 16 : Nat) : Int), ((y % 16 : Nat) : Int), (t : Int)] := by
  unfold nibs
  congr 1
  · omega
  congr 1
  · omega
  congr 1
  · omega
  congr 1
  omega
theorem block_bit (y t : Nat) (ht : t < 16) (l : Nat) (hl : l < 4) : bitB (nth (chV (16 * y + t)) 14) l = (kB ((y / 256 % 16 : Nat) : Int) ((y / 16 % 16 : Nat) : Int) ((y % 16 : Nat) : Int) l != lB t l) := by
  refine judge_split (chV_chart _) ?_ ?_ ?_ ?_ l hl
  · rw [chV_moth _ (by omega), block_moth y t ht]; rfl
  · rw [chV_moth _ (by omega), block_moth y t ht]; rfl
  · rw [chV_moth _ (by omega), block_moth y t ht]; rfl
  · rw [chV_moth _ (by omega), block_moth y t ht]; rfl
theorem parB4_congr {g g' : Nat → Bool} (h : ∀ l, l < 4 → g l = g' l) : parB4 g = parB4 g' := by
  unfold parB4
  rw [h 0 (by omega), h 1 (by omega), h 2 (by omega), h 3 (by omega)]
theorem kB_even (y : Nat) : parB4 (fun l => kB ((y / 256 % 16 : Nat) : Int) ((y / 16 % 16 : Nat) : Int) ((y % 16 : Nat) : Int) l) = false := by
  have hc := chV_chart (16 * y + 0)
  have he := judge_even hc
  have hb := block_bit y 0 (by omega)
  have hp := figs1 (P := fun f => (onesF f % 2 = 1 ↔ parB4 (fun l => bitB f (l : Nat)) = true)) ones_par (hc.figs 14 (by omega))
  have hk : parB4 (fun l => bitB (nth (chV (16 * y + 0)) 14) (l : Nat)) = parB4 (fun l => kB ((y / 256 % 16 : Nat) : Int) ((y / 16 % 16 : Nat) : Int) ((y % 16 : Nat) : Int) l) :=
    parB4_congr fun l hl => by
      have h := hb l hl
      rw [h, show lB ((0 : Nat) : Int) l = false from lB_zero ⟨l, hl⟩]
      simp
  rw [← hk]
  cases h : parB4 (fun l => bitB (nth (chV (16 * y + 0)) 14) (l : Nat))
  · rfl
  · have := hp.2 h
    omega
theorem block_count {f : Nat} (hf : f < 16) (y : Nat) : ((List.range 16).filter (fun t => insC (eachS (2 ^ f)) (16 * y + t))).length = if onesF (f : Int) % 2 = 1 then 0 else 2 := by
  have hff : Fig (f : Int) := ⟨by omega, by omega⟩
  obtain ⟨k, hk⟩ : ∃ k : Nat → Bool, (fun l => kB ((y / 256 % 16 : Nat) : Int) ((y / 16 % 16 : Nat) : Int) ((y % 16 : Nat) : Int) l) = k := ⟨_, rfl⟩
  have hke := kB_even y
  rw [hk] at hke
  have hkl : ∀ l, kB ((y / 256 % 16 : Nat) : Int) ((y / 16 % 16 : Nat) : Int) ((y % 16 : Nat) : Int) l = k l := fun l => by rw [← hk]
  have e : (List.range 16).filter (fun t => insC (eachS (2 ^ f)) (16 * y + t)) = (List.range 16).filter (wantB fun l => if l = 0 then (bitB (f : Int) ((0 : Nat) : Int) != k 0) else if l = 1 then (bitB (f : Int) ((1 : Nat) : Int) != k 1) else if l = 2 then (bitB (f : Int) ((2 : Nat) : Int) != k 2) else (bitB (f : Int) ((3 : Nat) : Int) != k 3)) := by
    refine List.filter_congr fun t ht => ?_
    have ht16 : t < 16 := by simpa using ht
    have hb := block_bit y t ht16
    have hc := chV_chart (16 * y + t)
    rw [each_iff hf]
    have x0 := hb 0 (by omega); have x1 := hb 1 (by omega); have x2 := hb 2 (by omega); have x3 := hb 3 (by omega)
    rw [hkl] at x0 x1 x2 x3
    obtain ⟨J, hJ⟩ : ∃ J, nth (chV (16 * y + t)) 14 = J := ⟨_, rfl⟩
    have hJf : Fig J := hJ ▸ hc.figs 14 (by omega)
    rw [hJ] at x0 x1 x2 x3 ⊢
    have hd : decide (J = (f : Int)) = ((((bitB J ((0 : Nat) : Int) == bitB (f : Int) ((0 : Nat) : Int)) && (bitB J ((1 : Nat) : Int) == bitB (f : Int) ((1 : Nat) : Int))) && (bitB J ((2 : Nat) : Int) == bitB (f : Int) ((2 : Nat) : Int))) && (bitB J ((3 : Nat) : Int) == bitB (f : Int) ((3 : Nat) : Int))) := by
      rw [Bool.eq_iff_iff]
      simp only [decide_eq_true_eq, Bool.and_eq_true, beq_iff_eq]
      constructor
      · rintro rfl; exact ⟨⟨⟨rfl, rfl⟩, rfl⟩, rfl⟩
      · rintro ⟨⟨⟨a0, a1⟩, a2⟩, a3⟩
        refine bits_eq hJf hff fun l hl => ?_
        have e : l = 0 ∨ l = 1 ∨ l = 2 ∨ l = 3 := by omega
        rcases e with rfl | rfl | rfl | rfl
        · exact a0
        · exact a1
        · exact a2
        · exact a3
    rw [hd, x0, x1, x2, x3]
    have hw : wantB (fun l => if l = 0 then (bitB (f : Int) ((0 : Nat) : Int) != k 0) else if l = 1 then (bitB (f : Int) ((1 : Nat) : Int) != k 1) else if l = 2 then (bitB (f : Int) ((2 : Nat) : Int) != k 2) else (bitB (f : Int) ((3 : Nat) : Int) != k 3)) t = ((((lB (t : Int) 0 == (bitB (f : Int) ((0 : Nat) : Int) != k 0)) && (lB (t : Int) 1 == (bitB (f : Int) ((1 : Nat) : Int) != k 1))) && (lB (t : Int) 2 == (bitB (f : Int) ((2 : Nat) : Int) != k 2))) && (lB (t : Int) 3 == (bitB (f : Int) ((3 : Nat) : Int) != k 3))) := rfl
    rw [hw]
    have sw : ∀ p q r : Bool, ((p != q) == r) = (q == (r != p)) := by decide
    rw [sw, sw, sw, sw]
  rw [e, want_count, par_bne]
  have hp := figs1 (P := fun f => (onesF f % 2 = 1 ↔ parB4 (fun l => bitB f (l : Nat)) = true)) ones_par hff
  have h1 : ((((bitB (f : Int) ((0 : Nat) : Int) != bitB (f : Int) ((1 : Nat) : Int)) != bitB (f : Int) ((2 : Nat) : Int)) != bitB (f : Int) ((3 : Nat) : Int))) = parB4 (fun l => bitB (f : Int) (l : Nat)) := rfl
  have h2 : (((k 0 != k 1) != k 2) != k 3) = parB4 k := rfl
  rw [h1, h2, hke]
  cases h : parB4 (fun l => bitB (f : Int) (l : Nat))
  · rw [h] at hp
    have : ¬ onesF (f : Int) % 2 = 1 := fun hh => by have := hp.1 hh; cases this
    rw [if_neg this]
    rfl
  · rw [if_pos (hp.2 h)]
    rfl
theorem cnt_blocks {f : Nat} (hf : f < 16) (n : Nat) : cntN (eachS (2 ^ f)) (upto id (16 * n)) = n * (if onesF (f : Int) % 2 = 1 then 0 else 2) := by
  induction n with
  | zero => simp [cntN, upto]
  | succ n ih =>
    have e : upto id (16 * (n + 1)) = upto id (16 * n) ++ (List.range 16).map (fun t => 16 * n + t) := by
      unfold upto
      rw [show 16 * (n + 1) = 16 * n + 16 by omega, List.range_add, List.map_append]
      simp
    unfold cntN at ih ⊢
    rw [e, List.filter_append, List.length_append, ih, List.filter_map, List.length_map]
    have hb := block_count hf n
    have : ((List.range 16).filter (insC (eachS (2 ^ f)) ∘ fun t => 16 * n + t)).length = if onesF (f : Int) % 2 = 1 then 0 else 2 := hb
    rw [this, Nat.add_mul, Nat.one_mul]
theorem cnt_judge {f : Nat} (hf : f < 16) : cntN (eachS (2 ^ f)) (upto id 65536) = if onesF (f : Int) % 2 = 1 then 0 else 8192 := by
  have := cnt_blocks hf 4096
  rw [show 16 * 4096 = 65536 from rfl] at this
  rw [this]
  split <;> rfl
end Go.Proofs.YtjhjgkocoghgfaaDoor
