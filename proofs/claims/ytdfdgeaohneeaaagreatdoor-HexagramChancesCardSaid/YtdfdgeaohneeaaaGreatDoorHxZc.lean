/-
  Plain facts for HexagramChances: how many lines of each kind a cast has; the weight of a pair depends on that alone.
-/
import Derived.Test.YtdfdgeaohneeaaaGreatDoorHxZb
namespace Go.Proofs.YtdfdgeaohneeaaaGreatDoor
open Go Go.RowKit
set_option linter.unusedVariables false
set_option linter.unusedSimpArgs false

/-- How many of the first k lines are 6, 7, 8, 9. -/
def manyTo (x y : Int) : Nat → List Int
  | 0 => [0, 0, 0, 0]
  | k + 1 => (manyTo x y k).set (castV x y k - 6).toNat (nth (manyTo x y k) (castV x y k - 6).toNat + 1)
theorem many_len (x y : Int) (k : Nat) : (manyTo x y k).length = 4 := by
  induction k with
  | zero => rfl
  | succ k ih => unfold manyTo; rw [List.length_set, ih]
theorem many_bd (x y : Int) (k j : Nat) : 0 ≤ nth (manyTo x y k) j ∧ nth (manyTo x y k) j ≤ k := by
  induction k generalizing j with
  | zero =>
    have : nth (manyTo x y 0) j = 0 := by
      unfold manyTo
      match j with
      | 0 | 1 | 2 | 3 => rfl
      | j + 4 => rfl
    rw [this]; omega
  | succ k ih =>
    have h1 := ih j
    have h2 := ih (castV x y k - 6).toNat
    have hc := castV_bd x y k
    unfold manyTo
    rw [nth_set (by rw [many_len]; omega)]
    split <;> omega
theorem powI_succ (s : Int) (k : Nat) : powI s (k + 1) = powI s k * s := rfl
/-- The weight of lines of each kind. -/
def kindV (W : List Int) (m : List Int) : Int := powI (nth W 6) (nth m 0).toNat * powI (nth W 7) (nth m 1).toNat * powI (nth W 8) (nth m 2).toNat * powI (nth W 9) (nth m 3).toNat
theorem weight_many (W : List Int) (x y : Int) (k : Nat) : weightTo W x y k = kindV W (manyTo x y k) := by
  induction k with
  | zero => rfl
  | succ k ih =>
    have hc := castV_bd x y k
    have hb := many_bd x y k
    unfold weightTo manyTo
    rw [ih]
    have hl := many_len x y k
    obtain ⟨c, hcc⟩ : ∃ c, castV x y k = c := ⟨_, rfl⟩
    rw [hcc] at hc ⊢
    have h4 : c = 6 ∨ c = 7 ∨ c = 8 ∨ c = 9 := by omega
    unfold kindV
    rcases h4 with rfl | rfl | rfl | rfl
    · have e : ((6 : Int) - 6).toNat = 0 := by decide
      rw [e, show ((6 : Int)).toNat = 6 from rfl, nth_set (by omega), nth_set (by omega), nth_set (by omega), nth_set (by omega), if_pos rfl, if_neg (by omega), if_neg (by omega), if_neg (by omega)]
      have := (hb 0).1
      rw [show (nth (manyTo x y k) 0 + 1).toNat = (nth (manyTo x y k) 0).toNat + 1 by omega, powI_succ]
      simp only [Int.mul_comm, Int.mul_left_comm, Int.mul_assoc]
    · have e : ((7 : Int) - 6).toNat = 1 := by decide
      rw [e, show ((7 : Int)).toNat = 7 from rfl, nth_set (by omega), nth_set (by omega), nth_set (by omega), nth_set (by omega), if_neg (by omega), if_pos rfl, if_neg (by omega), if_neg (by omega)]
      have := (hb 1).1
      rw [show (nth (manyTo x y k) 1 + 1).toNat = (nth (manyTo x y k) 1).toNat + 1 by omega, powI_succ]
      simp only [Int.mul_comm, Int.mul_left_comm, Int.mul_assoc]
    · have e : ((8 : Int) - 6).toNat = 2 := by decide
      rw [e, show ((8 : Int)).toNat = 8 from rfl, nth_set (by omega), nth_set (by omega), nth_set (by omega), nth_set (by omega), if_neg (by omega), if_neg (by omega), if_pos rfl, if_neg (by omega)]
      have := (hb 2).1
      rw [show (nth (manyTo x y k) 2 + 1).toNat = (nth (manyTo x y k) 2).toNat + 1 by omega, powI_succ]
      simp only [Int.mul_comm, Int.mul_left_comm, Int.mul_assoc]
    · have e : ((9 : Int) - 6).toNat = 3 := by decide
      rw [e, show ((9 : Int)).toNat = 9 from rfl, nth_set (by omega), nth_set (by omega), nth_set (by omega), nth_set (by omega), if_neg (by omega), if_neg (by omega), if_neg (by omega), if_pos rfl]
      have := (hb 3).1
      rw [show (nth (manyTo x y k) 3 + 1).toNat = (nth (manyTo x y k) 3).toNat + 1 by omega, powI_succ]
      simp only [Int.mul_comm, Int.mul_left_comm, Int.mul_assoc]
theorem many_moves {x y : Int} (hx : Hex x) (hy : Hex y) : nth (manyTo x y 6) 0 + nth (manyTo x y 6) 3 = difTo x y 6 :=
  hex2 (P := fun x y => nth (manyTo x y 6) 0 + nth (manyTo x y 6) 3 = difTo x y 6) (by decide +kernel) hx hy

/-- All that the law asks of the three lists, for weights that can be cast. -/
structure Lots (W P F M : List Int) (g all : Int) : Prop where
  plen : P.length = 4096
  flen : F.length = 64
  mlen : M.length = 7
  bpos : ∀ k, 0 ≤ nth (low P) k ∧ nth (low P) k ≤ 995686217814016
  kind : ∀ i, i < 4096 → nth (low P) i = kindV W (manyTo (i / 64 : Nat) (i % 64 : Nat) 6) / g
  all_ : all = lsum (low P)
  all1 : 1 ≤ all
  alle : all ≤ 995686217814016
  ff : Fold P F (figTo (low P) 4096) all
  fm : Fold P M (movTo (low P) 4096) all
  fs : 1 ≤ lsum F ∧ lsum F ≤ 995686217814016
  ms : 1 ≤ lsum M ∧ lsum M ≤ 995686217814016
  ones : nth W 9 = nth W 6 → nth W 8 = nth W 7 → ∀ k, k < 64 → nth (low F) k = 1
theorem powS_316 {s : Int} (h1 : 1 ≤ s) (h2 : s ≤ 316) : 1 ≤ powI s 6 ∧ powI s 6 ≤ 995686217814016 := by
  have := powI_pos h1 6
  have := powI_mono h1 h2 6
  have h3 : powI 316 6 = 995686217814016 := by decide
  omega
theorem lots {W : List Int} (h : linesE W = 0) {N : Nat} (hN : N = 4096) : Lots W (pairsTo W N) (weighTo W figuresP 64 N) (weighTo W movingP 7 N) (gcdl (pairsTo W N)) (lsum (low (pairsTo W N))) := by
  have hW := fit_of h
  obtain ⟨l1, l2⟩ := lines_sum h
  obtain ⟨p1, p2⟩ := powS_316 l1 l2
  have hp := pairs_sum W hN
  have hf := figures_sum W hN
  have hm := moving_sum W hN
  have gP : 1 ≤ gcdl (pairsTo W N) := weigh_gcd h hN fun x y hx hy => by have := changesP_bd hx hy; omega
  have gF : 1 ≤ gcdl (weighTo W figuresP 64 N) := weigh_gcd h hN fun x y hx hy => figuresP_bd hx hy
  have gM : 1 ≤ gcdl (weighTo W movingP 7 N) := weigh_gcd h hN fun x y hx hy => movingP_bd hx hy
  have hb : ∀ k, 0 ≤ nth (pairsTo W N) k := fun k => (pairs_bd hW).1
  have hlow := low_pos gP hb
  have hbp : ∀ k, 0 ≤ nth (low (pairsTo W N)) k ∧ nth (low (pairsTo W N)) k ≤ 995686217814016 := fun k => by
    have := hlow k
    have := (pairs_bd hW (N := N) (i := k)).2
    omega
  have hs := lsum_low2 (pairsTo W N)
  have ha1 : 1 ≤ lsum (low (pairsTo W N)) := by
    by_cases h0 : lsum (low (pairsTo W N)) ≤ 0
    · have := Int.mul_nonpos_of_nonneg_of_nonpos (show 0 ≤ gcdl (pairsTo W N) by omega) h0
      omega
    · omega
  have ha2 : lsum (low (pairsTo W N)) ≤ 995686217814016 := by
    have : 1 * lsum (low (pairsTo W N)) ≤ gcdl (pairsTo W N) * lsum (low (pairsTo W N)) := Int.mul_le_mul_of_nonneg_right gP (by omega)
    omega
  have sc : ∀ i, i < N → gcdl (pairsTo W N) * nth (low (pairsTo W N)) i = nth (pairsTo W N) i := fun i hi => nth_low (by rw [pairs_length]; exact hi)
  have dl : ∀ i : Nat, (difTo (i / 64 : Nat) (i % 64 : Nat) 6).toNat < 7 := fun i => by have := difTo_bd (i / 64 : Nat) (i % 64 : Nat) 6; omega
  refine ⟨by rw [pairs_length, hN], weighTo_length .., weighTo_length .., hbp, fun i hi => ?_, rfl, ha1, ha2, ?_, ?_, by omega, by omega, fun e6 e7 => ?_⟩
  · have := sc i (by omega)
    rw [pairs_nth (show i < N by omega)] at this
    unfold weightV at this
    rw [weight_many] at this
    rw [← this, Int.mul_ediv_cancel_left _ (by omega)]
  · refine ⟨by rw [figTo_length, weighTo_length], gP, gF, fun k => (weighTo_bd hW _ _ _ k).1, fun k hk => ?_, by rw [hf, hp], rfl⟩
    rw [weighTo_length] at hk
    unfold figTo
    rw [← hN, scatter_scale _ (fun i hi => by omega) k hk, ← figures_scatter W (Nat.le_refl N)]
    rw [scatter_congr (fun i hi => sc i hi) fun i hi => rfl]
  · refine ⟨by rw [movTo_length, weighTo_length], gP, gM, fun k => (weighTo_bd hW _ _ _ k).1, fun k hk => ?_, by rw [hm, hp], rfl⟩
    rw [weighTo_length] at hk
    unfold movTo
    rw [← hN, scatter_scale _ (fun i hi => dl i) k hk, ← moving_scatter W hN (Nat.le_refl N)]
    rw [scatter_congr (fun i hi => sc i hi) fun i hi => rfl]
  · have key : ∀ k, k < 64 → nth (weighTo W figuresP 64 N) k = powI (nth W 6 + nth W 7) 6 := fun k hk => by
      rw [weighTo_scatter, scatter_nth hk (fun i hi => by unfold figuresP; omega)]
      have hsum := sum_seconds e6 e7 (k : Nat) 6 (Nat.le_refl _)
      rw [← hsum]
      have blocks : ∀ m, m ≤ 64 → at1 (fun i => weightV W (i / 64 : Nat) (i % 64 : Nat)) (fun i => (figuresP (i / 64 : Nat) (i % 64 : Nat)).toNat) k (64 * m) = if k < m then sumN (fun y => weightTo W (k : Nat) (y : Nat) 6) 64 else 0 := fun m => by
        induction m with
        | zero => intro _; simp [at1]
        | succ m ih =>
          intro hm
          have inner : ∀ r, r ≤ 64 → at1 (fun i => weightV W (i / 64 : Nat) (i % 64 : Nat)) (fun i => (figuresP (i / 64 : Nat) (i % 64 : Nat)).toNat) k (64 * m + r) = at1 (fun i => weightV W (i / 64 : Nat) (i % 64 : Nat)) (fun i => (figuresP (i / 64 : Nat) (i % 64 : Nat)).toNat) k (64 * m) + if m = k then sumN (fun y => weightTo W (k : Nat) (y : Nat) 6) r else 0 := fun r => by
            induction r with
            | zero => intro _; simp [sumN]
            | succ r ihr =>
              intro hr
              rw [← Nat.add_assoc]
              simp only [at1]
              rw [ihr (by omega), show (64 * m + r) / 64 = m by omega, show (64 * m + r) % 64 = r by omega, show (figuresP (m : Nat) (r : Nat)).toNat = m by unfold figuresP; omega]
              by_cases e : m = k
              · subst e
                simp only [if_pos, sumN]
                unfold weightV
                omega
              · simp only [if_neg e]
                omega
          rw [show 64 * (m + 1) = 64 * m + 64 by omega, inner 64 (Nat.le_refl _), ih (by omega)]
          by_cases e : m = k
          · subst e
            rw [if_neg (by omega), if_pos rfl, if_pos (by omega)]
            omega
          · by_cases e2 : k < m
            · rw [if_pos e2, if_neg e, if_pos (by omega)]; omega
            · rw [if_neg e2, if_neg e, if_neg (by omega)]; omega
      have := blocks 64 (Nat.le_refl _)
      rw [if_pos hk] at this
      rw [hN]
      exact this
    have hv : 1 ≤ powI (nth W 6 + nth W 7) 6 := by
      refine powI_pos ?_ 6
      have : linesS W = 2 * (nth W 6 + nth W 7) := by unfold linesS; omega
      omega
    intro k hk
    exact low_ones hv (by rw [weighTo_length]; omega) (fun j hj => key j (by rwa [weighTo_length] at hj)) k (by rw [weighTo_length]; exact hk)
end Go.Proofs.YtdfdgeaohneeaaaGreatDoor
