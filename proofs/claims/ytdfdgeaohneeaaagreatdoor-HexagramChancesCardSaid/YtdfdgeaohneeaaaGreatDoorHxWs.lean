/-
  Plain facts: the weights of pairs, of first hexagrams and of how many lines move, as the program adds them up and as the reference does.
-/
import Derived.Test.YtdfdgeaohneeaaaGreatDoorHxI
import Derived.Test.YtdfdgeaohneeaaaGreatDoorHxWq
import Derived.Test.YtdfdgeaohneeaaaGreatDoorHxWr
import Derived.Test.YtdfdgeaohneeaaaGreatDoorHxRc
namespace Go.Proofs.YtdfdgeaohneeaaaGreatDoor
open Go Go.RowKit
set_option linter.unusedVariables false

/-- Divisors of lists. -/
theorem gcdTo_nonneg (xs : List Int) (k : Nat) : 0 ≤ gcdTo xs k := by
  induction k with
  | zero => rw [gcdTo_zero]; omega
  | succ k ih =>
    by_cases h : k < xs.length
    · rw [gcdTo_succ h]; omega
    · have e : gcdTo xs (k + 1) = gcdTo xs k := by unfold gcdTo; rw [List.take_of_length_le (by omega), List.take_of_length_le (by omega)]
      rw [e]; exact ih
theorem gcdTo_dvd {xs : List Int} {k i : Nat} (hi : i < k) (hk : k ≤ xs.length) : gcdTo xs k ∣ nth xs i := by
  induction k with
  | zero => omega
  | succ k ih =>
    rw [gcdTo_succ (by omega)]
    by_cases e : i = k
    · subst e; exact Int.gcd_dvd_right ..
    · exact Int.dvd_trans (Int.gcd_dvd_left ..) (ih (by omega) (by omega))
theorem gcdl_dvd {xs : List Int} {i : Nat} (hi : i < xs.length) : gcdl xs ∣ nth xs i := by
  rw [← gcdTo_all]; exact gcdTo_dvd hi (Nat.le_refl _)
theorem gcdl_nonneg (xs : List Int) : 0 ≤ gcdl xs := by rw [← gcdTo_all]; exact gcdTo_nonneg _ _
theorem gcdl_pos {xs : List Int} {k : Nat} (hk : k < xs.length) (h : nth xs k ≠ 0) : 1 ≤ gcdl xs := by
  have h0 := gcdl_nonneg xs
  have h1 := gcdl_dvd hk
  by_cases e : gcdl xs = 0
  · rw [e] at h1; exact absurd (Int.zero_dvd.1 h1) h
  · omega

/-- What a program adds up, place by place. -/
theorem weighTo_scatter (W : List Int) (place : Int → Int → Int) (n m : Nat) : weighTo W place n m = scatter (fun i => weightV W (i / 64 : Nat) (i % 64 : Nat)) (fun i => (place (i / 64 : Nat) (i % 64 : Nat)).toNat) n m := by
  induction m with
  | zero => rfl
  | succ m ih => simp only [weighTo, scatter, ih]
/-- The weights of all pairs, of first hexagrams, and of how many lines move. -/
def pairsTo (W : List Int) (N : Nat) : List Int := weighTo W changesP N N
theorem pair_place {i : Nat} : (changesP (i / 64 : Nat) (i % 64 : Nat)).toNat = i := by unfold changesP; omega
theorem pairs_nth {W : List Int} {N i : Nat} (hi : i < N) : nth (pairsTo W N) i = weightV W (i / 64 : Nat) (i % 64 : Nat) := by
  unfold pairsTo
  rw [weighTo_scatter, scatter_nth hi (fun j hj => by rw [pair_place]; exact hj), at1_one hi pair_place fun j hj e => by rwa [pair_place] at e]
theorem pairs_length (W : List Int) (N : Nat) : (pairsTo W N).length = N := weighTo_length ..
theorem pairs_bd {W : List Int} (hW : Fit W) {N i : Nat} : 0 ≤ nth (pairsTo W N) i ∧ nth (pairsTo W N) i ≤ 995686217814016 := by
  by_cases hi : i < N
  · rw [pairs_nth hi]; exact weightV_bd hW _ _
  · rw [nth_out (by rw [pairs_length]; exact hi)]; omega
theorem figures_scatter (W : List Int) {N m : Nat} (hm : m ≤ N) : scatter (fun i => nth (pairsTo W N) i) (fun i => i / 64) 64 m = weighTo W figuresP 64 m := by
  rw [weighTo_scatter]
  exact scatter_congr (fun i hi => pairs_nth (by omega)) fun i hi => by unfold figuresP; omega

/-- The digits of a cast. -/
theorem bit_nat : ∀ (x : Fin 64) (i : Fin 6), bitB (x.val : Int) (i.val : Int) = decide (x.val / 2 ^ i.val % 2 = 1) := by decide +kernel
theorem cast_dig {n k : Nat} (hn : n < 4096) (hk : k < 6) : castV (Wq.fst n : Nat) (Wq.snd n : Nat) (k : Nat) = (6 + Wq.dig n k : Nat) := by
  have hp := Wq.inv_pair hn
  have h1 := bit_nat ⟨Wq.fst n, hp.2.1⟩ ⟨k, hk⟩
  have h2 := bit_nat ⟨Wq.snd n, hp.2.2⟩ ⟨k, hk⟩
  have h3 := Wq.line_of hn ⟨k, hk⟩
  simp only at h1 h2 h3
  unfold castV
  rw [h1, h2, h3]
  simp only [decide_eq_true_eq]
  split <;> split <;> rfl
/-- The weight of the cast n, line by line. -/
def prodTo (W : List Int) (n : Nat) : Nat → Int
  | 0 => 1
  | k + 1 => prodTo W n k * nth W (6 + Wq.dig n k)
theorem prod_weight {W : List Int} {n k : Nat} (hn : n < 4096) (hk : k ≤ 6) : prodTo W n k = weightTo W (Wq.fst n : Nat) (Wq.snd n : Nat) k := by
  induction k with
  | zero => rfl
  | succ k ih =>
    unfold prodTo weightTo
    rw [ih (by omega), cast_dig hn (by omega)]
    rfl
theorem prodTo_bd {W : List Int} (hW : Fit W) {n k : Nat} (hn : n < 4096) (hk : k ≤ 6) : 0 ≤ prodTo W n k ∧ prodTo W n k ≤ 995686217814016 := by
  rw [prod_weight hn hk]
  have h1 := weightTo_bd hW (Wq.fst n : Nat) (Wq.snd n : Nat) k
  have h2 := powS_le hk
  omega
/-- What the reference adds up. -/
def refTo (W : List Int) (N m : Nat) : List Int := scatter (fun n => prodTo W n 6) Wq.place N m
theorem refTo_length (W : List Int) (N m : Nat) : (refTo W N m).length = N := scatter_length ..
theorem refTo_succ (W : List Int) (N m : Nat) : refTo W N (m + 1) = (refTo W N m).set (Wq.place m) (nth (refTo W N m) (Wq.place m) + prodTo W m 6) := rfl
theorem ref_all (W : List Int) {N : Nat} (hN : N = 4096) : refTo W N N = pairsTo W N := by
  subst hN
  unfold refTo pairsTo
  rw [weighTo_scatter]
  refine scatter_same (fun i hi => Wq.place_lt hi) (fun i hi => by rw [pair_place]; exact hi) (fun i j hi hj e => Wq.place_inj hi hj e) (fun i j hi hj e => by rwa [pair_place, pair_place] at e) (fun p hp => Wq.place_onto hp) (fun p hp => ⟨p, hp, pair_place⟩) fun i j hi hj e => ?_
  rw [pair_place] at e
  subst e
  have hp := Wq.inv_pair hi
  rw [prod_weight hi (Nat.le_refl _), show Wq.place i / 64 = Wq.fst i by unfold Wq.place; omega, show Wq.place i % 64 = Wq.snd i by unfold Wq.place; omega]
  rfl
theorem scatter_bd {F : Nat → Int} {pl : Nat → Nat} {n m : Nat} {b : Int} (hb : 0 ≤ b) (hF : ∀ i, i < m → 0 ≤ F i ∧ F i ≤ b) (h : ∀ i, i < m → pl i < n) (j : Nat) : 0 ≤ nth (scatter F pl n m) j ∧ nth (scatter F pl n m) j ≤ m * b := by
  induction m generalizing j with
  | zero => simp only [scatter, nth_replicate]; split <;> simp
  | succ m ih =>
    have h1 := ih (fun i hi => hF i (by omega)) (fun i hi => h i (by omega))
    have h2 := hF m (by omega)
    have h3 := h1 j
    have h4 := h1 (pl m)
    have e : ((m + 1 : Nat) : Int) * b = m * b + b := by rw [Int.natCast_add, Int.add_mul]; simp
    simp only [scatter]
    rw [nth_set (by rw [scatter_length]; exact h m (by omega))]
    split <;> omega
theorem refTo_bd {W : List Int} (hW : Fit W) {N m : Nat} (hN : N = 4096) (hm : m ≤ N) (j : Nat) : 0 ≤ nth (refTo W N m) j ∧ nth (refTo W N m) j ≤ 4100000000000000000 := by
  have := scatter_bd (F := fun n => prodTo W n 6) (pl := Wq.place) (n := N) (m := m) (b := 995686217814016) (by omega) (fun i hi => prodTo_bd hW (by omega) (Nat.le_refl _)) (fun i hi => by have := Wq.place_lt (show i < 4096 by omega); omega) j
  unfold refTo
  have : (m : Int) * 995686217814016 ≤ 4096 * 995686217814016 := by omega
  omega

/-- How many of the first k lines of two hexagrams are different. -/
def difTo (x y : Int) : Nat → Int
  | 0 => 0
  | k + 1 => difTo x y k + if nth (sixL x) k = nth (sixL y) k then 0 else 1
theorem difTo_bd (x y : Int) (k : Nat) : 0 ≤ difTo x y k ∧ difTo x y k ≤ k := by
  induction k with
  | zero => exact ⟨show (0 : Int) ≤ 0 by omega, show (0 : Int) ≤ 0 by omega⟩
  | succ k ih => unfold difTo; split <;> omega
theorem dif_moving {x y : Int} (hx : Hex x) (hy : Hex y) : difTo x y 6 = movingP x y := hex2 (P := fun x y => difTo x y 6 = movingP x y) (by decide +kernel) hx hy
theorem hex_div {i : Nat} (hi : i < 4096) : Hex (i / 64 : Nat) := ⟨by omega, by omega⟩
theorem hex_mod (i : Nat) : Hex (i % 64 : Nat) := ⟨by omega, by omega⟩
theorem moving_scatter (W : List Int) {N m : Nat} (hN : N = 4096) (hm : m ≤ N) : scatter (fun i => nth (pairsTo W N) i) (fun i => (difTo (i / 64 : Nat) (i % 64 : Nat) 6).toNat) 7 m = weighTo W movingP 7 m := by
  rw [weighTo_scatter]
  exact scatter_congr (fun i hi => pairs_nth (by omega)) fun i hi => by rw [dif_moving (hex_div (by omega)) (hex_mod i)]

/-- One weight is not 0, so a pair is not. -/
theorem castL_eq {W : List Int} (hl : 10 ≤ W.length) : castL W = [nth W 6, nth W 7, nth W 8, nth W 9] := by
  unfold castL
  apply List.ext_getElem
  · simp; omega
  · intro i h1 h2
    simp at h1 h2
    have : i = 0 ∨ i = 1 ∨ i = 2 ∨ i = 3 := by omega
    rcases this with rfl | rfl | rfl | rfl <;> simp [nth] <;> rw [List.getElem?_eq_getElem (by omega)] <;> rfl
theorem some_line {W : List Int} (h : linesE W = 0) : ∃ d : Nat, d < 4 ∧ 0 < nth W (6 + d) := by
  have hf := fit_of h
  have h0 := hf.lo
  have h5 : anyB someB (castL W) = true := by
    cases e : anyB someB (castL W)
    · unfold linesE at h
      split at h
      · simp at h
      · split at h
        · simp at h
        · rw [if_pos (Or.inr (Or.inr e))] at h
          simp at h
    · rfl
  rw [castL_eq hf.len] at h5
  simp [anyB, someB] at h5
  have a6 := h0 6; have a7 := h0 7; have a8 := h0 8; have a9 := h0 9
  rcases h5 with h5 | h5 | h5 | h5
  · exact ⟨0, by omega, by show 0 < nth W 6; omega⟩
  · exact ⟨1, by omega, by show 0 < nth W 7; omega⟩
  · exact ⟨2, by omega, by show 0 < nth W 8; omega⟩
  · exact ⟨3, by omega, by show 0 < nth W 9; omega⟩
/-- The cast of six like lines. -/
def likeN (d : Nat) : Nat := d + 4 * d + 16 * d + 64 * d + 256 * d + 1024 * d
theorem like_dig : ∀ (d : Fin 4) (k : Fin 6), Wq.dig (likeN d.val) k.val = d.val := by decide +kernel
theorem prod_like {W : List Int} {d : Nat} (hd : d < 4) (h : 0 < nth W (6 + d)) {k : Nat} (hk : k ≤ 6) : 0 < prodTo W (likeN d) k := by
  induction k with
  | zero => exact show (0 : Int) < 1 by omega
  | succ k ih =>
    have e : Wq.dig (likeN d) k = d := like_dig ⟨d, hd⟩ ⟨k, by omega⟩
    unfold prodTo
    rw [e]
    exact Int.mul_pos (ih (by omega)) h
theorem at1_pos {F : Nat → Int} {pl : Nat → Nat} {p m k : Nat} (hF : ∀ i, i < m → 0 ≤ F i) (hk : k < m) (e : pl k = p) (h : 0 < F k) : 0 < at1 F pl p m := by
  have h0 : ∀ m, (∀ i, i < m → 0 ≤ F i) → 0 ≤ at1 F pl p m := fun m => by
    induction m with
    | zero => intro _; exact Int.le_refl 0
    | succ m ih =>
      intro hF
      have := ih fun i hi => hF i (by omega)
      have := hF m (by omega)
      simp only [at1]
      split <;> omega
  induction m with
  | zero => omega
  | succ m ih =>
    simp only [at1]
    by_cases hkm : k = m
    · subst hkm
      have := h0 k fun i hi => hF i (by omega)
      rw [if_pos e]; omega
    · have := ih (fun i hi => hF i (by omega)) (by omega)
      have := hF m (by omega)
      split <;> omega
theorem weigh_gcd {W : List Int} (h : linesE W = 0) {place : Int → Int → Int} {n N : Nat} (hN : N = 4096) (hp : ∀ x y, Hex x → Hex y → 0 ≤ place x y ∧ place x y < n) : 1 ≤ gcdl (weighTo W place n N) := by
  subst hN
  obtain ⟨d, hd, hw⟩ := some_line h
  have hf := fit_of h
  have hl : likeN d < 4096 := by unfold likeN; omega
  have hq := prod_like hd hw (Nat.le_refl 6)
  rw [prod_weight hl (Nat.le_refl _)] at hq
  have hpl : ∀ i, i < 4096 → (place (i / 64 : Nat) (i % 64 : Nat)).toNat < n := fun i hi => by
    have := hp _ _ (hex_div hi) (hex_mod i)
    omega
  have hlt := Wq.place_lt hl
  refine gcdl_pos (k := (place (Wq.place (likeN d) / 64 : Nat) (Wq.place (likeN d) % 64 : Nat)).toNat) (by rw [weighTo_length]; exact hpl _ hlt) ?_
  rw [weighTo_scatter, scatter_nth (hpl _ hlt) hpl]
  have hs := Wq.inv_pair hl
  have := at1_pos (F := fun i => weightV W (i / 64 : Nat) (i % 64 : Nat)) (pl := fun i => (place (i / 64 : Nat) (i % 64 : Nat)).toNat) (p := (place (Wq.place (likeN d) / 64 : Nat) (Wq.place (likeN d) % 64 : Nat)).toNat) (k := Wq.place (likeN d)) (m := 4096) (fun i hi => (weightV_bd hf _ _).1) hlt rfl (by
    rw [show Wq.place (likeN d) / 64 = Wq.fst (likeN d) by unfold Wq.place; omega, show Wq.place (likeN d) % 64 = Wq.snd (likeN d) by unfold Wq.place; omega]
    exact hq)
  omega
end Go.Proofs.YtdfdgeaohneeaaaGreatDoor
