/-
  The fractions of a mixture: those of the cases, times those of the lists.
  What is mixed and mapped is what is mapped and mixed; the sum over all cases stays a chance.
-/
import Derived.Test.YtnpnnfbmnlgioaaFe
import Derived.Test.YtnpnnfbmnlgioaaWe
namespace Go.Proofs.Ytnpnnfbmnlgioaa
open Go.RowKit
set_option linter.unusedVariables false

theorem rsum_congr {f g : Nat → Rat} {n : Nat} (h : ∀ i, i < n → f i = g i) : rsum f n = rsum g n := by
  induction n with
  | zero => rfl
  | succ n ih => simp only [rsum]; rw [ih fun i hi => h i (by omega), h n (by omega)]
theorem rsum_add (f g : Nat → Rat) (n : Nat) : rsum (fun i => f i + g i) n = rsum f n + rsum g n := by
  induction n with
  | zero => simp only [rsum]; grind
  | succ n ih => simp only [rsum] at *; grind
theorem rsum_mul (c : Rat) (f : Nat → Rat) (n : Nat) : rsum (fun i => c * f i) n = c * rsum f n := by
  induction n with
  | zero => simp only [rsum]; grind
  | succ n ih => simp only [rsum] at *; grind
theorem rsum_none (n : Nat) : rsum (fun _ => 0) n = 0 := by
  induction n with
  | zero => rfl
  | succ n ih => simp only [rsum] at *; grind
theorem rsum_swap (f : Nat → Nat → Rat) (m n : Nat) : rsum (fun k => rsum (fun j => f j k) m) n = rsum (fun j => rsum (fun k => f j k) n) m := by
  induction m with
  | zero => simp only [rsum]; exact rsum_none n
  | succ m ih => simp only [rsum] at *; rw [rsum_add, ih]
theorem rsum_le {f g : Nat → Rat} {n : Nat} (h : ∀ i, i < n → f i ≤ g i) : rsum f n ≤ rsum g n := by
  induction n with
  | zero => simp only [rsum]; grind
  | succ n ih =>
    have h1 := ih fun i hi => h i (by omega)
    have h2 := h n (by omega)
    simp only [rsum] at *
    grind
theorem rsum_mono {f : Nat → Rat} {m n : Nat} (hmn : m ≤ n) (h : ∀ i, i < n → 0 ≤ f i) : rsum f m ≤ rsum f n := by
  induction n with
  | zero =>
    obtain rfl : m = 0 := by omega
    exact Rat.le_refl
  | succ n ih =>
    by_cases e : m = n + 1
    · subst e; exact Rat.le_refl
    · have h1 := ih (by omega) fun i hi => h i (by omega)
      have h2 := h n (by omega)
      simp only [rsum]
      grind
theorem val_psum (xs : List Int) (d : Int) {k : Nat} (hk : k ≤ xs.length) : val (psum xs k) d = rsum (fun i => val (nth xs i) d) k := by
  induction k with
  | zero => rw [psum_zero]; exact val_zero
  | succ k ih => rw [psum_succ (by omega), val_plus, ih (by omega)]; rfl
theorem val_self {d : Int} (h : 1 ≤ d) : val d d = 1 := by
  have := rpos h
  unfold val
  grind
theorem val_one {x d : Int} (hd : 1 ≤ d) (h : val x d = 1) : x = d := by
  have := rpos hd
  unfold val at h
  have h2 : (x : Rat) = (d : Rat) := by grind
  exact Rat.intCast_inj.1 h2
theorem fr_sum {xs : List Int} (h : 1 ≤ lsum xs) : rsum (fr xs) xs.length = 1 := by
  have := val_psum xs (lsum xs) (Nat.le_refl _)
  rw [psum_all, val_self h] at this
  exact this.symm
theorem val_nonneg {n d : Int} (hn : 0 ≤ n) (hd : 1 ≤ d) : 0 ≤ val n d := by
  have := (val_le (an := 0) (ad := 1) (bn := n) (by omega) hd).2 (by omega)
  rwa [val_zero] at this
theorem fr_nonneg {xs : List Int} (h : chk1 xs = 0) (i : Nat) : 0 ≤ fr xs i := by
  obtain ⟨a1, a2, a3, a4⟩ := chk1_ok h
  refine val_nonneg ?_ a3
  by_cases hi : i < xs.length
  · exact (a2 i hi).1
  · rw [nth_out hi]; omega
theorem fr_low {xs : List Int} (hg : 1 ≤ gcdl xs) (hs : 1 ≤ lsum (low xs)) (i : Nat) : fr (low xs) i = fr xs i := by
  unfold fr
  by_cases hi : i < xs.length
  · rw [← nth_low hi, lsum_low xs, val_mul hg hs]
  · rw [nth_out (by rw [low_length]; exact hi), nth_out hi, val_zero, val_zero]
/-- What Mix takes. -/
structure Mx (cs : List Int) (ls : List (List Int)) (n : Nat) : Prop where
  cc : chk1 cs = 0
  ll : ls.length = cs.length
  cl : ∀ j, j < cs.length → chk1 (nthL ls j) = 0
  len : ∀ j, j < cs.length → (nthL ls j).length = n
  len0 : (nthL ls 0).length = n
  lcm : lcmTo (low cs) ls cs.length ≤ 1000000000000000
  prod : lsum (low cs) * lcmTo (low cs) ls cs.length ≤ 1000000000000000
theorem Mx.lists {cs : List Int} {ls : List (List Int)} {n : Nat} (h : Mx cs ls n) {j : Nat} (hj : j < cs.length) : Small (low (nthL ls j)) ∧ 1 ≤ lsum (low (nthL ls j)) ∧ (nthL ls j).length = n := by
  have f := low_facts (chk1_ok (h.cl j hj)).2.1 (chk1_ok (h.cl j hj)).2.2.1
  exact ⟨f.2.1, f.2.2.1, h.len j hj⟩
theorem mix_mx {cs : List Int} {ls : List (List Int)} (h : (sMix cs ls).2 = 0) : Mx cs ls (nthL ls 0).length ∧ (sMix cs ls).1 = low (mixL (low cs) ls (nthL ls 0).length) := by
  unfold sMix at h ⊢
  by_cases h1 : chkM cs ls ≠ 0
  · rw [if_pos h1] at h; exact absurd h h1
  rw [if_neg h1] at h ⊢
  by_cases h2 : ¬ lcmTo (low cs) ls cs.length ≤ 1000000000000000
  · rw [if_pos h2] at h; simp at h
  rw [if_neg h2] at h ⊢
  by_cases h3 : ¬ lsum (low cs) ≤ 1000000000000000 / lcmTo (low cs) ls cs.length
  · rw [if_pos h3] at h; simp at h
  rw [if_neg h3]
  have h1 : chkM cs ls = 0 := by simpa using h1
  unfold chkM at h1
  have c1 : chk1 cs = 0 := by
    by_cases k : chk1 cs = 0
    · exact k
    · rw [if_pos k] at h1; exact h1
  rw [if_neg (by simpa using c1)] at h1
  have c2 : ls.length = cs.length := by
    by_cases k : ls.length = cs.length
    · exact k
    · rw [if_pos k] at h1; simp at h1
  rw [if_neg (by simpa using c2)] at h1
  have c3 : chkL ls = 0 := by
    by_cases k : chkL ls = 0
    · exact k
    · rw [if_pos k] at h1; exact h1
  rw [if_neg (by simpa using c3)] at h1
  have c4 : lenBad ls = false := by
    by_cases k : lenBad ls = true
    · rw [if_pos k] at h1; simp at h1
    · simpa using k
  have cl : ∀ j, j < cs.length → chk1 (nthL ls j) = 0 := fun j hj => chkL_each c3 (by omega)
  have lp : 1 ≤ lcmTo (low cs) ls cs.length := (lcmTo_facts fun j hj _ => by
    have f := low_facts (chk1_ok (cl j hj)).2.1 (chk1_ok (cl j hj)).2.2.1
    exact f.2.2.1).1
  exact ⟨⟨c1, c2, cl, fun j hj => lenBad_false c4 (by omega), rfl, by omega, (le_div lp).1 (by omega)⟩, rfl⟩
theorem mx_mix {cs : List Int} {ls : List (List Int)} {n : Nat} (h : Mx cs ls n) : sMix cs ls = (low (mixL (low cs) ls n), 0) := by
  have lp : 1 ≤ lcmTo (low cs) ls cs.length := (lcmTo_facts fun j hj _ => (h.lists hj).2.1).1
  have c3 : chkL ls = 0 := chkL_all fun j hj => h.cl j (by rw [← h.ll]; exact hj)
  have c4 : lenBad ls = false := by
    unfold lenBad
    rw [List.any_eq_false]
    intro j hj
    have hj : j < ls.length := by simpa using hj
    simp [h.len j (by rw [← h.ll]; exact hj), h.len0]
  have c5 : chkM cs ls = 0 := by
    unfold chkM
    rw [if_neg (by simpa using h.cc), if_neg (by simpa using h.ll), if_neg (by simpa using c3), if_neg (by simp [c4])]
  unfold sMix
  rw [if_neg (by simpa using c5), if_neg (by have := h.lcm; omega), if_neg (by have := (le_div lp).2 h.prod; omega), h.len0]

theorem mixF_val {cs : List Int} {ls : List (List Int)} {n : Nat} (h : Mx cs ls n) {k : Nat} (hk : k < n) {m : Nat} (hm : m ≤ cs.length) :
    val (mixF (low cs) ls (lcmTo (low cs) ls cs.length) (fun _ => false) m k) (lsum (low cs) * lcmTo (low cs) ls cs.length) = rsum (fun j => fr cs j * fr (nthL ls j) k) m := by
  have fc := low_facts (chk1_ok h.cc).2.1 (chk1_ok h.cc).2.2.1
  have LF := lcmTo_facts (cs := low cs) (ls := ls) (k := cs.length) fun j hj _ => (h.lists hj).2.1
  induction m with
  | zero => simp only [mixF, rsum]; exact val_zero
  | succ m ih =>
    simp only [mixF, rsum]
    rw [val_plus, ih (by omega)]
    congr 1
    have hj : m < cs.length := by omega
    have t1 := (h.lists hj).2.1
    have hkl : k < (nthL ls m).length := by rw [h.len m hj]; exact hk
    rw [← val_low h.cc hj, ← val_low (h.cl m hj) hkl]
    by_cases hp : 0 < nth (low cs) m
    · rw [if_pos ⟨hp, trivial⟩]
      have hd := LF.2.1 m hj hp
      have e : lsum (low (nthL ls m)) * (lcmTo (low cs) ls cs.length / lsum (low (nthL ls m))) = lcmTo (low cs) ls cs.length := Int.mul_ediv_cancel' hd
      unfold mixOne
      have l1 := LF.1
      have s1 := fc.2.2.1
      have q1 : 1 ≤ lcmTo (low cs) ls cs.length / lsum (low (nthL ls m)) := (Int.le_ediv_iff_mul_le (by omega)).2 (by have := Int.le_of_dvd (by omega) hd; omega)
      generalize lcmTo (low cs) ls cs.length / lsum (low (nthL ls m)) = q at *
      rw [← e]
      have r1 := rpos t1
      have r2 := rpos s1
      have r3 := rpos q1
      unfold val
      simp only [Rat.intCast_mul]
      grind
    · have z : nth (low cs) m = 0 := by
        have := (fc.2.1 m (by rw [low_length]; exact hj)).1
        omega
      rw [if_neg (fun e => hp e.1), z, val_zero, val_zero]
      grind
/-- The weights of a mixture together. -/
theorem mix_total {cs : List Int} {ls : List (List Int)} {n : Nat} (h : Mx cs ls n) : lsum (mixL (low cs) ls n) = lsum (low cs) * lcmTo (low cs) ls cs.length := by
  have fc := low_facts (chk1_ok h.cc).2.1 (chk1_ok h.cc).2.2.1
  have LF := lcmTo_facts (cs := low cs) (ls := ls) (k := cs.length) fun j hj _ => (h.lists hj).2.1
  have D1 : 1 ≤ lsum (low cs) * lcmTo (low cs) ls cs.length := Int.mul_pos (show 0 < _ from fc.2.2.1) (show 0 < _ from LF.1)
  have hlen : (low cs).length = cs.length := low_length cs
  have M := mix_facts (cs := low cs) (ls := ls) (n := n) fc.2.1 fc.2.2.1 (fun j hj => h.lists (by rw [← hlen]; exact hj)) (by rw [hlen]; exact h.prod)
  have nk : ∀ k, k < n → val (nth (mixL (low cs) ls n) k) (lsum (low cs) * lcmTo (low cs) ls cs.length) = rsum (fun j => fr cs j * fr (nthL ls j) k) cs.length := fun k hk => by
    unfold mixL
    rw [nth_tab _ hk, hlen]
    exact mixF_val h hk (Nat.le_refl _)
  have hl : (mixL (low cs) ls n).length = n := by unfold mixL; exact tab_length _ _
  have e1 : val (lsum (mixL (low cs) ls n)) (lsum (low cs) * lcmTo (low cs) ls cs.length) = 1 := by
    have := val_psum (mixL (low cs) ls n) (lsum (low cs) * lcmTo (low cs) ls cs.length) (Nat.le_refl _)
    rw [psum_all] at this
    rw [this, hl, rsum_congr nk, rsum_swap (fun j k => fr cs j * fr (nthL ls j) k)]
    rw [rsum_congr (g := fun j => fr cs j) fun j hj => ?_]
    · exact fr_sum (chk1_ok h.cc).2.2.1
    · rw [rsum_mul]
      have := fr_sum (chk1_ok (h.cl j hj)).2.2.1
      rw [h.len j hj] at this
      rw [this]; grind
  exact val_one D1 e1
/-- The fractions of a mixture. -/
theorem mix_fr {cs : List Int} {ls : List (List Int)} {n : Nat} (h : Mx cs ls n) {k : Nat} (hk : k < n) : fr (sMix cs ls).1 k = rsum (fun j => fr cs j * fr (nthL ls j) k) cs.length := by
  have fc := low_facts (chk1_ok h.cc).2.1 (chk1_ok h.cc).2.2.1
  have LF := lcmTo_facts (cs := low cs) (ls := ls) (k := cs.length) fun j hj _ => (h.lists hj).2.1
  have D1 : 1 ≤ lsum (low cs) * lcmTo (low cs) ls cs.length := Int.mul_pos (show 0 < _ from fc.2.2.1) (show 0 < _ from LF.1)
  have hlen : (low cs).length = cs.length := low_length cs
  have M := mix_facts (cs := low cs) (ls := ls) (n := n) fc.2.1 fc.2.2.1 (fun j hj => h.lists (by rw [← hlen]; exact hj)) (by rw [hlen]; exact h.prod)
  have nk : ∀ k, k < n → val (nth (mixL (low cs) ls n) k) (lsum (low cs) * lcmTo (low cs) ls cs.length) = rsum (fun j => fr cs j * fr (nthL ls j) k) cs.length := fun k hk => by
    unfold mixL
    rw [nth_tab _ hk, hlen]
    exact mixF_val h hk (Nat.le_refl _)
  have hl : (mixL (low cs) ls n).length = n := by unfold mixL; exact tab_length _ _
  have e2 := mix_total h
  have g1 := low_facts M.1 M.2
  rw [mx_mix h]
  show fr (low (mixL (low cs) ls n)) k = _
  rw [fr_low g1.1 g1.2.2.1, ← nk k hk]
  unfold fr
  rw [e2]
end Go.Proofs.Ytnpnnfbmnlgioaa

namespace Go.Proofs.Ytnpnnfbmnlgioaa
open Go.RowKit
set_option linter.unusedVariables false

theorem chk_of {xs : List Int} (hp : Pos xs) (hl : xs.length ≤ 4096) (h1 : 1 ≤ lsum xs) (h2 : lsum xs ≤ 1000000000000000) : chk1 xs = 0 := by
  have : anyB (outB 0 1000000000000000) xs = false := anyB_false fun i hi => by
    have := hp i
    have := nth_le_lsum hp i
    simp [outB]; omega
  unfold chk1
  rw [if_neg (by omega), if_neg (by rw [this]; simp [outB]; omega)]
theorem pos_of {xs : List Int} (h : chk1 xs = 0) : Pos xs := fun i => by
  by_cases hi : i < xs.length
  · exact ((chk1_ok h).2.1 i hi).1
  · rw [nth_out hi]; omega
theorem map_chk {xs ts : List Int} {m : Nat} (h : chk1 xs = 0) (ht : ∀ i, i < xs.length → 0 ≤ nth ts i ∧ nth ts i < m) (hm : m ≤ 4096) : chk1 (mapTo xs ts m xs.length) = 0 ∧ lsum (mapTo xs ts m xs.length) = lsum xs := by
  obtain ⟨a1, a2, a3, a4⟩ := chk1_ok h
  obtain ⟨b1, b2⟩ := mapTo_facts (n := m) (pos_of h) (Nat.le_refl xs.length) ht
  rw [psum_all] at b2
  exact ⟨chk_of b1 (by rw [mapTo_length]; exact hm) (by omega) (by omega), b2⟩
theorem map_fr {xs ts : List Int} {m : Nat} (h : chk1 xs = 0) (ht : ∀ i, i < xs.length → 0 ≤ nth ts i ∧ nth ts i < m) (hm : m ≤ 4096) {j : Nat} (hj : j < m) :
    fr (mapTo xs ts m xs.length) j = rmap (fr xs) (fun i => (nth ts i).toNat) xs.length j := by
  have := (map_chk h ht hm).2
  unfold fr
  rw [this]
  exact nth_mapTo ht hj _
/-- What divides all weights divides all of what they are mapped to. -/
theorem dvd_map {xs ts : List Int} {m : Nat} {d : Int} (hd : ∀ i, i < xs.length → d ∣ nth xs i) (ht : ∀ i, i < xs.length → 0 ≤ nth ts i ∧ nth ts i < m) {k : Nat} (hk : k ≤ xs.length) : ∀ j, j < m → d ∣ nth (mapTo xs ts m k) j := by
  induction k with
  | zero =>
    intro j hj
    simp only [mapTo]
    have : nth (List.replicate m 0) j = 0 := by rw [nth_eq (by simpa using hj)]; simp
    rw [this]; exact Int.dvd_zero d
  | succ k ih =>
    intro j hj
    have h2 := ht k (by omega)
    simp only [mapTo]
    rw [nth_set (by rw [mapTo_length]; omega)]
    split
    · exact Int.dvd_add (ih (by omega) _ (by omega)) (hd k (by omega))
    · exact ih (by omega) j hj
theorem map_dvd {xs ts : List Int} {m : Nat} (h : chk1 xs = 0) (ht : ∀ i, i < xs.length → 0 ≤ nth ts i ∧ nth ts i < m) (hm : m ≤ 4096) : lsum (low (mapTo xs ts m xs.length)) ∣ lsum (low xs) := by
  obtain ⟨c1, c2⟩ := map_chk h ht hm
  have g1 := low_facts (chk1_ok h).2.1 (chk1_ok h).2.2.1
  have k1 : gcdl xs ∣ gcdl (mapTo xs ts m xs.length) := dvd_gcdl fun j hj => dvd_map (fun i hi => gcdl_dvd hi) ht (Nat.le_refl _) j (by rwa [mapTo_length] at hj)
  obtain ⟨e, he⟩ := k1
  have e1 := lsum_low xs
  have e2 := lsum_low (mapTo xs ts m xs.length)
  rw [c2, he] at e2
  have e3 : gcdl xs * lsum (low xs) = gcdl xs * (e * lsum (low (mapTo xs ts m xs.length))) := by rw [← e1, e2, Int.mul_assoc]
  have e4 := Int.eq_of_mul_eq_mul_left (by have := g1.1; omega) e3
  rw [e4]
  exact Int.dvd_mul_left _ _
/-- All lists mapped. -/
def mapped (ls : List (List Int)) (ts : List Int) (m : Nat) : List (List Int) := ls.map fun xs => mapTo xs ts m xs.length
theorem nthL_mapped {ls : List (List Int)} (ts : List Int) (m : Nat) {j : Nat} (hj : j < ls.length) : nthL (mapped ls ts m) j = mapTo (nthL ls j) ts m (nthL ls j).length := by
  unfold mapped
  rw [nthL_eq (by simpa using hj), nthL_eq hj]
  simp
theorem mapped_mx {cs : List Int} {ls : List (List Int)} {ts : List Int} {n m : Nat} (h : Mx cs ls n) (hn : 1 ≤ cs.length) (ht : ∀ i, i < n → 0 ≤ nth ts i ∧ nth ts i < m) (hm : m ≤ 4096) : Mx cs (mapped ls ts m) m := by
  have htj : ∀ j, j < cs.length → ∀ i, i < (nthL ls j).length → 0 ≤ nth ts i ∧ nth ts i < m := fun j hj i hi => ht i (by rw [h.len j hj] at hi; exact hi)
  have en : ∀ j, j < cs.length → nthL (mapped ls ts m) j = mapTo (nthL ls j) ts m (nthL ls j).length := fun j hj => nthL_mapped ts m (by rw [h.ll]; exact hj)
  have cl : ∀ j, j < cs.length → chk1 (nthL (mapped ls ts m) j) = 0 := fun j hj => by rw [en j hj]; exact (map_chk (h.cl j hj) (htj j hj) hm).1
  have len : ∀ j, j < cs.length → (nthL (mapped ls ts m) j).length = m := fun j hj => by rw [en j hj, mapTo_length]
  have LF := lcmTo_facts (cs := low cs) (ls := ls) (k := cs.length) fun j hj _ => (h.lists hj).2.1
  have LM := lcmTo_facts (cs := low cs) (ls := mapped ls ts m) (k := cs.length) fun j hj _ => (low_facts (chk1_ok (cl j hj)).2.1 (chk1_ok (cl j hj)).2.2.1).2.2.1
  have hd : lcmTo (low cs) (mapped ls ts m) cs.length ∣ lcmTo (low cs) ls cs.length := LM.2.2 _ fun j hj hp => by
    rw [en j hj]
    exact Int.dvd_trans (map_dvd (h.cl j hj) (htj j hj) hm) (LF.2.1 j hj hp)
  have hle := Int.le_of_dvd (by have := LF.1; omega) hd
  have fc := low_facts (chk1_ok h.cc).2.1 (chk1_ok h.cc).2.2.1
  refine ⟨h.cc, by unfold mapped; rw [List.length_map]; exact h.ll, cl, len, len 0 hn, by have := h.lcm; omega, ?_⟩
  exact Int.le_trans (Int.mul_le_mul_of_nonneg_left hle (by have := fc.2.2.1; omega)) h.prod
/-- Lists with the same fractions give the same chances. -/
theorem low_of_fr {a b : List Int} (ha : chk1 a = 0) (hb : chk1 b = 0) (hl : a.length = b.length) (h : ∀ i, i < a.length → fr a i = fr b i) : low a = low b := by
  have fa := low_facts (chk1_ok ha).2.1 (chk1_ok ha).2.2.1
  have fb := low_facts (chk1_ok hb).2.1 (chk1_ok hb).2.2.1
  have a1 := fa.2.2.1
  have b1 := fb.2.2.1
  have e : ∀ i, i < a.length → nth (low a) i * lsum (low b) = nth (low b) i * lsum (low a) := fun i hi => by
    have e1 := h i hi
    rw [← val_low ha hi, ← val_low hb (by omega)] at e1
    have x := (val_le a1 b1).1 (by rw [e1]; exact Rat.le_refl)
    have y := (val_le b1 a1).1 (by rw [e1]; exact Rat.le_refl)
    omega
  have k1 := coprime_scale fa.2.2.1 fb.2.2.1 (x := low a) (fun i => nth (low b) i) (fun i hi => e i (by rwa [low_length] at hi)) (gcdl_low fa.1)
  have k2 := coprime_scale fb.2.2.1 fa.2.2.1 (x := low b) (fun i => nth (low a) i) (fun i hi => (e i (by rw [low_length] at hi; omega)).symm) (gcdl_low fb.1)
  have k3 : lsum (low a) = lsum (low b) := Int.le_antisymm (Int.le_of_dvd (by omega) k1) (Int.le_of_dvd (by omega) k2)
  exact nths_ext (by rw [low_length, low_length, hl]) fun i hi => by
    have := e i (by rwa [low_length] at hi)
    rw [k3] at this
    exact Int.eq_of_mul_eq_mul_right (by omega) this
/-- A mixture is valid, with as many outcomes as the lists have. -/
theorem mix_chk {cs : List Int} {ls : List (List Int)} {n : Nat} (h : Mx cs ls n) (hn : n ≤ 4096) : chk1 (sMix cs ls).1 = 0 ∧ (sMix cs ls).1.length = n ∧ (sMix cs ls).2 = 0 := by
  have fc := low_facts (chk1_ok h.cc).2.1 (chk1_ok h.cc).2.2.1
  have hlen : (low cs).length = cs.length := low_length cs
  have M := mix_facts (cs := low cs) (ls := ls) (n := n) fc.2.1 fc.2.2.1 (fun j hj => h.lists (by rw [← hlen]; exact hj)) (by rw [hlen]; exact h.prod)
  have g1 := low_facts M.1 M.2
  have hl : (low (mixL (low cs) ls n)).length = n := by rw [low_length]; unfold mixL; exact tab_length _ _
  rw [mx_mix h]
  refine ⟨?_, hl, rfl⟩
  have hp : Pos (low (mixL (low cs) ls n)) := fun i => by
    by_cases hi : i < (low (mixL (low cs) ls n)).length
    · exact (g1.2.1 i hi).1
    · rw [nth_out hi]; omega
  refine chk_of hp (by rw [hl]; exact hn) g1.2.2.1 ?_
  have k1 : lsum (mixL (low cs) ls n) ≤ 1000000000000000 := by rw [mix_total h]; exact h.prod
  exact Int.le_trans g1.2.2.2 k1
/-- What is mixed and mapped is what is mapped and mixed. -/
theorem mix_map {cs : List Int} {ls : List (List Int)} {ts : List Int} {n m : Nat} (h : Mx cs ls n) (hn0 : 1 ≤ cs.length) (hn : n ≤ 4096) (ht : ∀ i, i < n → 0 ≤ nth ts i ∧ nth ts i < m) (hm : m ≤ 4096) :
    sameB (mapTo (sMix cs ls).1 ts m (sMix cs ls).1.length) (sMix cs (mapped ls ts m)).1 = true := by
  have H := mapped_mx h hn0 ht hm
  obtain ⟨c1, c2, c3⟩ := mix_chk h hn
  obtain ⟨d1, d2, d3⟩ := mix_chk H hm
  have ht' : ∀ i, i < (sMix cs ls).1.length → 0 ≤ nth ts i ∧ nth ts i < m := fun i hi => ht i (by rwa [c2] at hi)
  have m1 := (map_chk c1 ht' hm).1
  have e : low (mapTo (sMix cs ls).1 ts m (sMix cs ls).1.length) = low (sMix cs (mapped ls ts m)).1 := by
    refine low_of_fr m1 d1 (by rw [mapTo_length, d2]) fun j hj => ?_
    rw [mapTo_length] at hj
    rw [map_fr c1 ht' hm hj, mix_fr H hj]
    unfold rmap
    rw [c2, rsum_congr (g := fun i => rsum (fun c => fr cs c * if (nth ts i).toNat = j then fr (nthL ls c) i else 0) cs.length) fun i hi => ?_]
    · rw [rsum_swap (fun c i => fr cs c * if (nth ts i).toNat = j then fr (nthL ls c) i else 0)]
      refine rsum_congr fun c hc => ?_
      rw [rsum_mul]
      congr 1
      have hcl := h.cl c hc
      have hln := h.len c hc
      rw [nthL_mapped ts m (by rw [h.ll]; exact hc), map_fr hcl (fun i hi => ht i (by rwa [hln] at hi)) hm hj]
      unfold rmap
      rw [hln]
    · by_cases k : (nth ts i).toNat = j
      · simp only [k, if_true]
        exact mix_fr h hi
      · simp only [k, if_false]
        rw [rsum_congr (g := fun _ => 0) fun c _ => by grind, rsum_none]
  unfold sameB sSame
  rw [if_pos (chkL2_ok m1 d1), e]
  simp [eqL]
/-- What Both returns for valid chances: their product, or that it is too great. -/
theorem sBoth_ok {an ad bn bd : Int} (ha : badC an ad = false) (hb : badC bn bd = false) : ((sBoth an ad bn bd).2.2 = 10 ∧ (sBoth an ad bn bd).1 = 0 ∧ (sBoth an ad bn bd).2.1 = 0) ∨
    ((sBoth an ad bn bd).2.2 = 0 ∧ badC (sBoth an ad bn bd).1 (sBoth an ad bn bd).2.1 = false ∧ val (sBoth an ad bn bd).1 (sBoth an ad bn bd).2.1 = val an ad * val bn bd) := by
  have ga := gcd_one ha
  have gb := gcd_one hb
  obtain ⟨a1, a2, a3, a4, _⟩ := badC_ok ha
  obtain ⟨b1, b2, b3, b4, _⟩ := badC_ok hb
  have hbad : ¬ (badC an ad = true ∨ badC bn bd = true) := by rw [ha, hb]; simp
  unfold sBoth
  rw [if_neg hbad]
  by_cases ho : 1000000000000000 < bd / Int.gcd an bd * (ad / Int.gcd bn ad)
  · rw [if_pos ho]; exact .inl ⟨rfl, rfl, rfl⟩
  · rw [if_neg ho]
    refine .inr ⟨rfl, ?_⟩
    have g1 : 1 ≤ (Int.gcd an bd : Int) := gcd_pos b1
    have h1 : 1 ≤ (Int.gcd bn ad : Int) := gcd_pos a1
    have e1 : (Int.gcd an bd : Int) * (an / Int.gcd an bd) = an := Int.mul_ediv_cancel' (Int.gcd_dvd_left ..)
    have e2 : (Int.gcd an bd : Int) * (bd / Int.gcd an bd) = bd := Int.mul_ediv_cancel' (Int.gcd_dvd_right ..)
    have e3 : (Int.gcd bn ad : Int) * (bn / Int.gcd bn ad) = bn := Int.mul_ediv_cancel' (Int.gcd_dvd_left ..)
    have e4 : (Int.gcd bn ad : Int) * (ad / Int.gcd bn ad) = ad := Int.mul_ediv_cancel' (Int.gcd_dvd_right ..)
    have x1 : 1 ≤ bd / (Int.gcd an bd : Int) := (Int.le_ediv_iff_mul_le (by omega)).2 (by have := Int.le_of_dvd (by omega) (Int.gcd_dvd_right an bd); omega)
    have y1 : 1 ≤ ad / (Int.gcd bn ad : Int) := (Int.le_ediv_iff_mul_le (by omega)).2 (by have := Int.le_of_dvd (by omega) (Int.gcd_dvd_right bn ad); omega)
    have n1 : 0 ≤ an / (Int.gcd an bd : Int) := Int.ediv_nonneg a3 (by omega)
    have n2 : 0 ≤ bn / (Int.gcd bn ad : Int) := Int.ediv_nonneg b3 (by omega)
    have D1 : 1 ≤ bd / (Int.gcd an bd : Int) * (ad / (Int.gcd bn ad : Int)) := Int.mul_pos (show 0 < _ from x1) (show 0 < _ from y1)
    refine ⟨ok_of D1 (Int.not_lt.1 ho) (Int.mul_nonneg n1 n2) ?_ ?_, ?_⟩
    · have k5 : an * bn ≤ ad * bd := Int.mul_le_mul a4 b4 b3 (by omega)
      refine Int.le_of_mul_le_mul_left ?_ (show 0 < (Int.gcd an bd : Int) * (Int.gcd bn ad : Int) from Int.mul_pos (by omega) (by omega))
      calc (Int.gcd an bd : Int) * (Int.gcd bn ad : Int) * (an / (Int.gcd an bd : Int) * (bn / (Int.gcd bn ad : Int))) = ((Int.gcd an bd : Int) * (an / Int.gcd an bd)) * ((Int.gcd bn ad : Int) * (bn / Int.gcd bn ad)) := by ac_rfl
        _ = an * bn := by rw [e1, e3]
        _ ≤ ad * bd := k5
        _ = ((Int.gcd bn ad : Int) * (ad / Int.gcd bn ad)) * ((Int.gcd an bd : Int) * (bd / Int.gcd an bd)) := by rw [e4, e2]
        _ = _ := by ac_rfl
    · obtain ⟨a, rfl⟩ := Int.eq_ofNat_of_zero_le a3
      obtain ⟨b, rfl⟩ := Int.eq_ofNat_of_zero_le (show 0 ≤ ad by omega)
      obtain ⟨c, rfl⟩ := Int.eq_ofNat_of_zero_le b3
      obtain ⟨d, rfl⟩ := Int.eq_ofNat_of_zero_le (show 0 ≤ bd by omega)
      have := both_low (pn := a) (pd := b) (qn := c) (qd := d) (by omega) (by omega) ga gb
      obtain ⟨x, y⟩ := low_nat a d
      obtain ⟨z, t⟩ := low_nat c b
      rw [x, y, z, t]
      exact this
    · have r1 := rpos a1
      have r2 := rpos b1
      have r3 := rpos g1
      have r4 := rpos h1
      have r5 := rpos x1
      have r6 := rpos y1
      have f1 : (an : Rat) = ((Int.gcd an bd : Int) : Rat) * ((an / Int.gcd an bd : Int) : Rat) := by rw [← Rat.intCast_mul, e1]
      have f2 : (bd : Rat) = ((Int.gcd an bd : Int) : Rat) * ((bd / Int.gcd an bd : Int) : Rat) := by rw [← Rat.intCast_mul, e2]
      have f3 : (bn : Rat) = ((Int.gcd bn ad : Int) : Rat) * ((bn / Int.gcd bn ad : Int) : Rat) := by rw [← Rat.intCast_mul, e3]
      have f4 : (ad : Rat) = ((Int.gcd bn ad : Int) : Rat) * ((ad / Int.gcd bn ad : Int) : Rat) := by rw [← Rat.intCast_mul, e4]
      unfold val
      rw [Rat.intCast_mul, Rat.intCast_mul]
      generalize ((an / Int.gcd an bd : Int) : Rat) = p1 at *
      generalize ((bd / Int.gcd an bd : Int) : Rat) = p2 at *
      generalize ((bn / Int.gcd bn ad : Int) : Rat) = p3 at *
      generalize ((ad / Int.gcd bn ad : Int) : Rat) = p4 at *
      generalize ((Int.gcd an bd : Int) : Rat) = p5 at *
      generalize ((Int.gcd bn ad : Int) : Rat) = p6 at *
      rw [f1, f2, f3, f4]
      grind
/-- Either does not say that a sum of at most 1 is greater. -/
theorem sEither_le {an ad bn bd : Int} (ha : badC an ad = false) (hb : badC bn bd = false) (h : val an ad + val bn bd ≤ 1) : (sEither an ad bn bd).2.2 = 0 ∨ ((sEither an ad bn bd).2.2 = 10 ∧ (sEither an ad bn bd).1 = 0 ∧ (sEither an ad bn bd).2.1 = 0) := by
  have F := eFacts ha hb
  obtain ⟨a1, a2, a3, a4, _⟩ := badC_ok ha
  obtain ⟨b1, b2, b3, b4, _⟩ := badC_ok hb
  have hbad : ¬ (badC an ad = true ∨ badC bn bd = true) := by rw [ha, hb]; simp
  unfold sEither
  rw [if_neg hbad]
  have hc : ¬ ad * (bd / eG ad bd) < eNum an ad bn bd := fun hc => by
    have D1 : 1 ≤ ad * bd := Int.mul_pos (show 0 < ad by omega) (show 0 < bd by omega)
    rw [val_add a1 b1] at h
    have h2 := (val_le (bn := 1) (bd := 1) D1 (by omega)).1 (by rw [val_self (d := 1) (by omega)]; exact h)
    have eN : eG ad bd * eNum an ad bn bd = an * bd + bn * ad := by
      rw [F.nm, Int.mul_add]
      have e1 := F.ap
      have e2 := F.bq
      generalize ad / eG ad bd = p at *
      generalize bd / eG ad bd = q at *
      generalize eG ad bd = g at *
      rw [e1, e2]; congr 1 <;> ac_rfl
    have eD : eG ad bd * (ad * (bd / eG ad bd)) = ad * bd := by
      have e2 := F.bq
      generalize bd / eG ad bd = q at *
      generalize eG ad bd = g at *
      rw [e2]; ac_rfl
    have h3 : eG ad bd * (ad * (bd / eG ad bd)) < eG ad bd * eNum an ad bn bd := Int.mul_lt_mul_of_pos_left hc (by have := F.g1; omega)
    rw [eD, eN] at h3
    rw [Int.mul_one, Int.one_mul] at h2
    exact absurd h3 (Int.not_lt.2 h2)
  rw [if_neg hc]
  split
  · exact .inr ⟨rfl, rfl, rfl⟩
  · exact .inl rfl
end Go.Proofs.Ytnpnnfbmnlgioaa

