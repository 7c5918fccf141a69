/-
  The circle of houses: what stays when all houses move on by some.
-/
import Derived.Test.YtdnccdobnhbpeaaDoorHcV
namespace Go.Proofs.YtdnccdobnhbpeaaDoor
open Go Go.RowKit
set_option linter.unusedVariables false
set_option linter.unusedSimpArgs false

/-- A house moved on. -/
def onV (n : Nat) (x : Int) : Int := (x - 1 + (n : Int)) % 12 + 1
theorem onV_hou (n : Nat) (x : Int) : Hou (onV n x) := by unfold onV Hou; omega
theorem onV_inj {n : Nat} {x y : Int} (hx : Hou x) (hy : Hou y) (h : onV n x = onV n y) : x = y := by
  unfold onV at h
  unfold Hou at hx hy
  omega
/-- A tie moved on. -/
def onT (n : Nat) (t : T3) : T3 := (t.1, onV n t.2.1, onV n t.2.2)
/-- The houses moved on. -/
def turnL (s : List Int) (n : Nat) : List Int := (List.range 12).map fun j => nth s ((j + 12 - n) % 12)
theorem turnL_len (s : List Int) (n : Nat) : (turnL s n).length = 12 := by simp [turnL]
theorem turnL_at (s : List Int) {n j : Nat} (hj : j < 12) : nth (turnL s n) j = nth s ((j + 12 - n) % 12) := by
  rw [nth_eq (by rw [turnL_len]; exact hj)]
  simp [turnL]
theorem fg_turn (s : List Int) {n : Nat} (hn : n < 12) {x : Int} (hx : Hou x) : fg (turnL s n) (onV n x) = fg s x := by
  obtain ⟨k, hk, rfl⟩ := hou_nat hx
  have e : (onV n (Int.ofNat (k + 1)) - 1).toNat = (k + n) % 12 := by
    unfold onV
    simp only [Int.ofNat_eq_natCast]
    omega
  have e2 : (Int.ofNat (k + 1) - 1).toNat = k := by simp
  unfold fg
  rw [e, e2, turnL_at s (by omega)]
  congr 1
  omega
theorem nb1_on (n : Nat) (x : Int) : nb1 (onV n x) = onV n (nb1 x) := by unfold nb1 onV; omega
theorem nb2_on (n : Nat) (x : Int) : nb2 (onV n x) = onV n (nb2 x) := by unfold nb2 onV; omega
theorem nbs_on (n : Nat) (x : Int) : nbs (onV n x) = (nbs x).map (onV n) := by unfold nbs; rw [nb1_on, nb2_on]; rfl
theorem ap_on_run : ((List.range 12).all fun n => (List.range 12).all fun a => (List.range 12).all fun b => decide (apN (onV n (Int.ofNat (a + 1))) (onV n (Int.ofNat (b + 1))) = apN (Int.ofNat (a + 1)) (Int.ofNat (b + 1)))) = true := by kernel_rfl
theorem ap_on {n : Nat} (hn : n < 12) {a b : Int} (ha : Hou a) (hb : Hou b) : apN (onV n a) (onV n b) = apN a b := by
  have h := ap_on_run
  simp only [List.all_eq_true, List.mem_range, decide_eq_true_eq] at h
  obtain ⟨k, hk, rfl⟩ := hou_nat ha
  obtain ⟨m, hm, rfl⟩ := hou_nat hb
  exact h n hn k hk m hm
theorem third_on {n : Nat} {a b x : Int} (ha : Hou a) (hb : Hou b) (hx : Hou x) : thirdB (onV n a) (onV n b) (onV n x) = thirdB a b x := by
  rw [Bool.eq_iff_iff, third_iff, third_iff]
  exact ⟨fun ⟨h1, h2⟩ => ⟨fun e => h1 (by rw [e]), fun e => h2 (by rw [e])⟩, fun ⟨h1, h2⟩ => ⟨fun e => h1 (onV_inj hx ha e), fun e => h2 (onV_inj hx hb e)⟩⟩
/-- Filtering and mapping a list that has moved on. -/
theorem filter_on {n : Nat} {l : List Int} (hl : ∀ x ∈ l, Hou x) {p q : Int → Bool} {f g : Int → T3} (hp : ∀ x, Hou x → p (onV n x) = q x) (hf : ∀ x, f (onV n x) = onT n (g x)) :
    ((l.map (onV n)).filter p).map f = ((l.filter q).map g).map (onT n) := by
  induction l with
  | nil => rfl
  | cons x l ih =>
    have hx := hl x (List.mem_cons_self ..)
    have h := ih fun y hy => hl y (List.mem_cons_of_mem _ hy)
    simp only [List.map_cons, List.filter_cons, hp x hx]
    cases q x
    · simpa using h
    · simp only [if_true, List.map_cons, hf]
      rw [h]
theorem nbs_all (b : Int) : ∀ x ∈ nbs b, Hou x := fun x hx => nbs_hou hx
section
variable {s : List Int} {n : Nat} {a b : Int}
theorem occ_on (hn : n < 12) (ha : Hou a) (hb : Hou b) : occL (turnL s n) (onV n a) (onV n b) = (occL s a b).map (onT n) := by
  unfold occL
  rw [fg_turn s hn ha, fg_turn s hn hb]
  split <;> rfl
theorem cj1_on (hn : n < 12) (ha : Hou a) (hb : Hou b) : cj1 (turnL s n) (onV n a) (onV n b) (nbs (onV n b)) = (cj1 s a b (nbs b)).map (onT n) := by
  unfold cj1
  rw [nbs_on]
  refine filter_on (nbs_all b) (fun x hx => ?_) (fun x => rfl)
  rw [fg_turn s hn ha, fg_turn s hn hx]
  congr 1
  rw [decide_eq_decide]
  exact ⟨fun h e => h (by rw [e]), fun h e => h (onV_inj hx ha e)⟩
theorem cj2_on (hn : n < 12) (ha : Hou a) (hb : Hou b) : cj2 (turnL s n) (onV n a) (onV n b) (nbs (onV n a)) = (cj2 s a b (nbs a)).map (onT n) := by
  unfold cj2
  rw [nbs_on]
  refine filter_on (nbs_all a) (fun x hx => ?_) (fun x => rfl)
  rw [fg_turn s hn hb, fg_turn s hn hx]
  congr 1
  rw [decide_eq_decide]
  exact ⟨fun h e => h (by rw [e]), fun h e => h (onV_inj hx hb e)⟩
theorem mu1_on (hn : n < 12) (ha : Hou a) (hb : Hou b) {x : Int} (hx : Hou x) : mu1 (turnL s n) (onV n a) (onV n b) (onV n x) (nbs (onV n x)) = (mu1 s a b x (nbs x)).map (onT n) := by
  unfold mu1
  rw [nbs_on]
  refine filter_on (nbs_all x) (fun y hy => ?_) (fun y => rfl)
  rw [third_on ha hb hx, third_on ha hb hy, fg_turn s hn hb, fg_turn s hn hy]
theorem tr1_on (hn : n < 12) (ha : Hou a) (hb : Hou b) {x : Int} (hx : Hou x) : tr1 (turnL s n) (onV n a) (onV n b) (onV n x) = (tr1 s a b x).map (onT n) := by
  unfold tr1
  rw [fg_turn s hn ha, fg_turn s hn hb, fg_turn s hn hx]
  split
  · rfl
  · unfold tr2
    rw [nbs_on]
    refine filter_on (nbs_all b) (fun y hy => ?_) (fun y => rfl)
    rw [third_on ha hb hx, third_on ha hb hy, fg_turn s hn hx, fg_turn s hn hy]
    congr 2
    by_cases h : x = y
    · rw [h]; simp
    · have h' : onV n x ≠ onV n y := fun e => h (onV_inj hx hy e)
      rw [show (x != y) = true by simpa using h, show (onV n x != onV n y) = true by simpa using h']
theorem tr_on (hn : n < 12) (ha : Hou a) (hb : Hou b) : trL (turnL s n) (onV n a) (onV n b) (nbs (onV n a)) = (trL s a b (nbs a)).map (onT n) := by
  unfold trL
  rw [nbs_on, List.map_flatMap, List.flatMap_map]
  have h : ∀ l : List Int, (∀ x ∈ l, Hou x) → (l.flatMap fun x => tr1 (turnL s n) (onV n a) (onV n b) (onV n x)) = l.flatMap fun x => (tr1 s a b x).map (onT n) := by
    intro l hl
    induction l with
    | nil => rfl
    | cons x l ih =>
      rw [List.flatMap_cons, List.flatMap_cons, tr1_on hn ha hb (hl x (List.mem_cons_self ..)), ih fun y hy => hl y (List.mem_cons_of_mem _ hy)]
  exact h _ (nbs_all a)
theorem stand_nodup (s : List Int) (f : Int) : (standL s f 12).Nodup := by
  unfold standL
  refine List.Pairwise.map _ (R := fun x y : Nat => x ≠ y) (fun x y h e => h (by omega)) ?_
  exact List.Pairwise.filter _ List.nodup_range
theorem stand_on (hn : n < 12) (f : Int) : (standL (turnL s n) f 12).Perm ((standL s f 12).map (onV n)) := by
  refine (List.perm_ext_iff_of_nodup (stand_nodup _ _) ?_).2 fun x => ?_
  · refine List.pairwise_map.2 ?_
    refine List.Pairwise.imp_of_mem ?_ (stand_nodup s f)
    intro x y hx hy h e
    exact h (onV_inj (standL_mem.1 hx).1 (standL_mem.1 hy).1 e)
  · rw [standL_mem, List.mem_map]
    constructor
    · rintro ⟨hx, hf⟩
      have hy : onV n (onV (12 - n) x) = x := by unfold onV; unfold Hou at hx; omega
      refine ⟨onV (12 - n) x, standL_mem.2 ⟨onV_hou _ _, ?_⟩, hy⟩
      rw [← fg_turn s hn (onV_hou _ _), hy]
      exact hf
    · rintro ⟨y, hy, rfl⟩
      obtain ⟨h1, h2⟩ := standL_mem.1 hy
      exact ⟨onV_hou _ _, by rw [fg_turn s hn h1]; exact h2⟩
theorem mu_on (hn : n < 12) (ha : Hou a) (hb : Hou b) (f : Int) : (muL (turnL s n) (onV n a) (onV n b) (standL (turnL s n) f 12)).Perm ((muL s a b (standL s f 12)).map (onT n)) := by
  unfold muL
  refine ((stand_on hn f).flatMap_right _).trans ?_
  rw [List.map_flatMap, List.flatMap_map]
  have h : ∀ l : List Int, (∀ x ∈ l, Hou x) → (l.flatMap fun x => mu1 (turnL s n) (onV n a) (onV n b) (onV n x) (nbs (onV n x))) = l.flatMap fun x => (mu1 s a b x (nbs x)).map (onT n) := by
    intro l hl
    induction l with
    | nil => rfl
    | cons x l ih =>
      rw [List.flatMap_cons, List.flatMap_cons, mu1_on hn ha hb (hl x (List.mem_cons_self ..)), ih fun y hy => hl y (List.mem_cons_of_mem _ hy)]
  rw [h _ fun x hx => (standL_mem.1 hx).1]
/-- The ties move on. -/
theorem raw_on (hn : n < 12) (ha : Hou a) (hb : Hou b) : (rawL (turnL s n) (onV n a) (onV n b)).Perm ((rawL s a b).map (onT n)) := by
  rw [rawL_eq, rawL_eq, occ_on hn ha hb, cj1_on hn ha hb, cj2_on hn ha hb, tr_on hn ha hb, fg_turn s hn ha]
  simp only [List.map_append]
  exact ((List.Perm.refl _).append (mu_on hn ha hb _)).append (List.Perm.refl _)
/-- The aspects move on. -/
theorem as_on (hn : n < 12) (hb : Hou b) (f : Int) : (asL (onV n b) (standL (turnL s n) f 12)).Perm ((asL b (standL s f 12)).map (onT n)) := by
  unfold asL
  refine (((stand_on hn f).filter _).map _).trans ?_
  have h : ∀ l : List Int, (∀ x ∈ l, Hou x) → ((l.map (onV n)).filter fun x => isAsp (apN x (onV n b))).map (fun x => (((apN x (onV n b) : Nat) : Int), x, onV n b)) = ((l.filter fun x => isAsp (apN x b)).map fun x => (((apN x b : Nat) : Int), x, b)).map (onT n) := by
    intro l hl
    induction l with
    | nil => rfl
    | cons x l ih =>
      have hx := hl x (List.mem_cons_self ..)
      have hi := ih fun y hy => hl y (List.mem_cons_of_mem _ hy)
      simp only [List.map_cons, List.filter_cons, ap_on hn hx hb]
      cases isAsp (apN x b)
      · simpa using hi
      · simp only [if_true, List.map_cons, ap_on hn hx hb]
        rw [hi]
        rfl
  rw [h _ fun x hx => (standL_mem.1 hx).1]
theorem any_perm_on {ts us : List T3} {p : T3 → Bool} (h : us.Perm (ts.map (onT n))) (hp : ∀ t, p (onT n t) = p t) : us.any p = ts.any p := by
  rw [h.any_eq, List.any_map]
  congr 1
  funext t
  exact hp t
/-- The verdict stays. -/
theorem jdg_on (hn : n < 12) (ha : Hou a) (hb : Hou b) : jdg (turnL s n) (onV n a) (onV n b) = jdg s a b := by
  unfold jdg jdL
  rw [fg_turn s hn ha, any_perm_on (raw_on hn ha hb) (fun t => rfl), any_perm_on (as_on hn hb (fg s a)) (fun t => rfl), (raw_on (s := s) hn ha hb).length_eq, (as_on (s := s) hn hb (fg s a)).length_eq, List.length_map, List.length_map]
end
end Go.Proofs.YtdnccdobnhbpeaaDoor
