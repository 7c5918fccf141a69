/-
  What Mix of package odds returns where nothing is refused.
-/
import Derived.Test.YtnpnnfbmnlgioaaO
namespace Go.Proofs.Ytnpnnfbmnlgioaa
open Go.RowKit Go.Maps

/-- F 0, .., F (n - 1). -/
def tab (n : Nat) (F : Nat → Int) : List Int := (List.range n).map F
theorem tab_length (n : Nat) (F : Nat → Int) : (tab n F).length = n := by simp [tab]
theorem nth_tab {n k : Nat} (F : Nat → Int) (h : k < n) : nth (tab n F) k = F k := by
  rw [nth_eq (by rw [tab_length]; exact h)]; simp [tab]
theorem tab_set (n k : Nat) (F : Nat → Int) (v : Int) : (tab n F).set k v = tab n (fun i => if i = k then v else F i) := by
  apply List.ext_getElem
  · simp [tab]
  · intro i h1 h2
    simp only [tab, List.getElem_set, List.getElem_map, List.getElem_range]
    by_cases e : k = i
    · subst e; simp
    · simp [e, Ne.symm e]
theorem tab_congr {n : Nat} {F G : Nat → Int} (h : ∀ k, k < n → F k = G k) : tab n F = tab n G := by
  unfold tab
  apply List.map_congr_left
  intro k hk
  exact h k (by simpa using hk)
theorem tab_zero (n : Nat) : tab n (fun _ => 0) = List.replicate n 0 := by
  unfold tab
  apply List.ext_getElem <;> simp

/-- What case j brings to outcome k. -/
def mixOne (cs : List Int) (ls : List (List Int)) (L : Int) (j k : Nat) : Int := nth cs j * (L / lsum (low (nthL ls j))) * nth (low (nthL ls j)) k
/-- What the cases that are no longer to come, of the first m, bring to outcome k. -/
def mixF (cs : List Int) (ls : List (List Int)) (L : Int) (left : Nat → Bool) : Nat → Nat → Int
  | 0, _ => 0
  | m + 1, k => mixF cs ls L left m k + if 0 < nth cs m ∧ left m = false then mixOne cs ls L m k else 0
theorem mixF_none {cs : List Int} {ls : List (List Int)} {L : Int} {left : Nat → Bool} {m : Nat} (h : ∀ j, j < m → 0 < nth cs j → left j = true) (k : Nat) : mixF cs ls L left m k = 0 := by
  induction m with
  | zero => rfl
  | succ m ih =>
    simp only [mixF]
    rw [ih fun j hj hp => h j (by omega) hp, if_neg]
    · rfl
    · rintro ⟨hp, hf⟩
      rw [h m (by omega) hp] at hf
      cases hf
theorem mixF_congr {cs : List Int} {ls : List (List Int)} {L : Int} {left left' : Nat → Bool} {m : Nat} (h : ∀ j, j < m → 0 < nth cs j → left j = left' j) (k : Nat) : mixF cs ls L left m k = mixF cs ls L left' m k := by
  induction m with
  | zero => rfl
  | succ m ih =>
    simp only [mixF]
    rw [ih fun j hj hp => h j (by omega) hp]
    congr 1
    by_cases hp : 0 < nth cs m
    · rw [h m (by omega) hp]
    · rw [if_neg (by simp [hp]), if_neg (by simp [hp])]
theorem mixF_step {cs : List Int} {ls : List (List Int)} {L : Int} {left left' : Nat → Bool} {m j : Nat} (hj : j < m) (hp : 0 < nth cs j) (h1 : left j = true) (h2 : left' j = false) (h : ∀ i, i ≠ j → left' i = left i) (k : Nat) :
    mixF cs ls L left' m k = mixF cs ls L left m k + mixOne cs ls L j k := by
  induction m with
  | zero => omega
  | succ m ih =>
    simp only [mixF]
    by_cases e : j = m
    · subst e
      rw [mixF_congr (left := left') (left' := left) fun i hi _ => h i (by omega), if_pos ⟨hp, h2⟩, if_neg (by simp [h1])]
      omega
    · rw [ih (by omega), h m (by omega)]
      omega
theorem mixOne_bd {cs : List Int} {ls : List (List Int)} {L : Int} {j : Nat} (hc : 0 ≤ nth cs j) (hL : 0 ≤ L) (hx : Small (low (nthL ls j))) (ht : 1 ≤ lsum (low (nthL ls j))) (k : Nat) :
    0 ≤ mixOne cs ls L j k ∧ mixOne cs ls L j k ≤ nth cs j * L := by
  have h1 : 0 ≤ L / lsum (low (nthL ls j)) := Int.ediv_nonneg hL (by omega)
  have h2 := hx.pos k
  have h3 := nth_le_lsum hx.pos k
  unfold mixOne
  refine ⟨Int.mul_nonneg (Int.mul_nonneg hc h1) h2, ?_⟩
  rw [Int.mul_assoc]
  refine Int.mul_le_mul_of_nonneg_left ?_ hc
  have h4 := Int.mul_le_mul_of_nonneg_left h3 h1
  have h5 : L / lsum (low (nthL ls j)) * lsum (low (nthL ls j)) ≤ L := Int.ediv_mul_le _ (by omega)
  omega
theorem mixF_bd {cs : List Int} {ls : List (List Int)} {L : Int} {left : Nat → Bool} {m : Nat} (hc : Pos cs) (hL : 0 ≤ L) (hx : ∀ j, j < m → Small (low (nthL ls j)) ∧ 1 ≤ lsum (low (nthL ls j))) (hm : m ≤ cs.length) (k : Nat) :
    0 ≤ mixF cs ls L left m k ∧ mixF cs ls L left m k ≤ psum cs m * L := by
  induction m with
  | zero => simp [mixF, psum]
  | succ m ih =>
    have h1 := ih (fun j hj => hx j (by omega)) (by omega)
    have h2 := mixOne_bd (hc m) hL (hx m (by omega)).1 (hx m (by omega)).2 k
    have h3 : 0 ≤ nth cs m * L := Int.mul_nonneg (hc m) hL
    simp only [mixF]
    rw [psum_succ (by omega), Int.add_mul]
    split <;> omega
theorem mixF_ge {cs : List Int} {ls : List (List Int)} {L : Int} {left : Nat → Bool} {m j : Nat} (hc : Pos cs) (hL : 0 ≤ L) (hx : ∀ j, j < m → Small (low (nthL ls j)) ∧ 1 ≤ lsum (low (nthL ls j))) (hj : j < m) (hp : 0 < nth cs j) (hl : left j = false) (k : Nat) :
    mixOne cs ls L j k ≤ mixF cs ls L left m k := by
  induction m with
  | zero => omega
  | succ m ih =>
    have h2 := mixOne_bd (hc m) hL (hx m (by omega)).1 (hx m (by omega)).2 k
    simp only [mixF]
    by_cases e : j = m
    · subst e
      rw [if_pos ⟨hp, hl⟩]
      have : 0 ≤ mixF cs ls L left j k := by
        clear ih h2 hp hl
        induction j with
        | zero => simp [mixF]
        | succ j ih =>
          have h3 := mixOne_bd (hc j) hL (hx j (by omega)).1 (hx j (by omega)).2 k
          have := ih (fun i hi => hx i (by omega)) (by omega)
          simp only [mixF]
          split <;> omega
      omega
    · have := ih (fun i hi => hx i (by omega)) (by omega)
      split <;> omega
theorem exists_pos {xs : List Int} (h : 1 ≤ lsum xs) : ∃ k, k < xs.length ∧ 1 ≤ nth xs k := by
  induction xs with
  | nil => simp [lsum] at h
  | cons x r ih =>
    by_cases hx : 1 ≤ x
    · exact ⟨0, by simp, by simpa [nth] using hx⟩
    · rw [lsum_cons] at h
      obtain ⟨k, hk, h1⟩ := ih (by omega)
      exact ⟨k + 1, by simpa using hk, by simpa [nth] using h1⟩

/-- The weights of a mixture before they are brought to lowest terms. -/
def mixL (cs : List Int) (ls : List (List Int)) (n : Nat) : List Int := tab n fun k => mixF cs ls (lcmTo cs ls cs.length) (fun _ => false) cs.length k

theorem Chosen.below {w w' : World} {cs : List Int} {ls : List (List Int)} {D : DataW Value} {k B : Nat} (h : Chosen w cs ls D k) (hb : Below B w w') (hB : w.heap.size ≤ B) : Chosen w' cs ls D k :=
  ⟨h.isMap, h.no, fun j hj hp => let ⟨a, g, b, c⟩ := h.yes j hj hp; ⟨a, g, b, c.below hb hB⟩⟩
theorem set_grown (w : World) (g k : Nat) (v : Value) : w.grownBy (w.setCell ⟨g, k, none⟩ v) (some g) :=
  ⟨rfl, rfl, rfl, by simp, fun i _ hi => Below.heap_setCell _ _ _ _ (fun e => hi (by rw [e]))⟩

/-- What a mixture is good for. -/
theorem mix_facts {cs : List Int} {ls : List (List Int)} {n : Nat} (hc : Small cs) (hcs : 1 ≤ lsum cs) (hx : ∀ j, j < cs.length → Small (low (nthL ls j)) ∧ 1 ≤ lsum (low (nthL ls j)) ∧ (nthL ls j).length = n)
    (h : lsum cs * lcmTo cs ls cs.length ≤ 1000000000000000) : Small (mixL cs ls n) ∧ 1 ≤ lsum (mixL cs ls n) := by
  obtain ⟨L1, L2, _⟩ := lcmTo_facts (cs := cs) (ls := ls) (k := cs.length) fun j hj _ => (hx j hj).2.1
  have hbd := fun k => mixF_bd (cs := cs) (ls := ls) (L := lcmTo cs ls cs.length) (left := fun _ => false) (m := cs.length) hc.pos (by omega) (fun j hj => ⟨(hx j hj).1, (hx j hj).2.1⟩) (Nat.le_refl _) k
  rw [psum_all] at hbd
  have hp : Pos (mixL cs ls n) := fun k => by
    by_cases hk : k < n
    · unfold mixL; rw [nth_tab _ hk]; exact (hbd k).1
    · unfold mixL; rw [nth_out (by rw [tab_length]; exact hk)]; omega
  refine ⟨fun k hk => ?_, ?_⟩
  · unfold mixL at hk ⊢
    rw [tab_length] at hk
    rw [nth_tab _ hk]
    have := hbd k
    omega
  · obtain ⟨j, hj, hj1⟩ := exists_pos hcs
    obtain ⟨k, hk, hk1⟩ := exists_pos (hx j hj).2.1
    rw [low_length, (hx j hj).2.2] at hk
    have h1 := mixF_ge (cs := cs) (ls := ls) (L := lcmTo cs ls cs.length) (left := fun _ => false) (m := cs.length) hc.pos (by omega) (fun j hj => ⟨(hx j hj).1, (hx j hj).2.1⟩) hj (by omega) rfl k
    have ht := (hx j hj).2.1
    have hd := L2 j hj (by omega)
    have h2 : 1 ≤ lcmTo cs ls cs.length / lsum (low (nthL ls j)) := (Int.le_ediv_iff_mul_le (by omega)).2 (by rw [Int.one_mul]; exact Int.le_of_dvd (by omega) hd)
    have h3 : 1 ≤ mixOne cs ls (lcmTo cs ls cs.length) j k := by
      unfold mixOne
      have h4 := Int.mul_le_mul hj1 h2 (by omega) (by omega)
      have h5 := Int.mul_le_mul h4 hk1 (by omega) (by omega)
      simpa using h5
    have h6 := nth_le_lsum hp k
    rw [mixL, nth_tab _ hk] at h6
    unfold mixL
    omega
end Go.Proofs.Ytnpnnfbmnlgioaa
