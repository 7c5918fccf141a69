/-
  HexagramPalaces: the walk of the law.
-/
import Derived.Test.YtoeflgmdaaefeaaGreatDoorHxPq
import Derived.Test.YtoeflgmdaaefeaaGreatDoorHxCi
import Derived.Test.YtoeflgmdaaefeaaGreatDoorHxW
namespace Go.Proofs.YtoeflgmdaaefeaaGreatDoor
open Go Go.RowKit
set_option linter.unusedVariables false
set_option linter.unusedSimpArgs false

theorem reads_news {w : World} {q o : Nat} {xs : List Int} (h : Reads w (some ⟨q, o, none⟩) xs) : ∀ j u, (xs.map (Value.int .i64))[j]? = some u → w.cell? ((⟨q, o, none⟩ : Addr).add j) = some u := fun j u hj => by
  by_cases hlt : j < xs.length
  · obtain ⟨q', o', e, hc⟩ := h j hlt
    cases e
    rw [List.getElem?_map, List.getElem?_eq_getElem hlt] at hj
    cases hj
    rw [Go.WideShapes.add_plain, hc, nth_eq hlt]
  · rw [List.getElem?_map, List.getElem?_eq_none (by omega)] at hj
    cases hj
theorem reads_take {w : World} {q o : Nat} {xs : List Int} (h : Reads w (some ⟨q, o, none⟩) xs) (k : Nat) : Reads w (some ⟨q, o, none⟩) (xs.take k) := fun j hj => by
  rw [List.length_take] at hj
  obtain ⟨q', o', e, hc⟩ := h j (by omega)
  exact ⟨q', o', e, by rw [nth_take (by omega)]; exact hc⟩
theorem reads_drop {w : World} {q o : Nat} {xs : List Int} (h : Reads w (some ⟨q, o, none⟩) xs) (k : Nat) : Reads w (some ⟨q, o + k, none⟩) (xs.drop k) := fun j hj => by
  rw [List.length_drop] at hj
  obtain ⟨q', o', e, hc⟩ := h (k + j) (by omega)
  cases e
  exact ⟨q, o + k, rfl, by rw [nth_drop, Nat.add_assoc]; exact hc⟩
theorem off_getD (p : Nat) : (List.replicate 64 false).getD p false = false := by
  rw [List.getD_eq_getElem?_getD, List.getElem?_replicate]
  split <;> rfl
theorem set_getD {S : List Bool} {P p : Nat} (hP : P < S.length) (h : (S.set P true).getD p false = true) : p = P ∨ S.getD p false = true := by
  by_cases e : P = p
  · exact .inl e.symm
  · right
    rw [List.getD_eq_getElem?_getD, List.getElem?_set_ne e, ← List.getD_eq_getElem?_getD] at h
    exact h
theorem order_step {C Wh O : List Int} {k P : Nat} (hF : Full C Wh) (hk : k < 64) (hp : placeH Wh (k : Int) = (P : Int)) (hP : P < 64) (h : O.length = 64 ∧ ∀ x : Nat, x < k → nth O (placeH Wh x).toNat = x) : (O.set P (k : Int)).length = 64 ∧ ∀ x : Nat, x < k + 1 → nth (O.set P (k : Int)) (placeH Wh x).toNat = x := by
  refine ⟨by rw [List.length_set]; exact h.1, fun x hx => ?_⟩
  rw [nth_set (by rw [h.1]; exact hP)]
  by_cases e : x = k
  · subst e
    rw [hp, Int.toNat_natCast, if_pos rfl]
  · have hxx : Hex (x : Int) := ⟨by omega, by omega⟩
    have hkk : Hex (k : Int) := ⟨by omega, by omega⟩
    have b := hF.bd hxx
    rw [if_neg (fun he => e (by have := hF.inj hxx hkk (by omega); omega))]
    exact h.2 x (by omega)
theorem seen_step {Wh : List Int} {S : List Bool} {k P : Nat} (hp : placeH Wh (k : Int) = (P : Int)) (hP : P < 64) (h : S.length = 64 ∧ ∀ p, p < 64 → S.getD p false = true → ∃ x : Nat, x < k ∧ (placeH Wh x).toNat = p) : (S.set P true).length = 64 ∧ ∀ p, p < 64 → (S.set P true).getD p false = true → ∃ x : Nat, x < k + 1 ∧ (placeH Wh x).toNat = p := by
  refine ⟨by rw [List.length_set]; exact h.1, fun p hp2 hs => ?_⟩
  rcases set_getD (by rw [h.1]; exact hP) hs with rfl | h2
  · exact ⟨k, by omega, by rw [hp, Int.toNat_natCast]⟩
  · obtain ⟨x, hx, e⟩ := h.2 p hp2 h2
    exact ⟨x, by omega, e⟩
theorem came_blk {V : World} {g : Nat} {Z : List Int} (h : Blk V g 3 (arr Z)) (h64 : Z.length = 64) (hx : ∀ i, i < 64 → Hex (nth Z i)) : Came V (some ⟨g, 0, none⟩) Z 64 :=
  ⟨(fun e => by cases e), h.reads, fun k hk => by
    obtain ⟨a, b⟩ := hx k (by omega)
    omega⟩
theorem ints_one (xs : List Int) : ∀ u ∈ xs.map (Value.int .i64), u.oneCell' = true := fun u hu => by
  obtain ⟨x, _, rfl⟩ := List.mem_map.1 hu
  rfl

set_option maxRecDepth 100000 in
set_option maxHeartbeats 8000000 in
theorem palaces_law (hs : List Int) (hl8 : hs.length = 8) (hbs : ∀ k, k < 8 → 0 ≤ nth hs k ∧ nth hs k ≤ 255) (a b : Nat) (ha : a < 256) (hb256 : b < 256) (w : World) (hs0 : Src w) (hf0 : Fst w) (ht0 : Trn w) :
    Calls Tryz.prog 5 #[.agg (arr8 hs), .int .u8 a, .int .u8 b] w fun e w' => e = .returned (.bool true) ∧ Below w.heap.size w w' := by
  go_enter Tryz.func5, Tryz.ntmps5
  go_wp2_with fail
  have hBox : ∀ n, n < 8 → (w.alloc (.cells (arr8 hs) 36)).cell? ⟨w.heap.size, n, none⟩ = some (.int .u8 (nth hs n)) := fun n hn => by
    rw [(Blk.new w 36 (arr8 hs)).cell n, arr8_get (by omega)]
  have hbW0 : Below w.heap.size w (w.alloc (.cells (arr8 hs) 36)) := below1 _ _
  have hsW := hs0.below hbW0 (Nat.le_refl _)
  have hfW := hf0.below hbW0 (Nat.le_refl _)
  have htW := ht0.below hbW0 (Nat.le_refl _)
  generalize hW0 : w.alloc (.cells (arr8 hs) 36) = W0 at *
  go_cut [7, 8, 9] from 26 to 28 (fun s7 s8 s9 wx => ∃ gA gB gC : Nat, s7 = .slice (some ⟨gA, 0, none⟩) 64 64 ∧ s8 = .slice (some ⟨gB, 0, none⟩) 64 64 ∧ s9 = .pointer (some ⟨gC, 0, none⟩) ∧ Made W0 wx gA gB gC)
  case first =>
    as_aux_lemma =>
    refine wp_region_any p_own ?_
    change wpAny _ _ _ _ _ _ _ (World.drew _)
    refine wpAny_take (i := 2) (v := .agg offB) rfl (by kernel_rfl) (by kernel_rfl) (by kernel_rfl) (fun _ _ _ h => h) (Or.inl ⟨by rfl, fun w => by go_simp; rw [off_lit]⟩) ?_
    (try simp only [Act.put, List.setIfInBounds_toArray, List.set_cons_zero, List.set_cons_succ, List.getElem_toArray, List.getElem_cons_succ, List.getElem_cons_zero])
    refine wpAny_ready (rs := [0, 1, 3]) (by kernel_rfl) (by simp) ?_
    refine AllReady.cons rfl (fun K hK => ?_) (AllReady.cons rfl (fun K hK => ?_) (AllReady.cons rfl (fun K hK => ?_) (AllReady.nil)))
    · refine step_make64 rfl rfl (hK _ _ ?_)
      clear hK K
      (try simp only [Act.put, List.setIfInBounds_toArray, List.set_cons_zero, List.set_cons_succ, List.getElem_toArray, List.getElem_cons_succ, List.getElem_cons_zero])
      refine wpAny_ready (rs := [1, 3]) (by kernel_rfl) (by simp) ?_
      refine AllReady.cons rfl (fun K hK => ?_) (AllReady.cons rfl (fun K hK => ?_) (AllReady.nil))
      · refine step_make64 rfl rfl (hK _ _ ?_)
        clear hK K
        (try simp only [Act.put, List.setIfInBounds_toArray, List.set_cons_zero, List.set_cons_succ, List.getElem_toArray, List.getElem_cons_succ, List.getElem_cons_zero])
        refine wpAny_ready (rs := [3]) (by kernel_rfl) (by simp) ?_
        refine AllReady.cons rfl (fun K hK => ?_) (AllReady.nil)
        · refine step_alloc64 rfl rfl (hK _ _ ?_)
          clear hK K
          (try simp only [Act.put, List.setIfInBounds_toArray, List.set_cons_zero, List.set_cons_succ, List.getElem_toArray, List.getElem_cons_succ, List.getElem_cons_zero])
          refine wpAny_take (i := 4) (v := .slice (some ⟨W0.drew.heap.size, 0, none⟩) 64 64) rfl (by kernel_rfl) (by kernel_rfl) (by kernel_rfl) (fun _ _ _ h => h) (Or.inl ⟨by rfl, fun w => by go_simp⟩) ?_
          (try simp only [Act.put, List.setIfInBounds_toArray, List.set_cons_zero, List.set_cons_succ, List.getElem_toArray, List.getElem_cons_succ, List.getElem_cons_zero])
          refine wpAny_take (i := 5) (v := .slice (some ⟨(W0.drew.alloc oI).heap.size, 0, none⟩) 64 64) rfl (by kernel_rfl) (by kernel_rfl) (by kernel_rfl) (fun _ _ _ h => h) (Or.inl ⟨by rfl, fun w => by go_simp⟩) ?_
          (try simp only [Act.put, List.setIfInBounds_toArray, List.set_cons_zero, List.set_cons_succ, List.getElem_toArray, List.getElem_cons_succ, List.getElem_cons_zero])
          have HM := made_ABC W0
          refine wpAny_ready (rs := [6]) (by kernel_rfl) (by simp) ?_
          refine AllReady.cons rfl (fun K hK => ?_) AllReady.nil
          refine Eq.mpr (if_pos (by rfl)) ?_
          refine wp_store_row 37 (.tmp 9) (.tmp 28) rfl (((W0.drew.alloc oI).alloc oI).heap.size) offB rfl rfl 37 _ HM.2.2.2.2.2.2.2.2.1 info_64b rfl (arrB_one _) (hK _ _ ?_)
          clear hK K
          refine wpAny_done (by kernel_rfl) ?_ _
          have HM2 := HM.row
          clear HM
          go_wp2_with fail
          go_meet
          exact ⟨_, _, _, rfl, rfl, rfl, HM2⟩
      · refine step_alloc64 rfl rfl (hK _ _ ?_)
        clear hK K
        (try simp only [Act.put, List.setIfInBounds_toArray, List.set_cons_zero, List.set_cons_succ, List.getElem_toArray, List.getElem_cons_succ, List.getElem_cons_zero])
        refine wpAny_take (i := 4) (v := .slice (some ⟨W0.drew.heap.size, 0, none⟩) 64 64) rfl (by kernel_rfl) (by kernel_rfl) (by kernel_rfl) (fun _ _ _ h => h) (Or.inl ⟨by rfl, fun w => by go_simp⟩) ?_
        (try simp only [Act.put, List.setIfInBounds_toArray, List.set_cons_zero, List.set_cons_succ, List.getElem_toArray, List.getElem_cons_succ, List.getElem_cons_zero])
        refine wpAny_ready (rs := [1]) (by kernel_rfl) (by simp) ?_
        refine AllReady.cons rfl (fun K hK => ?_) (AllReady.nil)
        · refine step_make64 rfl rfl (hK _ _ ?_)
          clear hK K
          (try simp only [Act.put, List.setIfInBounds_toArray, List.set_cons_zero, List.set_cons_succ, List.getElem_toArray, List.getElem_cons_succ, List.getElem_cons_zero])
          refine wpAny_take (i := 5) (v := .slice (some ⟨((W0.drew.alloc oI).alloc oB).heap.size, 0, none⟩) 64 64) rfl (by kernel_rfl) (by kernel_rfl) (by kernel_rfl) (fun _ _ _ h => h) (Or.inl ⟨by rfl, fun w => by go_simp⟩) ?_
          (try simp only [Act.put, List.setIfInBounds_toArray, List.set_cons_zero, List.set_cons_succ, List.getElem_toArray, List.getElem_cons_succ, List.getElem_cons_zero])
          have HM := made_ACB W0
          refine wpAny_ready (rs := [6]) (by kernel_rfl) (by simp) ?_
          refine AllReady.cons rfl (fun K hK => ?_) AllReady.nil
          refine Eq.mpr (if_pos (by rfl)) ?_
          refine wp_store_row 37 (.tmp 9) (.tmp 28) rfl ((W0.drew.alloc oI).heap.size) offB rfl rfl 37 _ HM.2.2.2.2.2.2.2.2.1 info_64b rfl (arrB_one _) (hK _ _ ?_)
          clear hK K
          refine wpAny_done (by kernel_rfl) ?_ _
          have HM2 := HM.row
          clear HM
          go_wp2_with fail
          go_meet
          exact ⟨_, _, _, rfl, rfl, rfl, HM2⟩
    · refine step_make64 rfl rfl (hK _ _ ?_)
      clear hK K
      (try simp only [Act.put, List.setIfInBounds_toArray, List.set_cons_zero, List.set_cons_succ, List.getElem_toArray, List.getElem_cons_succ, List.getElem_cons_zero])
      refine wpAny_ready (rs := [0, 3]) (by kernel_rfl) (by simp) ?_
      refine AllReady.cons rfl (fun K hK => ?_) (AllReady.cons rfl (fun K hK => ?_) (AllReady.nil))
      · refine step_make64 rfl rfl (hK _ _ ?_)
        clear hK K
        (try simp only [Act.put, List.setIfInBounds_toArray, List.set_cons_zero, List.set_cons_succ, List.getElem_toArray, List.getElem_cons_succ, List.getElem_cons_zero])
        refine wpAny_ready (rs := [3]) (by kernel_rfl) (by simp) ?_
        refine AllReady.cons rfl (fun K hK => ?_) (AllReady.nil)
        · refine step_alloc64 rfl rfl (hK _ _ ?_)
          clear hK K
          (try simp only [Act.put, List.setIfInBounds_toArray, List.set_cons_zero, List.set_cons_succ, List.getElem_toArray, List.getElem_cons_succ, List.getElem_cons_zero])
          refine wpAny_take (i := 4) (v := .slice (some ⟨(W0.drew.alloc oI).heap.size, 0, none⟩) 64 64) rfl (by kernel_rfl) (by kernel_rfl) (by kernel_rfl) (fun _ _ _ h => h) (Or.inl ⟨by rfl, fun w => by go_simp⟩) ?_
          (try simp only [Act.put, List.setIfInBounds_toArray, List.set_cons_zero, List.set_cons_succ, List.getElem_toArray, List.getElem_cons_succ, List.getElem_cons_zero])
          refine wpAny_take (i := 5) (v := .slice (some ⟨W0.drew.heap.size, 0, none⟩) 64 64) rfl (by kernel_rfl) (by kernel_rfl) (by kernel_rfl) (fun _ _ _ h => h) (Or.inl ⟨by rfl, fun w => by go_simp⟩) ?_
          (try simp only [Act.put, List.setIfInBounds_toArray, List.set_cons_zero, List.set_cons_succ, List.getElem_toArray, List.getElem_cons_succ, List.getElem_cons_zero])
          have HM := made_BAC W0
          refine wpAny_ready (rs := [6]) (by kernel_rfl) (by simp) ?_
          refine AllReady.cons rfl (fun K hK => ?_) AllReady.nil
          refine Eq.mpr (if_pos (by rfl)) ?_
          refine wp_store_row 37 (.tmp 9) (.tmp 28) rfl (((W0.drew.alloc oI).alloc oI).heap.size) offB rfl rfl 37 _ HM.2.2.2.2.2.2.2.2.1 info_64b rfl (arrB_one _) (hK _ _ ?_)
          clear hK K
          refine wpAny_done (by kernel_rfl) ?_ _
          have HM2 := HM.row
          clear HM
          go_wp2_with fail
          go_meet
          exact ⟨_, _, _, rfl, rfl, rfl, HM2⟩
      · refine step_alloc64 rfl rfl (hK _ _ ?_)
        clear hK K
        (try simp only [Act.put, List.setIfInBounds_toArray, List.set_cons_zero, List.set_cons_succ, List.getElem_toArray, List.getElem_cons_succ, List.getElem_cons_zero])
        refine wpAny_ready (rs := [0]) (by kernel_rfl) (by simp) ?_
        refine AllReady.cons rfl (fun K hK => ?_) (AllReady.nil)
        · refine step_make64 rfl rfl (hK _ _ ?_)
          clear hK K
          (try simp only [Act.put, List.setIfInBounds_toArray, List.set_cons_zero, List.set_cons_succ, List.getElem_toArray, List.getElem_cons_succ, List.getElem_cons_zero])
          refine wpAny_take (i := 4) (v := .slice (some ⟨((W0.drew.alloc oI).alloc oB).heap.size, 0, none⟩) 64 64) rfl (by kernel_rfl) (by kernel_rfl) (by kernel_rfl) (fun _ _ _ h => h) (Or.inl ⟨by rfl, fun w => by go_simp⟩) ?_
          (try simp only [Act.put, List.setIfInBounds_toArray, List.set_cons_zero, List.set_cons_succ, List.getElem_toArray, List.getElem_cons_succ, List.getElem_cons_zero])
          refine wpAny_take (i := 5) (v := .slice (some ⟨W0.drew.heap.size, 0, none⟩) 64 64) rfl (by kernel_rfl) (by kernel_rfl) (by kernel_rfl) (fun _ _ _ h => h) (Or.inl ⟨by rfl, fun w => by go_simp⟩) ?_
          (try simp only [Act.put, List.setIfInBounds_toArray, List.set_cons_zero, List.set_cons_succ, List.getElem_toArray, List.getElem_cons_succ, List.getElem_cons_zero])
          have HM := made_BCA W0
          refine wpAny_ready (rs := [6]) (by kernel_rfl) (by simp) ?_
          refine AllReady.cons rfl (fun K hK => ?_) AllReady.nil
          refine Eq.mpr (if_pos (by rfl)) ?_
          refine wp_store_row 37 (.tmp 9) (.tmp 28) rfl ((W0.drew.alloc oI).heap.size) offB rfl rfl 37 _ HM.2.2.2.2.2.2.2.2.1 info_64b rfl (arrB_one _) (hK _ _ ?_)
          clear hK K
          refine wpAny_done (by kernel_rfl) ?_ _
          have HM2 := HM.row
          clear HM
          go_wp2_with fail
          go_meet
          exact ⟨_, _, _, rfl, rfl, rfl, HM2⟩
    · refine step_alloc64 rfl rfl (hK _ _ ?_)
      clear hK K
      (try simp only [Act.put, List.setIfInBounds_toArray, List.set_cons_zero, List.set_cons_succ, List.getElem_toArray, List.getElem_cons_succ, List.getElem_cons_zero])
      refine wpAny_ready (rs := [0, 1]) (by kernel_rfl) (by simp) ?_
      refine AllReady.cons rfl (fun K hK => ?_) (AllReady.cons rfl (fun K hK => ?_) (AllReady.nil))
      · refine step_make64 rfl rfl (hK _ _ ?_)
        clear hK K
        (try simp only [Act.put, List.setIfInBounds_toArray, List.set_cons_zero, List.set_cons_succ, List.getElem_toArray, List.getElem_cons_succ, List.getElem_cons_zero])
        refine wpAny_take (i := 4) (v := .slice (some ⟨(W0.drew.alloc oB).heap.size, 0, none⟩) 64 64) rfl (by kernel_rfl) (by kernel_rfl) (by kernel_rfl) (fun _ _ _ h => h) (Or.inl ⟨by rfl, fun w => by go_simp⟩) ?_
        (try simp only [Act.put, List.setIfInBounds_toArray, List.set_cons_zero, List.set_cons_succ, List.getElem_toArray, List.getElem_cons_succ, List.getElem_cons_zero])
        refine wpAny_ready (rs := [1]) (by kernel_rfl) (by simp) ?_
        refine AllReady.cons rfl (fun K hK => ?_) (AllReady.nil)
        · refine step_make64 rfl rfl (hK _ _ ?_)
          clear hK K
          (try simp only [Act.put, List.setIfInBounds_toArray, List.set_cons_zero, List.set_cons_succ, List.getElem_toArray, List.getElem_cons_succ, List.getElem_cons_zero])
          refine wpAny_take (i := 5) (v := .slice (some ⟨((W0.drew.alloc oB).alloc oI).heap.size, 0, none⟩) 64 64) rfl (by kernel_rfl) (by kernel_rfl) (by kernel_rfl) (fun _ _ _ h => h) (Or.inl ⟨by rfl, fun w => by go_simp⟩) ?_
          (try simp only [Act.put, List.setIfInBounds_toArray, List.set_cons_zero, List.set_cons_succ, List.getElem_toArray, List.getElem_cons_succ, List.getElem_cons_zero])
          have HM := made_CAB W0
          refine wpAny_ready (rs := [6]) (by kernel_rfl) (by simp) ?_
          refine AllReady.cons rfl (fun K hK => ?_) AllReady.nil
          refine Eq.mpr (if_pos (by rfl)) ?_
          refine wp_store_row 37 (.tmp 9) (.tmp 28) rfl (W0.drew.heap.size) offB rfl rfl 37 _ HM.2.2.2.2.2.2.2.2.1 info_64b rfl (arrB_one _) (hK _ _ ?_)
          clear hK K
          refine wpAny_done (by kernel_rfl) ?_ _
          have HM2 := HM.row
          clear HM
          go_wp2_with fail
          go_meet
          exact ⟨_, _, _, rfl, rfl, rfl, HM2⟩
      · refine step_make64 rfl rfl (hK _ _ ?_)
        clear hK K
        (try simp only [Act.put, List.setIfInBounds_toArray, List.set_cons_zero, List.set_cons_succ, List.getElem_toArray, List.getElem_cons_succ, List.getElem_cons_zero])
        refine wpAny_ready (rs := [0]) (by kernel_rfl) (by simp) ?_
        refine AllReady.cons rfl (fun K hK => ?_) (AllReady.nil)
        · refine step_make64 rfl rfl (hK _ _ ?_)
          clear hK K
          (try simp only [Act.put, List.setIfInBounds_toArray, List.set_cons_zero, List.set_cons_succ, List.getElem_toArray, List.getElem_cons_succ, List.getElem_cons_zero])
          refine wpAny_take (i := 4) (v := .slice (some ⟨((W0.drew.alloc oB).alloc oI).heap.size, 0, none⟩) 64 64) rfl (by kernel_rfl) (by kernel_rfl) (by kernel_rfl) (fun _ _ _ h => h) (Or.inl ⟨by rfl, fun w => by go_simp⟩) ?_
          (try simp only [Act.put, List.setIfInBounds_toArray, List.set_cons_zero, List.set_cons_succ, List.getElem_toArray, List.getElem_cons_succ, List.getElem_cons_zero])
          refine wpAny_take (i := 5) (v := .slice (some ⟨(W0.drew.alloc oB).heap.size, 0, none⟩) 64 64) rfl (by kernel_rfl) (by kernel_rfl) (by kernel_rfl) (fun _ _ _ h => h) (Or.inl ⟨by rfl, fun w => by go_simp⟩) ?_
          (try simp only [Act.put, List.setIfInBounds_toArray, List.set_cons_zero, List.set_cons_succ, List.getElem_toArray, List.getElem_cons_succ, List.getElem_cons_zero])
          have HM := made_CBA W0
          refine wpAny_ready (rs := [6]) (by kernel_rfl) (by simp) ?_
          refine AllReady.cons rfl (fun K hK => ?_) AllReady.nil
          refine Eq.mpr (if_pos (by rfl)) ?_
          refine wp_store_row 37 (.tmp 9) (.tmp 28) rfl (W0.drew.heap.size) offB rfl rfl 37 _ HM.2.2.2.2.2.2.2.2.1 info_64b rfl (arrB_one _) (hK _ _ ?_)
          clear hK K
          refine wpAny_done (by kernel_rfl) ?_ _
          have HM2 := HM.row
          clear HM
          go_wp2_with fail
          go_meet
          exact ⟨_, _, _, rfl, rfl, rfl, HM2⟩
  case rest =>
    obtain ⟨gA, gB, gC, rfl, rfl, rfl, HM⟩ := hcut
    obtain ⟨wX, hwX⟩ : ∃ x : World, wc = x := ⟨_, rfl⟩
    rw [hwX] at HM ⊢
    clear hwX
    obtain ⟨nAB, nAC, nBC, bA, bB, bC, kA, kB, kC, hbX⟩ := HM
    go_upto_region 2 with fail
    go_cut [10] from 29 to 29 (fun s10 wx => ∃ gD : Nat, s10 = .pointer (some ⟨gD, 0, none⟩) ∧ gD = wX.heap.size ∧ Blk wx gD 38 (arr zero64) ∧ Below wX.heap.size wX wx)
    case first =>
      as_aux_lemma =>
      have N0 := Lib.hid (Blk.new wX 38 (arr (List.replicate 64 0)))
      go_wp2_with (first
        | (refine wpList_store_row rfl 38 (.tmp 10) (.tmp 29) rfl wX.heap.size (arr (List.replicate 64 0)) rfl rfl 38 _ N0.out info_64i rfl (arr_one _) ?_) | fail)
      generalize hW : World.setRow _ _ _ = W
      have N1 : Hid (Blk W wX.heap.size 38 (arr zero64)) := by rw [← hW]; exact Blk.row N0.out (arr zero64)
      have N2 : Below wX.heap.size wX W := by rw [← hW]; exact below_setRow (below1 _ _) (Nat.le_refl _) _
      clear hW N0
      go_meet
      exact ⟨_, rfl, rfl, N1.out, N2⟩
    case rest =>
      obtain ⟨gD, rfl, hgD, kD, hbD⟩ := hcut
      obtain ⟨wY, hwY⟩ : ∃ x : World, wc = x := ⟨_, rfl⟩
      rw [hwY] at kD hbD ⊢
      clear hwY
      have hsY := kD.lt
      have HGD := Lib.hid hgD
      have hsY2 : wX.heap.size < wY.heap.size := by omega
      clear hgD
      have hr0 : Reads (wY.alloc (.cells (arr heads8) 3)) (some ⟨wY.heap.size, 0, none⟩) heads8 := reads_new _ _ _
      have kD0 := Lib.hid (kD.alloc (.cells (arr heads8) 3))
      have hb0 := hbD.trans (below1 wY (.cells (arr heads8) 3) |>.mono (by omega))
      clear kD
      go_wp2_with fail
      go_loopw [11, 12] (fun left i wr => ∃ n : Nat, n ≤ 8 ∧ i = .int .i64 n ∧ (∃ q c m, left = .slice q m c ∧ m + n = 8 ∧ m ≤ c ∧ c ≤ 9223372036854775807 ∧ (∀ g o, q = some ⟨g, o, none⟩ → wX.heap.size < g) ∧ ∃ C L Wh, Hid (Taken C L Wh) ∧ Hid (C.length = n) ∧ Hid (L.length = m) ∧ Reads wr q L ∧ Hid (Blk wr gD 38 (arr Wh))) ∧ Below wX.heap.size wX wr) (fun _ i _ => 8 - (intOf i).toNat)
      case atStart => exact ⟨0, by omega, rfl, ⟨_, 8, 8, rfl, by omega, by omega, by omega, fun g o e => by cases e; omega, [], heads8, zero64, Lib.hid Taken.start, Lib.hid rfl, Lib.hid rfl, hr0, kD0⟩, hb0⟩
      case round =>
        obtain ⟨n, hn, rfl, ⟨q, c, m, rfl, hmn, hmc, hcm, hqg, C, L, Wh, HT, HC, HL, hR, HB⟩, hb⟩ := hrel
        by_cases hlt : n < 8
        · have hki : (n : Int) < 8 := by omega
          obtain ⟨h, hh⟩ : ∃ h, nth hs n = h := ⟨_, rfl⟩
          have hcell := cell_tr hb (cell_tr hbX (hBox n hlt))
          have hbd := hbs n hlt
          rw [hh] at hcell hbd
          obtain ⟨k, hk⟩ : ∃ k : Nat, h % (m : Int) = k := ⟨(h % (m : Int)).toNat, by have := Int.emod_nonneg h (show (m : Int) ≠ 0 by omega); omega⟩
          have hkm : k < m := by have := Int.emod_lt_of_pos h (show 0 < (m : Int) by omega); omega
          have e1 : h.tmod (m : Int) = (k : Int) := by rw [Int.tmod_eq_emod_of_nonneg hbd.1]; exact hk
          obtain ⟨g, o, rfl, hck⟩ := hR k (by have := HL.out; omega)
          have hgq := hqg g o rfl
          obtain ⟨t, ht⟩ := HT.out.head (List.mem_append_right C (nth_mem (xs := L) (k := k) (by have := HL.out; omega)))
          obtain ⟨ci, hci⟩ : ∃ ci : Nat, nth L k = (ci : Int) := ⟨9 * t.val, by rw [ht]; omega⟩
          have hc64 : ci < 64 := by omega
          have hc64i : (ci : Int) < 64 := by omega
          have HT' := Lib.hid (HT.out.step (k := k) (by have := HL.out; omega))
          rw [hci] at hck
          have hcw := HB.out.cell ci
          rw [arr_get (by rw [HT.out.len]; exact hc64)] at hcw
          have hfw := HB.out.frozen ci
          have HB' := Lib.hid (show Blk (wr.setCell ⟨gD, ci, none⟩ (.int .i64 n)) gD 38 (arr (Wh.set ci (n : Int))) from by
            have := HB.out.set_ ci (.int .i64 (n : Int))
            rwa [arr_set] at this)
          have hb' := hb.setCell (p := ⟨gD, ci, none⟩) (show wX.heap.size ≤ gD by have := HGD.out; omega) (.int .i64 (n : Int))
          have hR' : Reads (wr.setCell ⟨gD, ci, none⟩ (.int .i64 n)) (some ⟨g, o, none⟩) L := fun j hj => by
            obtain ⟨g2, o2, e2, h2⟩ := hR j hj
            cases e2
            exact ⟨g, o, rfl, (World.cell?_of_block (Below.heap_setCell wr ⟨gD, ci, none⟩ (.int .i64 (n : Int)) g (by have := HGD.out; simp; omega))).trans h2⟩
          rw [hci, Int.toNat_natCast, HC.out] at HT'
          obtain ⟨z, hz⟩ : ∃ z, nth Wh ci = z := ⟨_, rfl⟩
          rw [hz] at hcw
          have hm0 : ¬ (m : Int) = 0 := by omega
          clear hz hh ht hci HB HT
          go_upto_region 9 with fail
          generalize hV : wr.setCell ⟨gD, ci, none⟩ (.int .i64 n) = V at HB' hb' hR' ⊢
          clear hV
          have ek : IntKind.i64.wrap ((k : Int) + 1) = (k : Int) + 1 := IntWalk.i64_in _ (by omega)
          obtain ⟨od, hod'⟩ : ∃ od, (if c = k + 1 then some (⟨g, o, none⟩ : Addr) else some (⟨g, o + (k + 1), none⟩ : Addr)) = some ⟨g, od, none⟩ ∧ (m - (k + 1) = 0 ∨ od = o + (k + 1)) := by
            by_cases hkc : c = k + 1
            · exact ⟨o, by rw [if_pos hkc], .inl (by omega)⟩
            · exact ⟨o + (k + 1), by rw [if_neg hkc], .inr rfl⟩
          have hod := Lib.hid hod'
          clear hod'
          obtain ⟨i0, hi, hz0, hz1, hz2⟩ := info_parts info_int
          refine wp_region_any p_own ?_
          change wpAny _ _ _ _ _ _ _ (World.drew _)
          refine wpAny_take (i := 1) (v := .slice (some ⟨g, o, none⟩) m c) rfl (by kernel_rfl) (by kernel_rfl) (by kernel_rfl) (fun _ _ _ h => h) (Or.inl ⟨by rfl, fun w => by go_simp⟩) ?_
          (try simp only [Act.put, List.setIfInBounds_toArray, List.set_cons_zero, List.set_cons_succ, List.getElem_toArray, List.getElem_cons_succ, List.getElem_cons_zero])
          refine wpAny_take (i := 2) (v := .int .i64 k) rfl (by kernel_rfl) (by kernel_rfl) (by kernel_rfl) (fun _ _ _ h => h) (Or.inl ⟨by rfl, fun w => by go_simp⟩) ?_
          (try simp only [Act.put, List.setIfInBounds_toArray, List.set_cons_zero, List.set_cons_succ, List.getElem_toArray, List.getElem_cons_succ, List.getElem_cons_zero])
          refine wpAny_take (i := 3) (v := .slice (some ⟨g, o, none⟩) k c) rfl (by kernel_rfl) (by kernel_rfl) (by kernel_rfl) (fun _ _ _ h => h) (Or.inl ⟨by rfl, fun w => by go_simp; intro hx; omega⟩) ?_
          (try simp only [Act.put, List.setIfInBounds_toArray, List.set_cons_zero, List.set_cons_succ, List.getElem_toArray, List.getElem_cons_succ, List.getElem_cons_zero])
          refine wpAny_take (i := 5) (v := .slice (some ⟨g, o, none⟩) m c) rfl (by kernel_rfl) (by kernel_rfl) (by kernel_rfl) (fun _ _ _ h => h) (Or.inl ⟨by rfl, fun w => by go_simp⟩) ?_
          (try simp only [Act.put, List.setIfInBounds_toArray, List.set_cons_zero, List.set_cons_succ, List.getElem_toArray, List.getElem_cons_succ, List.getElem_cons_zero])
          refine wpAny_take (i := 6) (v := .int .i64 k) rfl (by kernel_rfl) (by kernel_rfl) (by kernel_rfl) (fun _ _ _ h => h) (Or.inl ⟨by rfl, fun w => by go_simp⟩) ?_
          (try simp only [Act.put, List.setIfInBounds_toArray, List.set_cons_zero, List.set_cons_succ, List.getElem_toArray, List.getElem_cons_succ, List.getElem_cons_zero])
          refine wpAny_take (i := 7) (v := .int .i64 ((k : Int) + 1)) rfl (by kernel_rfl) (by kernel_rfl) (by kernel_rfl) (fun _ _ _ h => h) (Or.inl ⟨by rfl, fun w => by go_simp⟩) ?_
          (try simp only [Act.put, List.setIfInBounds_toArray, List.set_cons_zero, List.set_cons_succ, List.getElem_toArray, List.getElem_cons_succ, List.getElem_cons_zero])
          refine wpAny_take (i := 8) (v := .slice (some ⟨g, od, none⟩) (m - (k + 1)) (c - (k + 1))) rfl (by kernel_rfl) (by kernel_rfl) (by kernel_rfl) (fun _ _ _ h => h) (Or.inl ⟨by rfl, fun w => by go_simp; rw [if_pos ⟨by omega, by omega⟩, hod.out.1]⟩) ?_
          (try simp only [Act.put, List.setIfInBounds_toArray, List.set_cons_zero, List.set_cons_succ, List.getElem_toArray, List.getElem_cons_succ, List.getElem_cons_zero])
          refine wpAny_ready (rs := [0]) (by kernel_rfl) (by simp) ?_
          refine AllReady.cons rfl (fun K hK => ?_) AllReady.nil
          go_simp
          refine hK _ _ ?_
          clear hK K
          (try simp only [Act.put, List.setIfInBounds_toArray, List.set_cons_zero, List.set_cons_succ, List.getElem_toArray, List.getElem_cons_succ, List.getElem_cons_zero])
          have hR1 := hR'.below ((below1 V (.cells #[] 3))) (Nat.le_refl _)
          have hN := none_ownsI V
          refine wpAny_ready (rs := [4]) (by kernel_rfl) (by simp) ?_
          refine AllReady.cons rfl (fun K hK => ?_) AllReady.nil
          refine Eq.mpr (if_pos (by rfl)) ?_
          refine wp_append_own _ _ _ 22 rfl V.heap.size 3 i0 (.int .i64 0) 1 8 Tryz.underlying22 hi hz0 hz1 hz2 rfl (by decide) (.slice (some ⟨V.heap.size, 0, none⟩) 0 0) 0 [] rfl hN ⟨g, o, none⟩ k c ((L.take k).map (Value.int .i64)) rfl (by have := HL.out; simp; omega) (reads_news (reads_take hR1 k)) (ints_one _) (by unfold maxLen; omega) (by omega) (by simp) (fun v1 w1 o1 g1 _ => hK _ _ ?_)
          clear hK K
          (try simp only [Act.put, List.setIfInBounds_toArray, List.set_cons_zero, List.set_cons_succ, List.getElem_toArray, List.getElem_cons_succ, List.getElem_cons_zero])
          have hgV : g < V.heap.size := by
            obtain ⟨g2, o2, e2, h2⟩ := hR' k (by have := HL.out; omega)
            cases e2
            simpa using World.block_lt_of_cell? V _ h2
          have hR2 : Reads w1 (some ⟨g, o, none⟩) L := fun j hj => by
            obtain ⟨g2, o2, e2, h2⟩ := hR1 j hj
            cases e2
            exact ⟨g, o, rfl, g1.cell h2 (by simp [Value.ownBlock]; omega)⟩
          have hdl : (L.drop (k + 1)).length = m - (k + 1) := by rw [List.length_drop, HL.out]
          have hnews : ∀ j u, ((L.drop (k + 1)).map (Value.int .i64))[j]? = some u → w1.cell? ((⟨g, od, none⟩ : Addr).add j) = some u := by
            rcases hod.out.2 with h0 | h0
            · intro j u hj
              rw [List.getElem?_eq_none (by rw [List.length_map, hdl]; omega)] at hj
              cases hj
            · rw [h0]
              exact reads_news (reads_drop hR2 (k + 1))
          refine wpAny_ready (rs := [9]) (by kernel_rfl) (by simp) ?_
          refine AllReady.cons rfl (fun K hK => ?_) AllReady.nil
          refine Eq.mpr (if_pos (by rfl)) ?_
          refine wp_append_own _ _ _ 22 rfl V.heap.size 3 i0 (.int .i64 0) 1 8 Tryz.underlying22 hi hz0 hz1 hz2 rfl (by decide) v1 (0 + k) _ rfl o1 ⟨g, od, none⟩ (m - (k + 1)) (c - (k + 1)) ((L.drop (k + 1)).map (Value.int .i64)) rfl (by rw [List.length_map, hdl]; omega) hnews (ints_one _) (by unfold maxLen; omega) (by omega) (by have := g1.size; simp at this; omega) (fun v2 w2 o2 g2 _ => hK _ _ ?_)
          clear hK K
          (try simp only [Act.put, List.setIfInBounds_toArray, List.set_cons_zero, List.set_cons_succ, List.getElem_toArray, List.getElem_cons_succ, List.getElem_cons_zero])
          refine wpAny_take (i := 10) (v := v2) rfl (by kernel_rfl) (by kernel_rfl) (by kernel_rfl) (fun _ _ _ h => h) (Or.inl ⟨by rfl, fun w => by go_simp⟩) ?_
          (try simp only [Act.put, List.setIfInBounds_toArray, List.set_cons_zero, List.set_cons_succ, List.getElem_toArray, List.getElem_cons_succ, List.getElem_cons_zero])
          refine wpAny_done (by kernel_rfl) ?_ _
          have o3 : w2.ownsRow V.heap.size 3 1 v2 (0 + k + (m - (k + 1))) ((L.take k ++ L.drop (k + 1)).map (Value.int .i64)) := by rw [List.map_append]; simpa using o2
          have hvc := owns_cap o3
          have hvb := owns_base o3
          have hv1 := owns_base o1
          obtain ⟨q2, c2, rfl, hr2⟩ := Got.of_owns o3
          obtain ⟨hc1, hc2⟩ := hvc _ _ _ rfl
          have hln : (L.take k ++ L.drop (k + 1)).length = m - 1 := by rw [List.length_append, List.length_take, hdl, HL.out]; omega
          have hbb : Below V.heap.size V w2 := (((Below.refl _ V).alloc (Nat.le_refl _) (.cells #[] 3)).drew.grown g1 (by simp) (owns_base hN)).grown g2 (by have := g1.size; simp at this; omega) hv1
          have HB2 := Lib.hid (HB'.out.below hbb HB'.out.lt)
          have hb2 := tr hb' hbb
          have hqq : ∀ g o, q2 = some ⟨g, o, none⟩ → wX.heap.size < g := fun g5 o5 e5 => by
            have := hvb g5 (by rw [e5]; rfl)
            omega
          have HL2 := Lib.hid hln
          have HC2 := Lib.hid (show (C ++ [(ci : Int)]).length = n + 1 by rw [List.length_append, HC.out]; rfl)
          rw [hln]
          clear hln hvc hvb hv1 o1 o2 o3 hN hnews hdl hR1 hR2 hod g1 g2 hbb hb' HB' hR' ek
          go_wp2
          go_roundw
          case rel => exact ⟨n + 1, by omega, by go_num, ⟨q2, c2, m - 1, rfl, by omega, by omega, hc2, hqq, _, _, _, HT', HC2, HL2, hr2, HB2⟩, hb2⟩
          case measure => simp [intOf]; omega
        · obtain rfl : n = 8 := by omega
          obtain rfl : m = 0 := by omega
          have HF := Lib.hid (HT.out.full HL.out)
          have hWl := HT.out.len
          obtain ⟨wL, hwL⟩ : ∃ x : World, wr = x := ⟨_, rfl⟩
          rw [hwL] at HB hb ⊢
          have zA := Lib.hid (kA.below hb kA.lt)
          have zB := Lib.hid (show Blk wL gB 3 (arr (fillTo (fun j => (j : Int)) 64 0)) by rw [fillTo_zero]; exact kB.below hb kB.lt)
          have zC := Lib.hid (kC.below hb kC.lt)
          have hbL := hbX.trans (hb.mono hbX.size)
          have hsz := hb.size
          have bD : W0.heap.size ≤ gD := by have := HGD.out; have := hbX.size; omega
          have nAD : gA ≠ gD := by have := HGD.out; have := kA.lt; omega
          have nBD : gB ≠ gD := by have := HGD.out; have := kB.lt; omega
          have nCD : gC ≠ gD := by have := HGD.out; have := kC.lt; omega
          clear hwL HT HC HL hR hqg hb kA kB kC
          go_wp2_with fail
          go_loopw [14] (fun i wr => ∃ k : Nat, k ≤ 64 ∧ i = .int .i64 k ∧ Hid (Blk wr gB 3 (arr (fillTo (fun j => (j : Int)) 64 k))) ∧ (∃ O : List Int, Hid (O.length = 64 ∧ ∀ x : Nat, x < k → nth O (placeH Wh x).toNat = x) ∧ Hid (Blk wr gA 3 (arr O))) ∧ (∃ S : List Bool, Hid (S.length = 64 ∧ ∀ p, p < 64 → S.getD p false = true → ∃ x : Nat, x < k ∧ (placeH Wh x).toNat = p) ∧ Hid (Blk wr gC 37 (arrB S))) ∧ Hid (Blk wr gD 38 (arr Wh)) ∧ Below W0.heap.size W0 wr) (fun i _ => 64 - (intOf i).toNat)
          case atStart => exact ⟨0, by omega, rfl, zB, ⟨zero64, Lib.hid ⟨rfl, fun x hx => by omega⟩, zA⟩, ⟨List.replicate 64 false, Lib.hid ⟨by simp, fun p hp h => by rw [off_getD] at h; cases h⟩, zC⟩, HB, hbL⟩
          case round =>
            obtain ⟨k, hk, rfl, kB, ⟨O, HO, kA⟩, ⟨S, HS, kC⟩, kD, hb⟩ := hrel
            by_cases hlt2 : k < 64
            · have hki : (k : Int) < 64 := by omega
              have hx : Hex (k : Int) := ⟨by omega, by omega⟩
              obtain ⟨j, hj8, hCj, hWj, hpl, s0, s7⟩ := HF.out.place hx
              obtain ⟨t, ht⟩ := (pal_back hx).2.1
              obtain ⟨s, hs⟩ := Int.eq_ofNat_of_zero_le s0
              obtain ⟨H, hH⟩ : ∃ H : Nat, palH (k : Int) = (H : Int) := ⟨9 * t.val, by rw [ht]; omega⟩
              have hH64 : H < 64 := by omega
              have hH9 : (H : Int) % 9 = 0 := by omega
              have hH9t : (H : Int).tmod 9 = 0 := by rw [Int.tmod_eq_emod_of_nonneg (by omega)]; exact hH9
              obtain ⟨P, hP⟩ : ∃ P : Nat, 8 * j + s = P := ⟨_, rfl⟩
              have hP64 : P < 64 := by omega
              have hplP : placeH Wh (k : Int) = (P : Int) := by omega
              have sv : S.getD P false = false := by
                cases hv : S.getD P false
                · rfl
                · obtain ⟨x, hxk, hxp⟩ := HS.out.2 P hP64 hv
                  have hxx : Hex (x : Int) := ⟨by omega, by omega⟩
                  have h1 := HF.out.bd hxx
                  have := HF.out.inj hxx hx (by omega)
                  omega
              have cB := kB.out.cell k
              rw [arr_get (by rw [fillTo_length]; exact hlt2)] at cB
              have fB := kB.out.frozen k
              obtain ⟨y, hy⟩ : ∃ y, nth (fillTo (fun j => (j : Int)) 64 k) k = y := ⟨_, rfl⟩
              rw [hy] at cB
              have hsz2 := hb.size
              have hb1 := hb.setCell (p := ⟨gB, k, none⟩) bB (.int .i64 (k : Int))
              have kB1 := kB.out.set_ k (.int .i64 (k : Int))
              rw [arr_set, fillTo_succ (fun j => (j : Int)) 64 k] at kB1
              have kA1 := kA.out.far (p := ⟨gB, k, none⟩) (by simpa using nAB) (.int .i64 (k : Int))
              have kC1 := kC.out.far (p := ⟨gB, k, none⟩) (by simp; omega) (.int .i64 (k : Int))
              have kD1 := kD.out.far (p := ⟨gB, k, none⟩) (by simp; omega) (.int .i64 (k : Int))
              have PA := palace_any (k : Int) (wr.setCell ⟨gB, k, none⟩ (.int .i64 (k : Int))) ((hsW.below hb1 (Nat.le_refl _))) ((htW.below hb1 (Nat.le_refl _)))
              rw [show chkH [(k : Int)] = 0 from chkH_of fun i hi => by
                obtain rfl : i = 0 := by simp at hi; omega
                exact hx, hH, hs] at PA
              clear hy ht
              go_wp2_with fail
              refine PA.mono ?_
              rintro e w2 ⟨rfl, hb2⟩
              clear PA
              have hb3 := tr hb1 hb2
              have kA2 := kA1.below hb2 kA1.lt
              have kB2 := kB1.below hb2 kB1.lt
              have kC2 := kC1.below hb2 kC1.lt
              have kD2 := kD1.below hb2 kD1.lt
              have hWH : nth Wh H = (j : Int) := by rw [hH, Int.toNat_natCast] at hWj; exact hWj
              have cD := kD2.cell H
              rw [arr_get (by rw [hWl]; exact hH64), hWH] at cD
              have cC := kC2.cell P
              rw [arrB_get (by rw [HS.out.1]; exact hP64), sv] at cC
              have fC := kC2.frozen P
              have kA3 := kA2.far (p := ⟨gC, P, none⟩) (by simpa using nAC) (.bool true)
              have cA := kA3.cell P
              rw [arr_get (by rw [HO.out.1]; exact hP64)] at cA
              have fA := kA3.frozen P
              obtain ⟨y2, hy2⟩ : ∃ y, nth O P = y := ⟨_, rfl⟩
              rw [hy2] at cA
              have e8 : IntKind.i64.wrap (8 * (j : Int)) = 8 * (j : Int) := IntWalk.i64_in _ (by omega)
              have e9 : IntKind.i64.wrap (8 * (j : Int) + (s : Int)) = (P : Int) := by rw [show 8 * (j : Int) + (s : Int) = (P : Int) by omega]; exact IntWalk.i64_in _ (by omega)
              have kB4 := Lib.hid ((kB2.far (p := ⟨gC, P, none⟩) (by simpa using nBC) (.bool true)).far (p := ⟨gA, P, none⟩) (by simp; omega) (.int .i64 (k : Int)))
              have kC3 := kC2.set_ P (.bool true)
              rw [arrB_set] at kC3
              have kC4 := Lib.hid (kC3.far (p := ⟨gA, P, none⟩) (by simp; omega) (.int .i64 (k : Int)))
              have kD4 := Lib.hid ((kD2.far (p := ⟨gC, P, none⟩) (by simp; omega) (.bool true)).far (p := ⟨gA, P, none⟩) (by simp; omega) (.int .i64 (k : Int)))
              have kA4' := kA3.set_ P (.int .i64 (k : Int))
              rw [arr_set] at kA4'
              have kA4 := Lib.hid kA4'
              have HO4 := Lib.hid (order_step HF.out hlt2 hplP hP64 HO.out)
              have HS4 := Lib.hid (seen_step hplP hP64 HS.out)
              have hb4 := (hb3.setCell (p := ⟨gC, P, none⟩) bC (.bool true)).setCell (p := ⟨gA, P, none⟩) bA (.int .i64 (k : Int))
              have hs7 : (s : Int) ≤ 7 := by omega
              have hP64i : (P : Int) < 64 := by omega
              have hH64i : (H : Int) ≤ 63 := by omega
              clear kA kB kC kD kA1 kB1 kC1 kD1 kA2 kB2 kC2 kD2 kA3 kA4' kC3 hy2 sv hplP hP hH hs hWj hpl HO HS hWH hb3 hb1 hb2 hb hCj
              go_wp2_with fail
              go_roundw
              case rel => exact ⟨k + 1, by omega, by go_num, kB4, ⟨_, HO4, kA4⟩, ⟨_, HS4, kC4⟩, kD4, hb4⟩
              case measure => simp [intOf]; omega
            · obtain rfl : k = 64 := by omega
              have HP := Lib.hid (HF.out.pal HO.out.1 HO.out.2)
              have hO := Lib.hid (HP.out.ord HF.out.all)
              have hO64 := HO.out.1
              have hOx := Lib.hid (ord_hex hO.out).2
              have hN64 : numL.length = 64 := (ord_hex num_ord).1
              have kN := Lib.hid (show Blk wr gB 3 (arr numL) from kB.out)
              have CA := fun (V : World) (Z : List Int) (hz : Hid (Blk V gA 3 (arr Z))) (h64 : Z.length = 64) (hzx : ∀ i, i < 64 → Hex (nth Z i)) => ints_any (some ⟨gA, 0, none⟩) Z 64 V (came_blk hz.out h64 hzx) (by omega)
              have IO := CA wr O kA hO64 hOx.out
              rw [hO64] at IO
              clear kB HO HS kC kD zA zB zC HB hbL hr0 kD0 hb0 hbD hbX HF
              go_wp2_with fail
              refine IO.mono ?_
              rintro e w1 ⟨⟨q1, c1, rfl, hr1, hc1, hc1'⟩, hb1⟩
              have hb2 := tr hb hb1
              clear IO
              go_wp2_with fail
              refine (broken_3 q1 O c1 _ hO hr1 (hsW.below hb2 (Nat.le_refl _)) (htW.below hb2 (Nat.le_refl _))).mono ?_
              rintro e w3 ⟨rfl, hb3⟩
              rw [HP.out.brk]
              have hb4 := tr hb2 hb3
              have kA4 := Lib.hid (kA.out.below (tr hb1 hb3) kA.out.lt)
              have kN4 := Lib.hid (kN.out.below (tr hb1 hb3) kN.out.lt)
              clear hb1 hb2 hb3 hr1 kA kN hb
              obtain ⟨x0, hx0⟩ : ∃ x0, a % 64 = x0 := ⟨_, rfl⟩
              obtain ⟨y0, hy0⟩ : ∃ y0, b % 64 = y0 := ⟨_, rfl⟩
              have hxi : (a : Int) % 64 = (x0 : Int) := by omega
              have hyi : (b : Int) % 64 = (y0 : Int) := by omega
              have hx64 : (x0 : Int) < 64 := by omega
              have hy64 : (y0 : Int) < 64 := by omega
              clear hx0 hy0
              go_upto_region 26 with fail
              go_cut [21, 22] from 128 to 133 (fun s21 s22 wx => ∃ X Y : Nat, s21 = .int .i64 X ∧ s22 = .int .i64 Y ∧ X ≤ Y ∧ Y < 64 ∧ wx = w3)
              case first =>
                rcases Nat.lt_trichotomy x0 y0 with h | h | h
                · have h2 : (x0 : Int) < (y0 : Int) := by omega
                  go_wp2_with fail
                  go_meet
                  exact ⟨x0, y0, congrArg _ (by omega), congrArg _ (by omega), by omega, by omega, rfl⟩
                · subst h
                  go_wp2_with fail
                  go_meet
                  exact ⟨x0, x0, congrArg _ (by omega), congrArg _ (by omega), by omega, by omega, rfl⟩
                · have h2 : (y0 : Int) < (x0 : Int) := by omega
                  go_wp2_with fail
                  go_meet
                  exact ⟨y0, x0, congrArg _ (by omega), congrArg _ (by omega), by omega, by omega, rfl⟩
              case rest =>
                obtain ⟨X, Y, rfl, rfl, hXY, hY64, hwc⟩ := hcut
                rw [hwc]
                clear hwc hxi hyi hx64 hy64
                by_cases hne : X = Y
                · subst hne
                  go_wp2_with fail
                  refine (broken_2 (some ⟨gB, 0, none⟩) numL 64 _ (Lib.hid num_ord) kN4.out.reads (hsW.below hb4 (Nat.le_refl _))).mono ?_
                  rintro e wE1 ⟨rfl, hbE1⟩
                  rw [num_brk]
                  have hbE2 := tr hb4 hbE1
                  go_wp2_with fail
                  refine (known_any _ (hsW.below hbE2 (Nat.le_refl _)) (hfW.below hbE2 (Nat.le_refl _))).mono ?_
                  rintro e wE3 ⟨rfl, hbE3⟩
                  go_wp2
                  go_ret
                  exact ⟨rfl, hbW0.trans ((tr hbE2 hbE3).mono hbW0.size)⟩
                · have hlt3 : X < Y := by omega
                  have hXi : (X : Int) < 64 := by omega
                  have hYi : (Y : Int) < 64 := by omega
                  have eXY : ((X : Int) != (Y : Int)) = true := by simp; omega
                  have cX := kA4.out.cell X
                  rw [arr_get (by omega)] at cX
                  have cY := kA4.out.cell Y
                  rw [arr_get (by omega)] at cY
                  have fX := kA4.out.frozen X
                  have fY := kA4.out.frozen Y
                  obtain ⟨vx, hvx⟩ : ∃ v, nth O X = v := ⟨_, rfl⟩
                  obtain ⟨vy, hvy⟩ : ∃ v, nth O Y = v := ⟨_, rfl⟩
                  have HSW := Lib.hid (show swapL O X Y = (O.set X vy).set Y vx by unfold swapL; rw [hvx, hvy])
                  rw [hvx] at cX
                  rw [hvy] at cY
                  have HBR := Lib.hid (HP.out.swap (show X < 64 by omega) hY64 hlt3)
                  have HOR := Lib.hid (swap_ord hO.out (show X < 64 by omega) hY64 hlt3)
                  have kA5' := (kA4.out.set_ X (.int .i64 vy)).set_ Y (.int .i64 vx)
                  rw [arr_set, arr_set, ← HSW.out] at kA5'
                  have kA5 := Lib.hid kA5'
                  have kN5 := Lib.hid ((kN4.out.far (p := ⟨gA, X, none⟩) (by simp; omega) (.int .i64 vy)).far (p := ⟨gA, Y, none⟩) (by simp; omega) (.int .i64 vx))
                  have hb5 := ((hb4.setCell (p := ⟨gA, X, none⟩) bA (.int .i64 vy)).setCell (p := ⟨gA, Y, none⟩) bA (.int .i64 vx))
                  clear hvx hvy kA5' hO64
                  go_upto_region 28 with fail
                  go_cut [7] from 137 to 150 (fun s7 wx => s7 = .slice (some ⟨gA, 0, none⟩) 64 64 ∧ wx = ((w3.setCell ⟨gA, X, none⟩ (.int .i64 vy)).setCell ⟨gA, Y, none⟩ (.int .i64 vx)).drew)
                  case first =>
                    go_region
                    all_goals (go_wp2_with fail; go_meet; exact ⟨rfl, rfl⟩)
                  case rest =>
                    obtain ⟨rfl, hwc2⟩ := hcut
                    rw [hwc2]
                    have hb5d := hb5.drew
                    have kA6 : Hid (Blk ((w3.setCell ⟨gA, X, none⟩ (.int .i64 vy)).setCell ⟨gA, Y, none⟩ (.int .i64 vx)).drew gA 3 (arr (swapL O X Y))) := kA5.out
                    have kN6 : Hid (Blk ((w3.setCell ⟨gA, X, none⟩ (.int .i64 vy)).setCell ⟨gA, Y, none⟩ (.int .i64 vx)).drew gB 3 (arr numL)) := kN5.out
                    have hsl : (swapL O X Y).length = 64 := (ord_hex HOR.out).1
                    have IO2 := CA _ _ kA6 hsl (ord_hex HOR.out).2
                    rw [hsl] at IO2
                    generalize ((w3.setCell ⟨gA, X, none⟩ (.int .i64 vy)).setCell ⟨gA, Y, none⟩ (.int .i64 vx)).drew = V5 at hb5d kA6 kN6 IO2 ⊢
                    clear hwc2 hsl kA6 kA5 kN5 hb5 hb4 kA4 kN4 cX cY fX fY CA
                    by_cases hX8 : X % 8 = 0
                    · by_cases hY8 : Y % 8 = 0
                      · have hw : ((wantN X Y : Nat) : Int) = (X : Int) + 1 := by unfold wantN; rw [if_pos ⟨hX8, hY8⟩]; omega
                        have x8 : (X : Int) % 8 = 0 := by omega
                        have y8 : (Y : Int) % 8 = 0 := by omega
                        have eW : IntKind.i64.wrap ((X : Int) + 1) = (X : Int) + 1 := IntWalk.i64_in _ (by omega)
                        clear hX8 hY8
                        go_wp2_with fail
                        refine IO2.mono ?_
                        rintro e w6 ⟨⟨q6, c6, rfl, hr6, _, _⟩, hb6⟩
                        have hb7 := tr hb5d hb6
                        clear IO2
                        go_wp2_with fail
                        refine (broken_3 q6 _ c6 _ HOR hr6 (hsW.below hb7 (Nat.le_refl _)) (htW.below hb7 (Nat.le_refl _))).mono ?_
                        rintro e w8 ⟨rfl, hb8⟩
                        rw [HBR.out, hw]
                        have hb9 := tr hb7 hb8
                        have kN9 := Lib.hid (kN6.out.below (tr hb6 hb8) kN6.out.lt)
                        clear hw hb6 hb7 hb8
                        go_wp2_with fail
                        refine (broken_2 (some ⟨gB, 0, none⟩) numL 64 _ (Lib.hid num_ord) kN9.out.reads (hsW.below hb9 (Nat.le_refl _))).mono ?_
                        rintro e wE1 ⟨rfl, hbE1⟩
                        rw [num_brk]
                        have hbE2 := tr hb9 hbE1
                        go_wp2_with fail
                        refine (known_any _ (hsW.below hbE2 (Nat.le_refl _)) (hfW.below hbE2 (Nat.le_refl _))).mono ?_
                        rintro e wE3 ⟨rfl, hbE3⟩
                        go_wp2
                        go_ret
                        exact ⟨rfl, hbW0.trans ((tr hbE2 hbE3).mono hbW0.size)⟩
                      · have hw : ((wantN X Y : Nat) : Int) = (X : Int) := by unfold wantN; rw [if_neg (by omega)]
                        have x8 : (X : Int) % 8 = 0 := by omega
                        have y8 : (((Y : Int) % 8) == 0) = false := by simp; omega
                        clear hX8 hY8
                        go_wp2_with fail
                        refine IO2.mono ?_
                        rintro e w6 ⟨⟨q6, c6, rfl, hr6, _, _⟩, hb6⟩
                        have hb7 := tr hb5d hb6
                        clear IO2
                        go_wp2_with fail
                        refine (broken_3 q6 _ c6 _ HOR hr6 (hsW.below hb7 (Nat.le_refl _)) (htW.below hb7 (Nat.le_refl _))).mono ?_
                        rintro e w8 ⟨rfl, hb8⟩
                        rw [HBR.out, hw]
                        have hb9 := tr hb7 hb8
                        have kN9 := Lib.hid (kN6.out.below (tr hb6 hb8) kN6.out.lt)
                        clear hw hb6 hb7 hb8
                        go_wp2_with fail
                        refine (broken_2 (some ⟨gB, 0, none⟩) numL 64 _ (Lib.hid num_ord) kN9.out.reads (hsW.below hb9 (Nat.le_refl _))).mono ?_
                        rintro e wE1 ⟨rfl, hbE1⟩
                        rw [num_brk]
                        have hbE2 := tr hb9 hbE1
                        go_wp2_with fail
                        refine (known_any _ (hsW.below hbE2 (Nat.le_refl _)) (hfW.below hbE2 (Nat.le_refl _))).mono ?_
                        rintro e wE3 ⟨rfl, hbE3⟩
                        go_wp2
                        go_ret
                        exact ⟨rfl, hbW0.trans ((tr hbE2 hbE3).mono hbW0.size)⟩
                    · have hw : ((wantN X Y : Nat) : Int) = (X : Int) := by unfold wantN; rw [if_neg (by omega)]
                      have x8 : (((X : Int) % 8) == 0) = false := by simp; omega
                      clear hX8
                      go_wp2_with fail
                      refine IO2.mono ?_
                      rintro e w6 ⟨⟨q6, c6, rfl, hr6, _, _⟩, hb6⟩
                      have hb7 := tr hb5d hb6
                      clear IO2
                      go_wp2_with fail
                      refine (broken_3 q6 _ c6 _ HOR hr6 (hsW.below hb7 (Nat.le_refl _)) (htW.below hb7 (Nat.le_refl _))).mono ?_
                      rintro e w8 ⟨rfl, hb8⟩
                      rw [HBR.out, hw]
                      have hb9 := tr hb7 hb8
                      have kN9 := Lib.hid (kN6.out.below (tr hb6 hb8) kN6.out.lt)
                      clear hw hb6 hb7 hb8
                      go_wp2_with fail
                      refine (broken_2 (some ⟨gB, 0, none⟩) numL 64 _ (Lib.hid num_ord) kN9.out.reads (hsW.below hb9 (Nat.le_refl _))).mono ?_
                      rintro e wE1 ⟨rfl, hbE1⟩
                      rw [num_brk]
                      have hbE2 := tr hb9 hbE1
                      go_wp2_with fail
                      refine (known_any _ (hsW.below hbE2 (Nat.le_refl _)) (hfW.below hbE2 (Nat.le_refl _))).mono ?_
                      rintro e wE3 ⟨rfl, hbE3⟩
                      go_wp2
                      go_ret
                      exact ⟨rfl, hbW0.trans ((tr hbE2 hbE3).mono hbW0.size)⟩
            
end Go.Proofs.YtoeflgmdaaefeaaGreatDoor
