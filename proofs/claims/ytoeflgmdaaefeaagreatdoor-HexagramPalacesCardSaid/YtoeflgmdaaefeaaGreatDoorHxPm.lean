/-
  Plain facts: the palaces of heads in whatever order, laid one behind another; with two places exchanged.
-/
import Derived.Test.YtoeflgmdaaefeaaGreatDoorHxVj
namespace Go.Proofs.YtoeflgmdaaefeaaGreatDoor
open Go Go.RowKit
set_option linter.unusedVariables false

def heads8 : List Int := [0, 9, 18, 27, 36, 45, 54, 63]
/-- The element at t of the palace with the head 9 t. -/
theorem mem_pal : ∀ t : Fin 8, ∀ s : Fin 8, palH (memV (9 * (t.val : Int)) s.val) = 9 * (t.val : Int) ∧ palS (memV (9 * (t.val : Int)) s.val) = s.val ∧ headB (memV (9 * (t.val : Int)) s.val) = decide (s.val = 0) ∧ 0 ≤ memV (9 * (t.val : Int)) s.val ∧ memV (9 * (t.val : Int)) s.val ≤ 63 ∧ memV (9 * (t.val : Int)) 0 = 9 * (t.val : Int) := by decide +kernel
theorem head_nine : ∀ t : Fin 8, headB (9 * (t.val : Int)) = true := by decide +kernel
theorem pal_back {h : Int} (hh : Hex h) : memV (palH h) (palS h).toNat = h ∧ (∃ t : Fin 8, palH h = 9 * (t.val : Int)) ∧ 0 ≤ palS h ∧ palS h ≤ 7 :=
  hex_all (P := fun h => memV (palH h) (palS h).toNat = h ∧ (∃ t : Fin 8, palH h = 9 * (t.val : Int)) ∧ 0 ≤ palS h ∧ palS h ≤ 7) (by decide +kernel) hh
theorem heads_nine {c : Int} (h : c ∈ heads8) : ∃ t : Fin 8, c = 9 * (t.val : Int) := by
  simp [heads8] at h
  rcases h with rfl | rfl | rfl | rfl | rfl | rfl | rfl | rfl
  · exact ⟨0, rfl⟩
  · exact ⟨1, rfl⟩
  · exact ⟨2, rfl⟩
  · exact ⟨3, rfl⟩
  · exact ⟨4, rfl⟩
  · exact ⟨5, rfl⟩
  · exact ⟨6, rfl⟩
  · exact ⟨7, rfl⟩
theorem nine_heads : ∀ t : Fin 8, 9 * (t.val : Int) ∈ heads8 := by decide

/-- C are the heads that have been taken, L those that are left; each that was taken has its place written down. -/
structure Taken (C L Wh : List Int) : Prop where
  perm : (C ++ L).Perm heads8
  len : Wh.length = 64
  at_ : ∀ j, j < C.length → nth Wh (nth C j).toNat = j
theorem Taken.nodup {C L Wh : List Int} (h : Taken C L Wh) : (C ++ L).Nodup := h.perm.nodup_iff.2 (by decide)
theorem Taken.head {C L Wh : List Int} (h : Taken C L Wh) {c : Int} (hc : c ∈ C ++ L) : ∃ t : Fin 8, c = 9 * (t.val : Int) := heads_nine (h.perm.mem_iff.1 hc)
theorem Taken.count {C L Wh : List Int} (h : Taken C L Wh) : C.length + L.length = 8 := by
  have := h.perm.length_eq
  simpa [heads8] using this
theorem Taken.start : Taken [] heads8 (List.replicate 64 0) := ⟨List.Perm.refl _, by simp, fun j hj => by simp at hj⟩
theorem Taken.step {C L Wh : List Int} (h : Taken C L Wh) {k : Nat} (hk : k < L.length) : Taken (C ++ [nth L k]) (L.take k ++ L.drop (k + 1)) (Wh.set (nth L k).toNat C.length) := by
  have hL : L = L.take k ++ nth L k :: L.drop (k + 1) := by
    rw [nth_eq hk]
    have := List.drop_eq_getElem_cons hk
    rw [← this, List.take_append_drop]
  refine ⟨?_, by rw [List.length_set]; exact h.len, fun j hj => ?_⟩
  · refine List.Perm.trans ?_ h.perm
    rw [List.append_assoc]
    refine List.Perm.append_left C ?_
    refine List.Perm.trans ?_ (List.Perm.of_eq hL.symm)
    exact (List.perm_middle (a := nth L k) (l₁ := L.take k) (l₂ := L.drop (k + 1))).symm
  · rw [List.length_append, List.length_singleton] at hj
    have hm : nth L k ∈ C ++ L := List.mem_append_right _ (nth_mem hk)
    obtain ⟨t, ht⟩ := h.head hm
    by_cases e : j = C.length
    · subst e
      have e2 : nth (C ++ [nth L k]) C.length = nth L k := by simp [nth]
      rw [e2, nth_set (by rw [h.len]; omega), if_pos rfl]
    · have hj2 : j < C.length := by omega
      have e2 : nth (C ++ [nth L k]) j = nth C j := by
        rw [nth_eq (by simp; omega), nth_eq hj2, List.getElem_append_left hj2]
      have hm2 : nth C j ∈ C ++ L := List.mem_append_left _ (nth_mem hj2)
      obtain ⟨t2, ht2⟩ := h.head hm2
      have hne : nth C j ≠ nth L k := (List.nodup_append.1 h.nodup).2.2 _ (nth_mem hj2) _ (nth_mem hk)
      rw [e2, nth_set (by rw [h.len]; omega), if_neg (by omega)]
      exact h.at_ j hj2

/-- The place of a hexagram. -/
def placeH (Wh : List Int) (h : Int) : Int := 8 * nth Wh (palH h).toNat + palS h
/-- All heads are taken. -/
structure Full (C Wh : List Int) : Prop where
  clen : C.length = 8
  nine : ∀ j, j < 8 → ∃ t : Fin 8, nth C j = 9 * (t.val : Int)
  back : ∀ j, j < 8 → nth Wh (nth C j).toNat = j
  all : ∀ t : Fin 8, ∃ j, j < 8 ∧ nth C j = 9 * (t.val : Int)
theorem Taken.full {C L Wh : List Int} (h : Taken C L Wh) (hl : L.length = 0) : Full C Wh := by
  have hL : L = [] := List.eq_nil_of_length_eq_zero hl
  subst hL
  have hc := h.count
  simp at hc
  refine ⟨hc, fun j hj => h.head (List.mem_append_left _ (nth_mem (by omega))), fun j hj => h.at_ j (by omega), fun t => ?_⟩
  have : 9 * (t.val : Int) ∈ C := by
    have := h.perm.mem_iff.2 (nine_heads t)
    simpa using this
  obtain ⟨j, hj, e⟩ := mem_nth this
  exact ⟨j, by omega, e⟩
theorem Full.place {C Wh : List Int} (h : Full C Wh) {x : Int} (hx : Hex x) : ∃ j, j < 8 ∧ nth C j = palH x ∧ nth Wh (palH x).toNat = j ∧ placeH Wh x = 8 * (j : Int) + palS x ∧ 0 ≤ palS x ∧ palS x ≤ 7 := by
  obtain ⟨_, ⟨t, ht⟩, h0, h7⟩ := pal_back hx
  obtain ⟨j, hj, e⟩ := h.all t
  have hb := h.back j hj
  rw [e, ← ht] at hb
  exact ⟨j, hj, by rw [e, ht], hb, by unfold placeH; rw [hb], h0, h7⟩
theorem Full.bd {C Wh : List Int} (h : Full C Wh) {x : Int} (hx : Hex x) : 0 ≤ placeH Wh x ∧ placeH Wh x ≤ 63 := by
  obtain ⟨j, hj, _, _, e, h0, h7⟩ := h.place hx
  omega
theorem Full.inj {C Wh : List Int} (h : Full C Wh) {x y : Int} (hx : Hex x) (hy : Hex y) (e : placeH Wh x = placeH Wh y) : x = y := by
  obtain ⟨j, hj, c1, _, e1, h0, h7⟩ := h.place hx
  obtain ⟨j2, hj2, c2, _, e2, g0, g7⟩ := h.place hy
  have hjj : j = j2 := by omega
  subst hjj
  have hs : palS x = palS y := by omega
  rw [← (pal_back hx).1, ← (pal_back hy).1, ← c1, ← c2, hs]
theorem Full.onto {C Wh : List Int} (h : Full C Wh) {j s : Nat} (hj : j < 8) (hs : s < 8) : Hex (memV (nth C j) s) ∧ placeH Wh (memV (nth C j) s) = ((8 * j + s : Nat) : Int) := by
  obtain ⟨t, ht⟩ := h.nine j hj
  obtain ⟨a, b, _, h0, h1, _⟩ := mem_pal t ⟨s, hs⟩
  have hb := h.back j hj
  rw [ht] at hb ⊢
  simp only at a b h0 h1
  refine ⟨⟨h0, h1⟩, ?_⟩
  unfold placeH
  rw [a, b, hb]
  omega

/-- An order of palaces. -/
structure Pal (O C : List Int) : Prop where
  len : O.length = 64
  nine : ∀ j, j < 8 → ∃ t : Fin 8, nth C j = 9 * (t.val : Int)
  apart : ∀ i j, i < 8 → j < 8 → nth C i = nth C j → i = j
  at_ : ∀ j s, j < 8 → s < 8 → nth O (8 * j + s) = memV (nth C j) s
theorem Full.pal {C Wh O : List Int} (h : Full C Wh) (hO : O.length = 64) (ho : ∀ x : Nat, x < 64 → nth O (placeH Wh x).toNat = x) : Pal O C := by
  refine ⟨hO, h.nine, fun i j hi hj e => ?_, fun j s hj hs => ?_⟩
  · have h1 := h.back i hi
    have h2 := h.back j hj
    rw [e] at h1
    omega
  · obtain ⟨⟨h0, h1⟩, e⟩ := h.onto hj hs
    have := ho (memV (nth C j) s).toNat (by omega)
    rw [show ((memV (nth C j) s).toNat : Int) = memV (nth C j) s by omega, e, Int.toNat_natCast] at this
    exact this
theorem Pal.ord {O C : List Int} (h : Pal O C) (ha : ∀ t : Fin 8, ∃ j, j < 8 ∧ nth C j = 9 * (t.val : Int)) : ordB O = true := by
  unfold ordB
  rw [decide_eq_true h.len, Bool.true_and]
  refine decide_eq_true fun k hk => ?_
  have hx : Hex (k : Int) := ⟨by omega, by omega⟩
  obtain ⟨e, ⟨t, ht⟩, s0, s7⟩ := pal_back hx
  obtain ⟨j, hj, c⟩ := ha t
  have := h.at_ j (palS k).toNat hj (by omega)
  rw [c, ← ht, e] at this
  rw [← this]
  exact nth_mem (by have := h.len; omega)
/-- What stands at a place. -/
theorem Pal.what {O C : List Int} (h : Pal O C) {k : Nat} (hk : k < 64) : ∃ t : Fin 8, nth C (k / 8) = 9 * (t.val : Int) ∧ nth O k = memV (9 * (t.val : Int)) (k % 8) ∧ nth O (k - k % 8) = 9 * (t.val : Int) ∧ headB (nth O k) = decide (k % 8 = 0) := by
  obtain ⟨t, ht⟩ := h.nine (k / 8) (by omega)
  have h1 := h.at_ (k / 8) (k % 8) (by omega) (by omega)
  have h0 := h.at_ (k / 8) 0 (by omega) (by omega)
  rw [show 8 * (k / 8) + k % 8 = k by omega, ht] at h1
  rw [show 8 * (k / 8) + 0 = k - k % 8 by omega, ht, (mem_pal t 0).2.2.2.2.2] at h0
  exact ⟨t, ht, h1, h0, by rw [h1]; exact (mem_pal t ⟨k % 8, by omega⟩).2.2.1⟩
theorem Pal.keep {O C : List Int} (h : Pal O C) {k : Nat} (hk : k < 64) : keep3 O k = true := by
  obtain ⟨t, _, h1, h0, _⟩ := h.what hk
  have hh := head_nine t
  unfold keep3
  rw [h0, h1, hh]
  simp
theorem Pal.brk {O C : List Int} (h : Pal O C) : brkTo (keep3 O) 64 = -1 := brkTo_none fun j hj => h.keep hj
theorem Pal.inj {O C : List Int} (h : Pal O C) {x y : Nat} (hx : x < 64) (hy : y < 64) (e : nth O x = nth O y) : x = y := by
  obtain ⟨t, c1, h1, _, _⟩ := h.what hx
  obtain ⟨u, c2, h2, _, _⟩ := h.what hy
  have p1 := mem_pal t ⟨x % 8, by omega⟩
  have p2 := mem_pal u ⟨y % 8, by omega⟩
  simp only at p1 p2
  rw [← h1] at p1
  rw [← h2, ← e] at p2
  have hs : x % 8 = y % 8 := by have := p1.2.1; have := p2.2.1; omega
  have ht : nth C (x / 8) = nth C (y / 8) := by rw [c1, c2, ← p1.1, ← p2.1]
  have := h.apart _ _ (by omega) (by omega) ht
  omega
/-- Two places exchanged. -/
def swapL (O : List Int) (x y : Nat) : List Int := (O.set x (nth O y)).set y (nth O x)
theorem swap_nth {O : List Int} {x y k : Nat} (hx : x < O.length) (hy : y < O.length) (hxy : x < y) : nth (swapL O x y) k = if k = x then nth O y else if k = y then nth O x else nth O k := by
  unfold swapL
  rw [nth_set (by rw [List.length_set]; exact hy), nth_set hx]
  by_cases h1 : y = k
  · rw [if_pos h1, if_neg (by omega), if_pos h1.symm]
  · rw [if_neg h1]
    by_cases h2 : x = k
    · rw [if_pos h2, if_pos h2.symm]
    · rw [if_neg h2, if_neg (by omega), if_neg (by omega)]
theorem swap_len (O : List Int) (x y : Nat) : (swapL O x y).length = O.length := by simp [swapL]
theorem swap_ord {O : List Int} {x y : Nat} (h : ordB O = true) (hx : x < 64) (hy : y < 64) (hxy : x < y) : ordB (swapL O x y) = true := by
  unfold ordB at h
  rw [Bool.and_eq_true, decide_eq_true_iff, decide_eq_true_iff] at h
  unfold ordB
  rw [decide_eq_true (by rw [swap_len]; exact h.1), Bool.true_and]
  refine decide_eq_true fun k hk => ?_
  obtain ⟨i, hi, e⟩ := mem_nth (h.2 k hk)
  have hs : ∀ j, j < 64 → nth (swapL O x y) j ∈ swapL O x y := fun j hj => nth_mem (by rw [swap_len]; omega)
  by_cases h1 : i = x
  · have := hs y hy
    rw [h1] at e
    rw [swap_nth (by omega) (by omega) hxy, if_neg (by omega), if_pos rfl, e] at this
    exact this
  · by_cases h2 : i = y
    · have := hs x hx
      rw [h2] at e
      rw [swap_nth (by omega) (by omega) hxy, if_pos rfl, e] at this
      exact this
    · have := hs i (by omega)
      rw [swap_nth (by omega) (by omega) hxy, if_neg h1, if_neg h2, e] at this
      exact this
def wantN (x y : Nat) : Nat := if x % 8 = 0 ∧ y % 8 = 0 then x + 1 else x
theorem Pal.swap {O C : List Int} (h : Pal O C) {x y : Nat} (hx : x < 64) (hy : y < 64) (hxy : x < y) : brkTo (keep3 (swapL O x y)) 64 = wantN x y := by
  have hl := h.len
  have sw := fun k => swap_nth (O := O) (x := x) (y := y) (k := k) (by omega) (by omega) hxy
  have lo : ∀ j, j < x → keep3 (swapL O x y) j = true := fun j hj => by
    have := h.keep (k := j) (by omega)
    unfold keep3 at this ⊢
    rw [sw j, sw (j - j % 8), if_neg (by omega), if_neg (by omega), if_neg (by omega), if_neg (by omega)]
    exact this
  obtain ⟨t, _, tx, tx0, thd⟩ := h.what hx
  obtain ⟨u, _, uy, uy0, uhd⟩ := h.what hy
  have hne : nth O y ≠ nth O x := fun e => by have := h.inj hy hx e; omega
  have hth := head_nine t
  by_cases h8 : x % 8 = 0
  · by_cases g8 : y % 8 = 0
    · have hw : wantN x y = x + 1 := by unfold wantN; rw [if_pos ⟨h8, g8⟩]
      rw [hw]
      have uhd2 : headB (nth O y) = true := by rw [uhd]; simp [g8]
      have hm0 : memV (nth O y) 0 = nth O y := by
        have := (mem_pal u 0).2.2.2.2.2
        rw [g8] at uy
        rw [uy, this]
        exact this
      refine brkTo_at (by omega) (fun j hj => ?_) ?_
      · by_cases ej : j = x
        · subst ej
          unfold keep3
          rw [h8, Nat.sub_zero, sw j, if_pos rfl, uhd2, hm0]
          simp
        · exact lo j (by omega)
      · unfold keep3
        rw [show (x + 1) % 8 = 1 by omega, show x + 1 - 1 = x by omega, sw x, if_pos rfl, sw (x + 1), if_neg (by omega), if_neg (by omega), uhd2, Bool.true_and]
        obtain ⟨t1, c1, h1, h10, _⟩ := h.what (k := x + 1) (by omega)
        rw [show (x + 1) % 8 = 1 by omega] at h1 h10
        rw [Nat.add_sub_cancel] at h10
        have p1 := mem_pal t1 ⟨1, by omega⟩
        have p2 := mem_pal u ⟨1, by omega⟩
        simp only at p1 p2
        have hu : nth O y = 9 * (u.val : Int) := by rw [g8] at uy; rw [uy]; exact (mem_pal u 0).2.2.2.2.2
        rw [h1, hu]
        refine beq_eq_false_iff_ne.2 fun e => hne ?_
        rw [e] at p1
        rw [hu, h10]
        exact p2.1.symm.trans p1.1
    · have hw : wantN x y = x := by unfold wantN; rw [if_neg (by omega)]
      rw [hw]
      refine brkTo_at hx lo ?_
      unfold keep3
      rw [h8, Nat.sub_zero, sw x, if_pos rfl, uhd]
      simp [g8]
  · have hw : wantN x y = x := by unfold wantN; rw [if_neg (by omega)]
    rw [hw]
    refine brkTo_at hx lo ?_
    unfold keep3
    rw [sw x, if_pos rfl, sw (x - x % 8), if_neg (by omega), if_neg (by omega), tx0, hth, Bool.true_and, ← tx]
    exact beq_eq_false_iff_ne.2 hne
/-- The numbers in their order. -/
def numL : List Int := fillTo (fun j => (j : Int)) 64 64
theorem num_ord : ordB numL = true := by
  unfold ordB
  rw [decide_eq_true (by unfold numL; exact fillTo_length _ _ _), Bool.true_and]
  refine decide_eq_true fun k hk => ?_
  unfold numL
  rw [fillTo_all]
  exact List.mem_map.2 ⟨k, List.mem_range.2 hk, rfl⟩
theorem num_brk : brkTo (keep2 numL) 64 = -1 := brkTo_none fun j hj => by
  have hn : ∀ k, k < 64 → nth numL k = k := fun k hk => by
    unfold numL
    rw [fillTo_all, nth_eq (by simpa using hk)]
    simp
  unfold keep2
  rw [hn j hj, hn (63 - j) (by omega)]
  have := hex_all (P := fun x => opV x 1 = 63 - x) (by decide +kernel) (show Hex (j : Int) from ⟨by omega, by omega⟩)
  rw [this]
  simp
  omega
end Go.Proofs.YtoeflgmdaaefeaaGreatDoor
