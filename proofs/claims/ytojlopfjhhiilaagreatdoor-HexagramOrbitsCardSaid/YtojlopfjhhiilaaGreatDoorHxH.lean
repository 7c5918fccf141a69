/-
  Package hexagram: the error of weights of lines.
-/
import Derived.Test.YtojlopfjhhiilaaGreatDoorHxF
namespace Go.Proofs.YtojlopfjhhiilaaGreatDoor
open Go Go.RowKit
set_option linter.unusedVariables false

theorem nth_drop (xs : List Int) (a k : Nat) : nth (xs.drop a) k = nth xs (a + k) := by simp [nth]
theorem nth_take {xs : List Int} {a k : Nat} (h : k < a) : nth (xs.take a) k = nth xs k := by simp [nth, h]
theorem Reads.sub {w : World} {q o : Nat} {xs : List Int} (h : Reads w (some ⟨q, o, none⟩) xs) (a b : Nat) : Reads w (some ⟨q, o + a, none⟩) ((xs.drop a).take b) := fun k hk => by
  simp at hk
  obtain ⟨_, _, e, hc⟩ := h (a + k) (by omega)
  cases e
  exact ⟨q, o + a, rfl, by rw [nth_take (by omega), nth_drop, Nat.add_assoc]; exact hc⟩
/-- The weights of 6 to 9. -/
def castL (W : List Int) : List Int := (W.drop 6).take 4
def linesE (W : List Int) : Int :=
  if outB 10 20 W.length = true then 2 else if anyB negB W = true then 2
  else if anyB someB (W.take 6) = true ∨ anyB someB (W.drop 10) = true ∨ anyB someB (castL W) = false then 2
  else if 316 < lsum (castL W) then 40 else 0

theorem negB_all {xs : List Int} (h : anyB negB xs = false) : ∀ k, 0 ≤ nth xs k := fun k => by
  by_cases hk : k < xs.length
  · simp [anyB, negB] at h
    have := h _ (nth_mem hk)
    omega
  · rw [nth_out hk]; omega
theorem psum_mono {xs : List Int} (h : ∀ k, k < xs.length → 0 ≤ nth xs k) {k : Nat} (hk : k ≤ xs.length) : psum xs k ≤ lsum xs := by
  rw [← psum_all]
  have : ∀ d, k + d ≤ xs.length → psum xs k ≤ psum xs (k + d) := by
    intro d
    induction d with
    | zero => intro _; exact Int.le_refl _
    | succ d ih =>
      intro hd
      have h1 := ih (by omega)
      have h2 := h (k + d) (by omega)
      rw [show k + (d + 1) = (k + d) + 1 from rfl, psum_succ (by omega)]
      omega
  have h1 := this (xs.length - k) (by omega)
  rwa [show k + (xs.length - k) = xs.length by omega] at h1
theorem psum_lo {xs : List Int} (h : ∀ k, k < xs.length → 0 ≤ nth xs k) {k : Nat} (hk : k ≤ xs.length) : 0 ≤ psum xs k := by
  induction k with
  | zero => rw [psum_zero]; omega
  | succ k ih =>
    have := ih (by omega)
    have := h k (by omega)
    rw [psum_succ (by omega)]
    omega

set_option maxRecDepth 100000 in
set_option maxHeartbeats 1000000 in
theorem checkLines_in (p : Option Addr) (W : List Int) (n c : Nat) (w : World) (hn : Hid (W.length = n)) (hl : n ≤ 1000000) (hc : n ≤ c) (hc2 : c ≤ 9223372036854775807) (hc10 : c ≠ 10 ∨ c = 10) (hR : Reads w p W) (Ho : Hid (outB 10 20 (n : Int) = false)) (HA : Hid (anyB negB W = false)) (h10 : 10 ≤ n) (h20 : n ≤ 20) :
    Calls Tryz.prog 71 #[.slice p n c] w fun e w' => e = .returned (.int .i64 (linesE W)) ∧ Below w.heap.size w w' := by
  have hb : Below w.heap.size w ((w.alloc (.cells #[.int .i64 10] 3)).alloc (.cells #[.int .i64 20] 3)) := ((Below.refl _ _).alloc (Nat.le_refl _) _).alloc (by simp) _
  have hR2 := hR.below hb (Nat.le_refl _)
  have E0 := Lib.hid (show ¬ outB 10 20 (W.length : Int) = true by rw [hn.out, Ho.out]; simp)
  have HP := Lib.hid (show ∀ k, k < (castL W).length → 0 ≤ nth (castL W) k from fun k hk => by
    have := hn.out
    simp [castL] at hk
    unfold castL
    rw [nth_take (by omega), nth_drop]
    exact negB_all HA.out _)
  obtain ⟨q, o, rfl, _⟩ := hR 0 (by have := hn.out; omega)
  have HR6 := Lib.hid (show Reads _ (some ⟨q, o, none⟩) (W.take 6) from hR2.sub 0 6)
  have HR4 := Lib.hid (show Reads _ (some ⟨q, o + 6, none⟩) (castL W) from hR2.sub 6 4)
  have L6 := Lib.hid (show (W.take 6).length = 6 by have := hn.out; simp; omega)
  have L4 := Lib.hid (show (castL W).length = 4 by have := hn.out; simp [castL]; omega)
  have L10 := Lib.hid (show (W.drop 10).length = n - 10 by have := hn.out; simp; omega)
  have HR10 := Lib.hid (show Reads _ (some ⟨q, o + 10, none⟩) (W.drop 10) by have h0 := hR2.sub 10 (n - 10); rwa [List.take_of_length_le (by rw [L10.out]; exact Nat.le_refl _)] at h0)
  cases h1 : anyB someB (W.take 6)
  · have H1 := Lib.hid h1
    clear h1
    cases h2 : anyB someB (W.drop 10)
    · have H2 := Lib.hid h2
      clear h2
      cases h3 : anyB someB (castL W)
      · have H3 := Lib.hid h3
        clear h3
        have E := Lib.hid (show linesE W = 2 by unfold linesE; rw [if_neg E0.out, if_neg (by rw [HA.out]; simp), if_pos (.inr (.inr H3.out))])
        rcases hc10 with hc10 | rfl
        · go_enter Tryz.func71, Tryz.ntmps71
          go_wp2_with fail
          refine (outside_anyI 10 20 w).mono ?_
          rintro e w' ⟨rfl, rfl⟩
          go_wp2_with fail
          refine (outside1_anyI _ 10 20 _ _ _ (by go_cell) (by go_cell)).mono ?_
          rintro e w' ⟨rfl, rfl⟩
          rw [Ho.out]
          go_wp2_with fail
          refine (contains_neg _ W n _ _ hn hl hR2).mono ?_
          rintro e w' ⟨rfl, rfl⟩
          rw [HA.out]
          go_wp2_with fail
          refine (contains_some _ (W.take 6) 6 _ _ (Lib.hid L6.out) (by omega) HR6.out).mono ?_
          rintro e w' ⟨rfl, rfl⟩
          rw [H1.out]
          go_wp2_with fail
          refine (contains_some _ (W.drop 10) (n - 10) _ _ (Lib.hid L10.out) (by omega) HR10.out).mono ?_
          rintro e w' ⟨rfl, rfl⟩
          rw [H2.out]
          go_wp2_with fail
          refine (contains_some _ (castL W) 4 _ _ (Lib.hid L4.out) (by omega) HR4.out).mono ?_
          rintro e w' ⟨rfl, rfl⟩
          rw [H3.out]
          go_wp2
          go_ret
          exact ⟨by rw [E.out]; rfl, hb⟩
        · go_enter Tryz.func71, Tryz.ntmps71
          go_wp2_with fail
          refine (outside_anyI 10 20 w).mono ?_
          rintro e w' ⟨rfl, rfl⟩
          go_wp2_with fail
          refine (outside1_anyI _ 10 20 _ _ _ (by go_cell) (by go_cell)).mono ?_
          rintro e w' ⟨rfl, rfl⟩
          rw [Ho.out]
          go_wp2_with fail
          refine (contains_neg _ W n _ _ hn hl hR2).mono ?_
          rintro e w' ⟨rfl, rfl⟩
          rw [HA.out]
          go_wp2_with fail
          refine (contains_some _ (W.take 6) 6 _ _ (Lib.hid L6.out) (by omega) HR6.out).mono ?_
          rintro e w' ⟨rfl, rfl⟩
          rw [H1.out]
          go_wp2_with fail
          refine (contains_some _ (W.drop 10) 0 _ _ (Lib.hid (show (W.drop 10).length = 0 by have := L10.out; omega)) (by omega) (fun k hk => by have := L10.out; omega)).mono ?_
          rintro e w' ⟨rfl, rfl⟩
          rw [H2.out]
          go_wp2_with fail
          refine (contains_some _ (castL W) 4 _ _ (Lib.hid L4.out) (by omega) HR4.out).mono ?_
          rintro e w' ⟨rfl, rfl⟩
          rw [H3.out]
          go_wp2
          go_ret
          exact ⟨by rw [E.out]; rfl, hb⟩
      · have H3 := Lib.hid h3
        clear h3
        rcases hc10 with hc10 | rfl
        · go_enter Tryz.func71, Tryz.ntmps71
          go_wp2_with fail
          refine (outside_anyI 10 20 w).mono ?_
          rintro e w' ⟨rfl, rfl⟩
          go_wp2_with fail
          refine (outside1_anyI _ 10 20 _ _ _ (by go_cell) (by go_cell)).mono ?_
          rintro e w' ⟨rfl, rfl⟩
          rw [Ho.out]
          go_wp2_with fail
          refine (contains_neg _ W n _ _ hn hl hR2).mono ?_
          rintro e w' ⟨rfl, rfl⟩
          rw [HA.out]
          go_wp2_with fail
          refine (contains_some _ (W.take 6) 6 _ _ (Lib.hid L6.out) (by omega) HR6.out).mono ?_
          rintro e w' ⟨rfl, rfl⟩
          rw [H1.out]
          go_wp2_with fail
          refine (contains_some _ (W.drop 10) (n - 10) _ _ (Lib.hid L10.out) (by omega) HR10.out).mono ?_
          rintro e w' ⟨rfl, rfl⟩
          rw [H2.out]
          go_wp2_with fail
          refine (contains_some _ (castL W) 4 _ _ (Lib.hid L4.out) (by omega) HR4.out).mono ?_
          rintro e w' ⟨rfl, rfl⟩
          rw [H3.out]
          go_wp2
          go_loop [5, 36] (fun v i => ∃ k : Nat, k ≤ 4 ∧ i = .int .i64 k ∧ v = .int .i64 (316 - psum (castL W) k) ∧ 0 ≤ psum (castL W) k ∧ psum (castL W) k ≤ 316) (fun _ i => 4 - (intOf i).toNat)
          case atStart => exact ⟨0, by omega, rfl, by rw [psum_zero]; rfl, by rw [psum_zero]; omega, by rw [psum_zero]; omega⟩
          case round =>
            obtain ⟨k, hk, rfl, rfl, hp0, hp1⟩ := hrel
            by_cases hlt : k < 4
            · obtain ⟨_, _, e0, hcell⟩ := HR4.out k (by have := L4.out; omega)
              cases e0
              have hk0 := HP.out k (by have := L4.out; omega)
              have hs1 := psum_succ (xs := castL W) (k := k) (by have := L4.out; omega)
              obtain ⟨v, hv⟩ : ∃ v, nth (castL W) k = v := ⟨_, rfl⟩
              rw [hv] at hcell hk0 hs1
              have HS := Lib.hid hs1
              clear hv hs1
              by_cases hgt : 316 - psum (castL W) k < v
              · have E := Lib.hid (show linesE W = 40 by
                  unfold linesE
                  rw [if_neg E0.out, if_neg (by rw [HA.out]; simp), if_neg (by rw [H1.out, H2.out, H3.out]; simp), if_pos]
                  have h4 := psum_mono HP.out (show k + 1 ≤ (castL W).length by have := L4.out; omega)
                  have := HS.out
                  omega)
                go_wp2
                go_ret
                exact ⟨by rw [E.out]; rfl, hb⟩
              · go_wp2
                go_round
                case rel => exact ⟨k + 1, by omega, by go_num, by rw [HS.out]; go_num, by rw [HS.out]; omega, by rw [HS.out]; omega⟩
                case measure => simp [intOf]; omega
            · obtain rfl : k = 4 := by omega
              have E := Lib.hid (show linesE W = 0 by
                unfold linesE
                rw [if_neg E0.out, if_neg (by rw [HA.out]; simp), if_neg (by rw [H1.out, H2.out, H3.out]; simp), if_neg]
                have := psum_all (castL W)
                rw [L4.out] at this
                omega)
              go_wp2
              go_ret
              exact ⟨by rw [E.out]; rfl, hb⟩
        · go_enter Tryz.func71, Tryz.ntmps71
          go_wp2_with fail
          refine (outside_anyI 10 20 w).mono ?_
          rintro e w' ⟨rfl, rfl⟩
          go_wp2_with fail
          refine (outside1_anyI _ 10 20 _ _ _ (by go_cell) (by go_cell)).mono ?_
          rintro e w' ⟨rfl, rfl⟩
          rw [Ho.out]
          go_wp2_with fail
          refine (contains_neg _ W n _ _ hn hl hR2).mono ?_
          rintro e w' ⟨rfl, rfl⟩
          rw [HA.out]
          go_wp2_with fail
          refine (contains_some _ (W.take 6) 6 _ _ (Lib.hid L6.out) (by omega) HR6.out).mono ?_
          rintro e w' ⟨rfl, rfl⟩
          rw [H1.out]
          go_wp2_with fail
          refine (contains_some _ (W.drop 10) 0 _ _ (Lib.hid (show (W.drop 10).length = 0 by have := L10.out; omega)) (by omega) (fun k hk => by have := L10.out; omega)).mono ?_
          rintro e w' ⟨rfl, rfl⟩
          rw [H2.out]
          go_wp2_with fail
          refine (contains_some _ (castL W) 4 _ _ (Lib.hid L4.out) (by omega) HR4.out).mono ?_
          rintro e w' ⟨rfl, rfl⟩
          rw [H3.out]
          go_wp2
          go_loop [5, 36] (fun v i => ∃ k : Nat, k ≤ 4 ∧ i = .int .i64 k ∧ v = .int .i64 (316 - psum (castL W) k) ∧ 0 ≤ psum (castL W) k ∧ psum (castL W) k ≤ 316) (fun _ i => 4 - (intOf i).toNat)
          case atStart => exact ⟨0, by omega, rfl, by rw [psum_zero]; rfl, by rw [psum_zero]; omega, by rw [psum_zero]; omega⟩
          case round =>
            obtain ⟨k, hk, rfl, rfl, hp0, hp1⟩ := hrel
            by_cases hlt : k < 4
            · obtain ⟨_, _, e0, hcell⟩ := HR4.out k (by have := L4.out; omega)
              cases e0
              have hk0 := HP.out k (by have := L4.out; omega)
              have hs1 := psum_succ (xs := castL W) (k := k) (by have := L4.out; omega)
              obtain ⟨v, hv⟩ : ∃ v, nth (castL W) k = v := ⟨_, rfl⟩
              rw [hv] at hcell hk0 hs1
              have HS := Lib.hid hs1
              clear hv hs1
              by_cases hgt : 316 - psum (castL W) k < v
              · have E := Lib.hid (show linesE W = 40 by
                  unfold linesE
                  rw [if_neg E0.out, if_neg (by rw [HA.out]; simp), if_neg (by rw [H1.out, H2.out, H3.out]; simp), if_pos]
                  have h4 := psum_mono HP.out (show k + 1 ≤ (castL W).length by have := L4.out; omega)
                  have := HS.out
                  omega)
                go_wp2
                go_ret
                exact ⟨by rw [E.out]; rfl, hb⟩
              · go_wp2
                go_round
                case rel => exact ⟨k + 1, by omega, by go_num, by rw [HS.out]; go_num, by rw [HS.out]; omega, by rw [HS.out]; omega⟩
                case measure => simp [intOf]; omega
            · obtain rfl : k = 4 := by omega
              have E := Lib.hid (show linesE W = 0 by
                unfold linesE
                rw [if_neg E0.out, if_neg (by rw [HA.out]; simp), if_neg (by rw [H1.out, H2.out, H3.out]; simp), if_neg]
                have := psum_all (castL W)
                rw [L4.out] at this
                omega)
              go_wp2
              go_ret
              exact ⟨by rw [E.out]; rfl, hb⟩
    · have H2 := Lib.hid h2
      clear h2
      have E := Lib.hid (show linesE W = 2 by unfold linesE; rw [if_neg E0.out, if_neg (by rw [HA.out]; simp), if_pos (.inr (.inl H2.out))])
      rcases hc10 with hc10 | rfl
      · go_enter Tryz.func71, Tryz.ntmps71
        go_wp2_with fail
        refine (outside_anyI 10 20 w).mono ?_
        rintro e w' ⟨rfl, rfl⟩
        go_wp2_with fail
        refine (outside1_anyI _ 10 20 _ _ _ (by go_cell) (by go_cell)).mono ?_
        rintro e w' ⟨rfl, rfl⟩
        rw [Ho.out]
        go_wp2_with fail
        refine (contains_neg _ W n _ _ hn hl hR2).mono ?_
        rintro e w' ⟨rfl, rfl⟩
        rw [HA.out]
        go_wp2_with fail
        refine (contains_some _ (W.take 6) 6 _ _ (Lib.hid L6.out) (by omega) HR6.out).mono ?_
        rintro e w' ⟨rfl, rfl⟩
        rw [H1.out]
        go_wp2_with fail
        refine (contains_some _ (W.drop 10) (n - 10) _ _ (Lib.hid L10.out) (by omega) HR10.out).mono ?_
        rintro e w' ⟨rfl, rfl⟩
        rw [H2.out]
        go_wp2
        go_ret
        exact ⟨by rw [E.out]; rfl, hb⟩
      · go_enter Tryz.func71, Tryz.ntmps71
        go_wp2_with fail
        refine (outside_anyI 10 20 w).mono ?_
        rintro e w' ⟨rfl, rfl⟩
        go_wp2_with fail
        refine (outside1_anyI _ 10 20 _ _ _ (by go_cell) (by go_cell)).mono ?_
        rintro e w' ⟨rfl, rfl⟩
        rw [Ho.out]
        go_wp2_with fail
        refine (contains_neg _ W n _ _ hn hl hR2).mono ?_
        rintro e w' ⟨rfl, rfl⟩
        rw [HA.out]
        go_wp2_with fail
        refine (contains_some _ (W.take 6) 6 _ _ (Lib.hid L6.out) (by omega) HR6.out).mono ?_
        rintro e w' ⟨rfl, rfl⟩
        rw [H1.out]
        go_wp2_with fail
        refine (contains_some _ (W.drop 10) 0 _ _ (Lib.hid (show (W.drop 10).length = 0 by have := L10.out; omega)) (by omega) (fun k hk => by have := L10.out; omega)).mono ?_
        rintro e w' ⟨rfl, rfl⟩
        rw [H2.out]
        go_wp2
        go_ret
        exact ⟨by rw [E.out]; rfl, hb⟩
  · have H1 := Lib.hid h1
    clear h1
    have E := Lib.hid (show linesE W = 2 by unfold linesE; rw [if_neg E0.out, if_neg (by rw [HA.out]; simp), if_pos (.inl H1.out)])
    go_enter Tryz.func71, Tryz.ntmps71
    go_wp2_with fail
    refine (outside_anyI 10 20 w).mono ?_
    rintro e w' ⟨rfl, rfl⟩
    go_wp2_with fail
    refine (outside1_anyI _ 10 20 _ _ _ (by go_cell) (by go_cell)).mono ?_
    rintro e w' ⟨rfl, rfl⟩
    rw [Ho.out]
    go_wp2_with fail
    refine (contains_neg _ W n _ _ hn hl hR2).mono ?_
    rintro e w' ⟨rfl, rfl⟩
    rw [HA.out]
    go_wp2_with fail
    refine (contains_some _ (W.take 6) 6 _ _ (Lib.hid L6.out) (by omega) HR6.out).mono ?_
    rintro e w' ⟨rfl, rfl⟩
    rw [H1.out]
    go_wp2
    go_ret
    exact ⟨by rw [E.out]; rfl, hb⟩

set_option maxRecDepth 100000 in
set_option maxHeartbeats 2000000 in
theorem checkLines_any (p : Option Addr) (W : List Int) (n c : Nat) (w : World) (hn : Hid (W.length = n)) (hl : n ≤ 1000000) (hc : n ≤ c) (hc2 : c ≤ 9223372036854775807) (hR : Reads w p W) :
    Calls Tryz.prog 71 #[.slice p n c] w fun e w' => e = .returned (.int .i64 (linesE W)) ∧ Below w.heap.size w w' := by
  have hb : Below w.heap.size w ((w.alloc (.cells #[.int .i64 10] 3)).alloc (.cells #[.int .i64 20] 3)) := ((Below.refl _ _).alloc (Nat.le_refl _) _).alloc (by simp) _
  have hR2 := hR.below hb (Nat.le_refl _)
  cases ho : outB 10 20 (n : Int)
  · have hn10 : 10 ≤ n ∧ n ≤ 20 := by simp [outB] at ho; omega
    have Ho := Lib.hid ho
    clear ho
    cases ha : anyB negB W
    · exact checkLines_in p W n c w hn hl hc hc2 (by omega) hR Ho (Lib.hid ha) hn10.1 hn10.2
    · have HA := Lib.hid ha
      have E := Lib.hid (show linesE W = 2 by unfold linesE; rw [if_neg (by rw [hn.out, Ho.out]; simp), if_pos ha])
      clear ha
      go_enter Tryz.func71, Tryz.ntmps71
      go_wp2_with fail
      refine (outside_anyI 10 20 w).mono ?_
      rintro e w' ⟨rfl, rfl⟩
      go_wp2_with fail
      refine (outside1_anyI _ 10 20 _ _ _ (by go_cell) (by go_cell)).mono ?_
      rintro e w' ⟨rfl, rfl⟩
      rw [Ho.out]
      go_wp2_with fail
      refine (contains_neg _ W n _ _ hn hl hR2).mono ?_
      rintro e w' ⟨rfl, rfl⟩
      rw [HA.out]
      go_wp2
      go_ret
      exact ⟨by rw [E.out]; rfl, hb⟩
  · have Ho := Lib.hid ho
    have E := Lib.hid (show linesE W = 2 by unfold linesE; rw [if_pos (by rw [hn.out]; exact ho)])
    clear ho
    go_enter Tryz.func71, Tryz.ntmps71
    go_wp2_with fail
    refine (outside_anyI 10 20 w).mono ?_
    rintro e w' ⟨rfl, rfl⟩
    go_wp2_with fail
    refine (outside1_anyI _ 10 20 _ _ _ (by go_cell) (by go_cell)).mono ?_
    rintro e w' ⟨rfl, rfl⟩
    rw [Ho.out]
    go_wp2
    go_ret
    exact ⟨by rw [E.out]; rfl, hb⟩
end Go.Proofs.YtojlopfjhhiilaaGreatDoor
