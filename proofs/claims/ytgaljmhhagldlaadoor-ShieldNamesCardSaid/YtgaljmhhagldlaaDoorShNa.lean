/-
  ShieldNames: the walk of the law.
-/
import Derived.Test.YtgaljmhhagldlaaDoorShFi
namespace Go.Proofs.YtgaljmhhagldlaaDoor
open Go Go.RowKit
set_option linter.unusedVariables false

theorem nameAt_found {s : ByteArray} {n k j : Nat} (h : nameAt s n k = j) (hj : j < k + n) : nameB j = s := by
  induction n generalizing k with
  | zero => simp [nameAt] at h; omega
  | succ n ih =>
    rw [nameAt] at h
    split at h
    · rename_i hq; subst h; exact hq
    · exact ih h (by omega)
theorem parse_self : ∀ i : Fin 16, parseK (nameB i.val) = i.val := by decide +kernel
theorem parse_iff {s : ByteArray} {k : Nat} (hk : k < 16) : nameB k = s ↔ parseK s = k :=
  ⟨fun h => by subst h; exact parse_self ⟨k, hk⟩, fun h => nameAt_found h (by omega)⟩
def wantTo (s : ByteArray) (k : Nat) : Int := if parseK s < k then (parseK s : Int) else 0
def someTo (s : ByteArray) (k : Nat) : Bool := decide (parseK s < k)
theorem want_yes {s : ByteArray} {k : Nat} (h : parseK s = k) : wantTo s (k + 1) = k ∧ someTo s (k + 1) = true := by
  unfold wantTo someTo; rw [if_pos (by omega), h]; simp
theorem want_no {s : ByteArray} {k : Nat} (h : ¬ parseK s = k) : wantTo s (k + 1) = wantTo s k ∧ someTo s (k + 1) = someTo s k := by
  unfold wantTo someTo
  by_cases hq : parseK s < k
  · rw [if_pos hq, if_pos (by omega)]; exact ⟨rfl, by simp [hq]; omega⟩
  · rw [if_neg hq, if_neg (by omega)]; exact ⟨rfl, by simp; omega⟩
/-- Whether a number is one or two marks. -/
def Mk (x : Int) : Prop := x = 1 ∨ x = 2
theorem of_ok {m : List Int} (hl : m.length = 4) (hm : ∀ k, k < 4 → Mk (nth m k)) : ofV m = ofR m ∧ ofE m = 0 ∧ Mks m := by
  obtain ⟨a, b, c, d, rfl⟩ := four hl
  have h0 : a = 1 ∨ a = 2 := hm 0 (by omega)
  have h1 : b = 1 ∨ b = 2 := hm 1 (by omega)
  have h2 : c = 1 ∨ c = 2 := hm 2 (by omega)
  have h3 : d = 1 ∨ d = 2 := hm 3 (by omega)
  refine ⟨?_, ?_, fun k hk => by rcases hm k hk with h | h <;> omega⟩
  · rcases h0 with rfl | rfl <;> rcases h1 with rfl | rfl <;> rcases h2 with rfl | rfl <;> rcases h3 with rfl | rfl <;> decide +kernel
  · rcases h0 with rfl | rfl <;> rcases h1 with rfl | rfl <;> rcases h2 with rfl | rfl <;> rcases h3 with rfl | rfl <;> decide +kernel
theorem of_bad {m : List Int} {k : Nat} (hk : k < m.length) (h : ¬ Mk (nth m k)) : ofV m = 0 ∧ ofE m = 2 := by
  have ha : anyB (outB 1 2) m = true := anyB_true hk (by simp [outB]; unfold Mk at h; omega)
  unfold ofV ofE
  rw [ha]
  exact ⟨rfl, rfl⟩

theorem names_long (s : ByteArray) (m : List Int) (hs : 40 < s.size) (w : World) (hp : Par w) (hn : Nam w) :
    Calls Tryd.prog 4 #[.string s, .agg (arr m)] w fun e w' => e = .returned (.bool true) ∧ Below w.heap.size w w' := by
  have hB0 : Below w.heap.size w (w.alloc (.cells (arr m) 27)) := (Below.refl _ _).alloc (Nat.le_refl _) _
  go_enter Tryd.func4, Tryd.ntmps4
  go_wp2_with fail
  refine (known_any _ (hp.below hB0 (Nat.le_refl _)) (hn.below hB0 (Nat.le_refl _))).mono ?_
  rintro e w1 ⟨rfl, hb⟩
  go_wp2
  go_ret
  exact ⟨rfl, tr hB0 hb⟩

set_option maxRecDepth 100000 in
set_option maxHeartbeats 32000000 in
theorem names_go (s : ByteArray) (m0 m1 m2 m3 : Int) (hs : s.size ≤ 40) (w : World) (hp : Par w) (hn : Nam w) (pv pe : Int) (sm : Bool) (wn : Int)
    (HP1 : Hid (parseV s = pv)) (HP2 : Hid (parseE s = pe)) (HS : Hid (someTo s 16 = sm)) (HW : Hid (wantTo s 16 = wn)) (hfit : (sm = true ∧ pv = wn ∧ pe = 0) ∨ (sm = false ∧ pv = 0 ∧ pe = 4)) :
    Calls Tryd.prog 4 #[.string s, .agg (arr [m0, m1, m2, m3])] w fun e w' => e = .returned (.bool true) ∧ Below w.heap.size w w' := by
  have hB0 : Below w.heap.size w (w.alloc (.cells (arr [m0, m1, m2, m3]) 27)) := (Below.refl _ _).alloc (Nat.le_refl _) _
  have HM := Lib.hid (Blk.new w 27 (arr [m0, m1, m2, m3]))
  have Hfit := Lib.hid hfit
  clear hfit
  go_enter Tryd.func4, Tryd.ntmps4
  go_wp2_with fail
  refine (parse_any s _ (hn.below hB0 (Nat.le_refl _))).mono ?_
  rintro e w1 ⟨rfl, rfl⟩
  rw [HP1.out, HP2.out]
  go_wp2_with (refine wpList_load_row rfl 27 (.tmp 3) rfl w.heap.size rfl 27 (arr [m0, m1, m2, m3]) (0, 0) _ HM.out Tryd.underlying27 rfl info_marks ?_)
  refine (of_any m0 m1 m2 m3 _).mono ?_
  rintro e w2 ⟨rfl, hb1⟩
  have HM1 := Lib.hid (HM.out.below hb1 (by simp))
  have hc1 := tr hB0 hb1
  have hs2 := HM1.out.lt
  clear hB0 hb1 HM
  go_wp2
  go_loopw [9, 10, 11] (fun a b i wr => ∃ k : Nat, k ≤ 16 ∧ i = .int .i64 k ∧ a = .int .i64 (wantTo s k) ∧ b = .bool (someTo s k) ∧ Below w2.heap.size w2 wr) (fun _ _ i _ => 16 - (intOf i).toNat)
  case atStart => exact ⟨0, by omega, rfl, by unfold wantTo; rw [if_neg (by omega)], by simp [someTo], Below.refl _ _⟩
  case round =>
    obtain ⟨k, hk, rfl, rfl, rfl, hB⟩ := hrel
    by_cases hlt : k < 16
    · by_cases hq : parseK s = k
      · have eq : ((nameB k).toList == s.toList) = true := by rw [bytes_eq]; simp [(parse_iff hlt).2 hq]
        have HQ := Lib.hid (want_yes hq)
        clear hq
        go_wp2_with (go_at_call 23; refine (refNames_c _).mono ?_; rintro e w7 ⟨rfl, hx, hb7⟩; have hcn := hx k hlt; clear hx)
        go_roundw
        case rel => exact ⟨k + 1, by omega, by go_num, by rw [HQ.out.1], by rw [HQ.out.2], tr hB hb7⟩
        case measure => simp [intOf]; omega
      · have eq : ((nameB k).toList == s.toList) = false := by
          have : ¬ nameB k = s := fun h => hq ((parse_iff hlt).1 h)
          rw [bytes_eq]; simp [this]
        have HQ := Lib.hid (want_no hq)
        clear hq
        go_wp2_with (go_at_call 23; refine (refNames_c _).mono ?_; rintro e w7 ⟨rfl, hx, hb7⟩; have hcn := hx k hlt; clear hx)
        go_roundw
        case rel => exact ⟨k + 1, by omega, by go_num, by rw [HQ.out.1], by rw [HQ.out.2], tr hB hb7⟩
        case measure => simp [intOf]; omega
    · obtain rfl : k = 16 := by omega
      rw [HS.out, HW.out]
      have hc2 := tr hc1 hB
      have HM2 := Lib.hid (HM1.out.below hB hs2)
      rcases Hfit.out with ⟨rfl, rfl, rfl⟩ | ⟨rfl, rfl, rfl⟩
      all_goals
        go_wp2
        go_loop [12] (fun i => ∃ j : Nat, j ≤ 4 ∧ i = .int .i64 j ∧ Hid (∀ t, t < j → Mk (nth [m0, m1, m2, m3] t))) (fun i => 4 - (intOf i).toNat)
        case atStart => exact ⟨0, by omega, rfl, fun t ht => by omega⟩
        case round =>
          obtain ⟨j, hj, rfl, HJ⟩ := hrel
          by_cases hlj : j < 4
          · have hcj : wr.cell? ⟨w.heap.size, j, none⟩ = some (.int .i64 (nth [m0, m1, m2, m3] j)) := by rw [HM2.out.cell j, arr_get (by simpa using hlj)]
            by_cases h1 : nth [m0, m1, m2, m3] j = 1
            · have e1 : (nth [m0, m1, m2, m3] j != 1) = false := by simp [h1]
              have H1 := Lib.hid h1
              clear h1
              go_wp2
              go_round
              case rel => exact ⟨j + 1, by omega, by go_num, fun t ht => by by_cases e : t = j; exact e ▸ .inl H1.out; exact HJ.out t (by omega)⟩
              case measure => simp [intOf]; omega
            · have e1 : (nth [m0, m1, m2, m3] j != 1) = true := by simp [h1]
              by_cases h2 : nth [m0, m1, m2, m3] j = 2
              · have e2 : (nth [m0, m1, m2, m3] j != 2) = false := by simp [h2]
                have H2 := Lib.hid h2
                clear h1 h2
                go_wp2
                go_round
                case rel => exact ⟨j + 1, by omega, by go_num, fun t ht => by by_cases e : t = j; exact e ▸ .inr H2.out; exact HJ.out t (by omega)⟩
                case measure => simp [intOf]; omega
              · have e2 : (nth [m0, m1, m2, m3] j != 2) = true := by simp [h2]
                have hbad := of_bad (m := [m0, m1, m2, m3]) (by simpa using hlj) (fun h => h.elim h1 h2)
                have g1 : ofV [m0, m1, m2, m3] = 0 := hbad.1
                have g2 : ofE [m0, m1, m2, m3] = 2 := hbad.2
                clear h1 h2 hbad
                go_wp2_with (go_at_call 22; refine (known_any _ (hp.below hc2 (Nat.le_refl _)) (hn.below hc2 (Nat.le_refl _))).mono ?_; rintro e w8 ⟨rfl, hbz⟩)
                go_ret
                exact ⟨rfl, tr hc2 hbz⟩
          · obtain rfl : j = 4 := by omega
            have hok := of_ok (m := [m0, m1, m2, m3]) rfl HJ.out
            have g1 : ofV [m0, m1, m2, m3] = ofR [m0, m1, m2, m3] := hok.1
            have g2 : ofE [m0, m1, m2, m3] = 0 := hok.2.1
            have hmk := hok.2.2
            clear hok
            go_wp2_with (refine wpList_load_row rfl 27 (.tmp 3) rfl w.heap.size rfl 27 (arr [m0, m1, m2, m3]) (0, 0) _ HM2.out Tryd.underlying27 rfl info_marks ?_)
            refine (refOf_any [m0, m1, m2, m3] (Lib.hid rfl) hmk _).mono ?_
            rintro e wa ⟨rfl, hwa⟩
            have hc3 : Below w.heap.size w wa := hwa ▸ hc2.alloc hc2.size _
            clear hwa
            go_wp2_with (go_at_call 22; refine (known_any _ (hp.below hc3 (Nat.le_refl _)) (hn.below hc3 (Nat.le_refl _))).mono ?_; rintro e w8 ⟨rfl, hbz⟩)
            go_ret
            exact ⟨rfl, tr hc3 hbz⟩
theorem names_any (s : ByteArray) (m : List Int) (hl : m.length = 4) (w : World) (hp : Par w) (hn : Nam w) :
    Calls Tryd.prog 4 #[.string s, .agg (arr m)] w fun e w' => e = .returned (.bool true) ∧ Below w.heap.size w w' := by
  by_cases hs : 40 < s.size
  · exact names_long s m hs w hp hn
  · obtain ⟨a, b, c, d, rfl⟩ := four hl
    refine names_go s a b c d (by omega) w hp hn _ _ _ _ (Lib.hid rfl) (Lib.hid rfl) (Lib.hid rfl) (Lib.hid rfl) ?_
    unfold someTo wantTo parseV parseE
    by_cases h : parseK s < 16
    · left; simp [h]
    · right; simp [h]
end Go.Proofs.YtgaljmhhagldlaaDoor
