/-
  ShieldShares: the walk of the law.
-/
import Derived.Test.YtjhjgkocoghgfaaDoorShSb
import Derived.Test.YtjhjgkocoghgfaaDoorShS
import Derived.Test.YtjhjgkocoghgfaaDoorShCu
import Derived.Test.YtjhjgkocoghgfaaDoorShF
namespace Go.Proofs.YtjhjgkocoghgfaaDoor
open Go Go.RowKit
set_option linter.unusedVariables false

def arr16 (xs : List Int) : Array Value := (xs.map (Value.int .u16)).toArray
theorem arr16_get {xs : List Int} {k : Nat} (h : k < xs.length) : (arr16 xs)[k]? = some (.int .u16 (nth xs k)) := by simp [arr16, nth_eq h, h]
/-- The first i of a list, and 0 behind. -/
def askTo (zs : List Int) (i : Nat) : List Int := (List.range 16).map fun j => if j < i then nth zs j else 0
theorem askTo_len (zs : List Int) (i : Nat) : (askTo zs i).length = 16 := by simp [askTo]
theorem askTo_zero (zs : List Int) : askTo zs 0 = List.replicate 16 0 := by
  unfold askTo
  apply List.ext_getElem
  · simp
  · intro i h1 h2
    rw [List.getElem_map, if_neg (by omega), List.getElem_replicate]
theorem askTo_all {zs : List Int} (h : zs.length = 16) : askTo zs 16 = zs := by
  unfold askTo
  apply List.ext_getElem
  · simp [h]
  · intro i h1 h2
    rw [List.getElem_map, List.getElem_range, if_pos (by omega), nth_eq (by omega)]
theorem askTo_succ (zs : List Int) {i : Nat} (hi : i < 16) : (askTo zs i).set i (nth zs i) = askTo zs (i + 1) := by
  unfold askTo
  apply List.ext_getElem
  · simp
  · intro j h1 h2
    rw [List.getElem_set]
    by_cases e : i = j
    · subst e; simp
    · rw [if_neg e]
      simp only [List.getElem_map, List.getElem_range]
      by_cases h : j < i
      · rw [if_pos h, if_pos (by omega)]
      · rw [if_neg h, if_neg (by omega)]
theorem ask_rep : askTo (List.replicate 16 65535) 16 = List.replicate 16 65535 := askTo_all (by simp)
theorem nth_rep {i : Nat} (hi : i < 16) : nth (List.replicate 16 (65535 : Int)) i = 65535 := by
  rw [nth_eq (by simpa using hi)]
  exact List.getElem_replicate ..
theorem in_sets {S : List Int} (hS : S.length = 16) (h : ∀ k, k < 16 → 0 ≤ nth S k ∧ nth S k ≤ 65535) : anyB (outB 0 65535) S = false :=
  anyB_false fun k hk => by have := h k (by omega); simp [outB]; exact this
theorem set_in {S : List Int} (hS : S.length = 16) (h : ∀ k, k < 16 → 0 ≤ nth S k ∧ nth S k ≤ 65535) {a : Nat} (ha : a < 16) {v : Int} (h0 : 0 ≤ v) (h1 : v ≤ 65535) : anyB (outB 0 65535) (S.set a v) = false :=
  in_sets (by simpa using hS) fun k hk => by
    rw [nth_set (by omega)]
    split
    · exact ⟨h0, h1⟩
    · exact h k hk
theorem count_ok (S : List Int) (hS : S.length = 16) (h : anyB (outB 0 65535) S = false) (w : World) (hp : Par w) :
    Calls Tryd.prog 14 #[.agg (arr S)] w fun e w' => e = .returned (.tuple #[.int .i64 (cntN S (upto id 65536)), .agg (arr (cntF S (upto id 65536))), .int .i64 0]) ∧ Below w.heap.size w w' := by
  have := count_any S hS w hp
  rw [h] at this
  exact this

def curV : Nat → Int
  | 0 => 65535 | 1 => 15 | 2 => 240 | 3 => 3840 | _ => 61440
def sumQ (zs : List Int) (a : Nat) : Nat → Nat
  | 0 => 0
  | r + 1 => sumQ zs a r + cntN (zs.set a (curV (r + 1))) (upto id 65536)
theorem sumQ_le (zs : List Int) (a r : Nat) : sumQ zs a r ≤ 65536 * r := by
  induction r with
  | zero => exact Nat.le_refl _
  | succ r ih =>
    have := cntN_le (zs.set a (curV (r + 1))) (upto id 65536)
    rw [upto_length] at this
    unfold sumQ
    omega
set_option maxRecDepth 100000 in
set_option maxHeartbeats 40000000 in
theorem shares_law (pl jd : Int) (p0 : 0 ≤ pl) (p1 : pl ≤ 255) (j0 : 0 ≤ jd) (j1 : jd ≤ 255) (zs : List Int) (hz : zs.length = 16) (hv : ∀ k, k < 16 → 0 ≤ nth zs k ∧ nth zs k ≤ 65535) (w : World) (hp : Par w) (hn : Nam w) :
    Calls Tryd.prog 6 #[.int .u8 pl, .int .u8 jd, .agg (arr16 zs)] w fun e w' => e = .returned (.bool true) ∧ Below w.heap.size w w' := by
  obtain ⟨a, ha⟩ : ∃ a : Nat, pl % 16 = (a : Int) := ⟨(pl % 16).toNat, by omega⟩
  have ha16 : a < 16 := by omega
  have HZ := Lib.hid hz
  have HV := Lib.hid hv
  have HB := Lib.hid (show Blk ((w.alloc (.cells (arr16 zs) 58)).alloc (.cells (arr (List.replicate 16 0)) 39)) w.heap.size 58 (arr16 zs) from (Blk.new _ _ _).alloc _)
  have HA := Lib.hid (show Blk ((w.alloc (.cells (arr16 zs) 58)).alloc (.cells (arr (List.replicate 16 0)) 39)) (w.heap.size + 1) 39 (arr (askTo zs 0)) from by rw [askTo_zero]; exact newAt (by simp))
  have hb0 : Below w.heap.size w ((w.alloc (.cells (arr16 zs) 58)).alloc (.cells (arr (List.replicate 16 0)) 39)) := ((Below.refl _ _).alloc (Nat.le_refl _) _).alloc (by simp) _
  clear hz hv
  go_enter Tryd.func6, Tryd.ntmps6
  go_wp2_with fail
  obtain ⟨W, hW⟩ : ∃ W, (w.alloc (.cells (arr16 zs) 58)).alloc (.cells (arr (List.replicate 16 0)) 39) = W := ⟨_, rfl⟩
  rw [hW] at HB HA hb0
  have e0 : (w.alloc (.cells (arr16 zs) 58)).alloc (.cells #[.int .i64 0, .int .i64 0, .int .i64 0, .int .i64 0, .int .i64 0, .int .i64 0, .int .i64 0, .int .i64 0, .int .i64 0, .int .i64 0, .int .i64 0, .int .i64 0, .int .i64 0, .int .i64 0, .int .i64 0, .int .i64 0] 39) = W := hW
  rw [e0]
  clear hW e0
  have hsW := HA.out.lt
  go_loopw [8] (fun v wr => ∃ i : Nat, i ≤ 16 ∧ v = .int .i64 i ∧ Hid (Blk wr (w.heap.size + 1) 39 (arr (askTo zs i))) ∧ Below (w.heap.size + 1) W wr) (fun v _ => 16 - (intOf v).toNat)
  case atStart => exact ⟨0, by omega, rfl, HA, Below.refl _ _⟩
  case round =>
    obtain ⟨i, hi, rfl, HAi, hBi⟩ := hrel
    clear HA
    by_cases hlt : i < 16
    · have HBi := Lib.hid (HB.out.below hBi (by omega))
      have c1 : wr.cell? ⟨w.heap.size, i, none⟩ = some (.int .u16 (nth zs i)) := by rw [HBi.out.cell i, arr16_get (by rw [HZ.out]; exact hlt)]
      have c2 : wr.cell? ⟨w.heap.size + 1, i, none⟩ = some (.int .i64 (nth (askTo zs i) i)) := by rw [HAi.out.cell i, arr_get (by rw [askTo_len]; exact hlt)]
      have f2 := HAi.out.frozen i
      obtain ⟨z0, z1⟩ := HV.out i hlt
      have HS := Lib.hid (show Blk (wr.setCell ⟨w.heap.size + 1, i, none⟩ (.int .i64 (nth zs i))) (w.heap.size + 1) 39 (arr (askTo zs (i + 1))) from by
        have := HAi.out.set_ i (.int .i64 (nth zs i))
        rw [arr_set, askTo_succ zs hlt] at this
        exact this)
      obtain ⟨x, hx⟩ : ∃ x, nth zs i = x := ⟨_, rfl⟩
      obtain ⟨y, hy⟩ : ∃ y, nth (askTo zs i) i = y := ⟨_, rfl⟩
      rw [hx] at c1 z0 z1 HS
      rw [hy] at c2
      clear hx hy
      go_wp2_with fail
      go_roundw
      case rel => exact ⟨i + 1, by omega, by go_num, HS, hBi.setCell (by simp) _⟩
      case measure => simp [intOf]; omega
    · obtain rfl : i = 16 := by omega
      have HA1 : Hid (Blk wr (w.heap.size + 1) 39 (arr zs)) := by have := HAi.out; rw [askTo_all HZ.out] at this; exact this
      have hB1 : Below w.heap.size w wr := hb0.trans (hBi.mono (by omega))
      have hs1 := HA1.out.lt
      obtain ⟨U0, hU0⟩ : ∃ U0, wr = U0 := ⟨_, rfl⟩
      subst hU0
      clear HAi hBi HB hb0 hsW
      have c2 : wr.cell? ⟨w.heap.size + 1, a, none⟩ = some (.int .i64 (nth zs a)) := by rw [HA1.out.cell a, arr_get (by rw [HZ.out]; exact ha16)]
      have f2 := HA1.out.frozen a
      have HA2 := Lib.hid (show Blk (wr.setCell ⟨w.heap.size + 1, a, none⟩ (.int .i64 65535)) (w.heap.size + 1) 39 (arr (zs.set a 65535)) from by
        have := HA1.out.set_ a (.int .i64 65535)
        rw [arr_set] at this
        exact this)
      have hB2 : Below w.heap.size w (wr.setCell ⟨w.heap.size + 1, a, none⟩ (.int .i64 65535)) := hB1.setCell (p := ⟨w.heap.size + 1, a, none⟩) (by simp) _
      have HI1 := Lib.hid (show (Tryd.prog.info? 39).map (·.size) = some (arr (zs.set a 65535)).size by rw [arr_size, List.length_set, HZ.out]; exact info_sets)
      have C1 := Lib.hid (fun W hW => count_ok (zs.set a 65535) (by rw [List.length_set]; exact HZ.out) (set_in HZ.out HV.out ha16 (by omega) (by omega)) W hW)
      obtain ⟨V, hV⟩ : ∃ V, wr.setCell ⟨w.heap.size + 1, a, none⟩ (.int .i64 65535) = V := ⟨_, rfl⟩
      rw [hV] at HA2 hB2
      have EV := Lib.hid hV
      clear hV hB1 HA1
      go_wp2_with (refine wpList_load_row rfl 39 (.tmp 7) rfl (w.heap.size + 1) rfl 39 (arr (zs.set a 65535)) (0, 0) _ (by rw [EV.out]; exact HA2.out) Tryd.underlying39 rfl HI1.out ?_; rw [EV.out])
      refine (C1.out _ (hp.below hB2 (Nat.le_refl _))).mono ?_
      rintro e w2 ⟨rfl, hb2⟩
      have HA3 := Lib.hid (HA2.out.below hb2 HA2.out.lt)
      have hB3 := tr hB2 hb2
      have hs2 := HA3.out.lt
      have hle := cntN_le (zs.set a 65535) (upto id 65536)
      rw [upto_length] at hle
      have HSUM := Lib.hid (show sumQ zs a 4 = cntN (zs.set a 65535) (upto id 65536) from by rw [← cnt_sum (S := zs) HZ.out ha16 (upto id 65536)]; simp only [sumQ, curV]; omega)
      have hfst := cnt_first (S := zs.set a 65535) (k := 65536)
      obtain ⟨f0, f1, f2', f3, hF⟩ := four_of (cntF_len (zs.set a 65535) (upto id 65536))
      obtain ⟨N, hN⟩ : ∃ N, cntN (zs.set a 65535) (upto id 65536) = N := ⟨_, rfl⟩
      rw [hF, hN] at hfst
      rw [hN] at hle HSUM ⊢
      rw [hF]
      have HFST := Lib.hid hfst
      clear hF hN hfst HA2 hB2 hb2 EV C1 hs1 c2 f2
      have HN := Lib.hid (Blk.new w2 41 (arr [0, 0, 0, 0]))
      have HA4 := Lib.hid (show Blk ((w2.alloc (.cells (arr [0, 0, 0, 0]) 41)).setRow w2.heap.size (arr [f0, f1, f2', f3])) (w.heap.size + 1) 39 (arr (zs.set a 65535)) from (HA3.out.alloc _).below (below_setRow (Below.refl w2.heap.size _) (Nat.le_refl _) _) hs2)
      have HF4 := Lib.hid (show Blk ((w2.alloc (.cells (arr [0, 0, 0, 0]) 41)).setRow w2.heap.size (arr [f0, f1, f2', f3])) w2.heap.size 41 (arr [f0, f1, f2', f3]) from HN.out.row _)
      have hB4 : Below w.heap.size w ((w2.alloc (.cells (arr [0, 0, 0, 0]) 41)).setRow w2.heap.size (arr [f0, f1, f2', f3])) := below_setRow (hB3.alloc hB3.size _) hB3.size _
      obtain ⟨U, hU⟩ : ∃ U, (w2.alloc (.cells (arr [0, 0, 0, 0]) 41)).setRow w2.heap.size (arr [f0, f1, f2', f3]) = U := ⟨_, rfl⟩
      rw [hU] at HA4 HF4 hB4
      have e0 : (w2.alloc (.cells #[.int .i64 0, .int .i64 0, .int .i64 0, .int .i64 0] 41)).setRow w2.heap.size (arr [f0, f1, f2', f3]) = U := hU
      have E0 := Lib.hid e0
      clear hU e0 HA3 hB3
      have y1 : decide ((N : Int) < 0) = false := by simp
      have y2 : decide ((65536 : Int) < (N : Int)) = false := by simp; omega
      have HLE := Lib.hid hle
      clear hle
      by_cases hN0 : N = 0
      · have y3 : decide ((0 : Int) < (N : Int)) = false := by simp; omega
        have hn0 : ¬ 0 < N := by omega
        clear hN0
        go_wp2_with (refine wpList_store_row rfl 41 (.tmp 11) (.tmp 47) rfl w2.heap.size (arr [f0, f1, f2', f3]) rfl rfl 41 _ HN.out info_moth rfl (arr_one _) ?_; rw [E0.out])
        obtain ⟨Z, hZZ⟩ : ∃ Z, U = Z := ⟨_, rfl⟩
        have HZA := HA4
        have hBZ := hB4
        have HN0x := HFST
        rw [hZZ] at HZA hBZ ⊢
        clear hZZ HA4 hB4 HF4 HN E0 HFST y1 y2 y3 hn0
        clear HN0x
        go_loopw [16, 17] (fun s f wr => ∃ r : Nat, r ≤ 4 ∧ f = .int .i64 (4 * (r : Int)) ∧ s = .int .i64 (sumQ zs a r) ∧ Hid (Blk wr (w.heap.size + 1) 39 (arr (zs.set a (curV r)))) ∧ Below w.heap.size w wr) (fun _ f _ => 16 - (intOf f).toNat)
        case atStart => exact ⟨0, by omega, rfl, rfl, HZA, hBZ⟩
        case round =>
          obtain ⟨r, hr, rfl, rfl, HAr, hBr⟩ := hrel
          clear HZA hBZ
          have hr5 : r = 0 ∨ r = 1 ∨ r = 2 ∨ r = 3 ∨ r = 4 := by omega
          rcases hr5 with rfl | rfl | rfl | rfl | rfl
          · rw [show (4 * ((0 : Nat) : Int)) = 0 from rfl]
            have c2 : wr.cell? ⟨w.heap.size + 1, a, none⟩ = some (.int .i64 (nth (zs.set a (curV 0)) a)) := by rw [HAr.out.cell a, arr_get (by rw [List.length_set, HZ.out]; exact ha16)]
            have f2 := HAr.out.frozen a
            have HA7 := Lib.hid (show Blk (wr.setCell ⟨w.heap.size + 1, a, none⟩ (.int .i64 15)) (w.heap.size + 1) 39 (arr (zs.set a 15)) from by
              have := HAr.out.set_ a (.int .i64 15)
              rw [arr_set, List.set_set] at this
              exact this)
            have hB7 : Below w.heap.size w (wr.setCell ⟨w.heap.size + 1, a, none⟩ (.int .i64 15)) := hBr.setCell (p := ⟨w.heap.size + 1, a, none⟩) (by simp) _
            have HI7 := Lib.hid (show (Tryd.prog.info? 39).map (·.size) = some (arr (zs.set a 15)).size by rw [arr_size, List.length_set, HZ.out]; exact info_sets)
            have C7 := Lib.hid (fun W hW => count_ok (zs.set a 15) (by rw [List.length_set]; exact HZ.out) (set_in HZ.out HV.out ha16 (by omega) (by omega)) W hW)
            have ES := Lib.hid (show sumQ zs a (0 + 1) = sumQ zs a 0 + cntN (zs.set a 15) (upto id 65536) from rfl)
            have hl7 := cntF_len (zs.set a 15) (upto id 65536)
            have hn7 := cntN_le (zs.set a 15) (upto id 65536)
            rw [upto_length] at hn7
            obtain ⟨G, hG⟩ : ∃ G, cntF (zs.set a 15) (upto id 65536) = G := ⟨_, rfl⟩
            obtain ⟨M, hM⟩ : ∃ M, cntN (zs.set a 15) (upto id 65536) = M := ⟨_, rfl⟩
            have hs7 := sumQ_le zs a 0
            obtain ⟨Q, hQ⟩ : ∃ Q, sumQ zs a 0 = Q := ⟨_, rfl⟩
            rw [hG, hM] at C7
            rw [hM] at hn7
            rw [hG] at hl7
            rw [hM, hQ] at ES
            rw [hQ] at hs7 ⊢
            obtain ⟨X, hX⟩ : ∃ X, nth (zs.set a (curV 0)) a = X := ⟨_, rfl⟩
            rw [hX] at c2
            have HGi := Lib.hid (show (Tryd.prog.info? 41).map (·.size) = some (arr G).size by rw [arr_size, hl7]; exact info_moth)
            have HGo := Lib.hid (show (arr [0, 0, 0, 0]).size = (arr G).size by rw [arr_size, arr_size, hl7]; rfl)
            obtain ⟨V, hV⟩ : ∃ V, wr.setCell ⟨w.heap.size + 1, a, none⟩ (.int .i64 15) = V := ⟨_, rfl⟩
            rw [hV] at HA7 hB7
            have EV := Lib.hid hV
            clear hV hX hQ hG hM hl7 hBr
            go_wp2_with (refine wpList_load_row rfl 39 (.tmp 7) rfl (w.heap.size + 1) rfl 39 (arr (zs.set a 15)) (0, 0) _ (by rw [EV.out]; exact HA7.out) Tryd.underlying39 rfl HI7.out ?_; rw [EV.out])
            refine (C7.out _ (hp.below hB7 (Nat.le_refl _))).mono ?_
            rintro e w7 ⟨rfl, hb7⟩
            have HA8 := Lib.hid (HA7.out.below hb7 HA7.out.lt)
            have hB8 := tr hB7 hb7
            have hs8 := HA8.out.lt
            clear hb7 HA7 hB7 C7 EV c2 f2 HAr
            have HN7 := Lib.hid (Blk.new w7 41 (arr [0, 0, 0, 0]))
            have HA9 := Lib.hid (show Blk ((w7.alloc (.cells (arr [0, 0, 0, 0]) 41)).setRow w7.heap.size (arr G)) (w.heap.size + 1) 39 (arr (zs.set a 15)) from (HA8.out.alloc _).below (below_setRow (Below.refl w7.heap.size _) (Nat.le_refl _) _) hs8)
            have hB9 : Below w.heap.size w ((w7.alloc (.cells (arr [0, 0, 0, 0]) 41)).setRow w7.heap.size (arr G)) := below_setRow (hB8.alloc hB8.size _) hB8.size _
            obtain ⟨U9, hU⟩ : ∃ U, (w7.alloc (.cells (arr [0, 0, 0, 0]) 41)).setRow w7.heap.size (arr G) = U := ⟨_, rfl⟩
            rw [hU] at HA9 hB9
            have e0 : (w7.alloc (.cells #[.int .i64 0, .int .i64 0, .int .i64 0, .int .i64 0] 41)).setRow w7.heap.size (arr G) = U9 := hU
            have E9 := Lib.hid e0
            have hw9 : IntKind.i64.wrap ((Q : Int) + (M : Int)) = (Q : Int) + (M : Int) := wraps_i64_62 _ (by omega) (by omega)
            clear hU e0 HA8 hB8
            go_wp2_with (refine wpList_store_row rfl 41 (.tmp 19) (.tmp 107) rfl w7.heap.size (arr G) rfl rfl 41 _ HN7.out HGi.out HGo.out (arr_one _) ?_; rw [E9.out])
            go_roundw
            case rel => exact ⟨0 + 1, by omega, by go_num, by rw [ES.out]; go_num, HA9, hB9⟩
            case measure => simp [intOf]
          · rw [show (4 * ((1 : Nat) : Int)) = 4 from rfl]
            have c2 : wr.cell? ⟨w.heap.size + 1, a, none⟩ = some (.int .i64 (nth (zs.set a (curV 1)) a)) := by rw [HAr.out.cell a, arr_get (by rw [List.length_set, HZ.out]; exact ha16)]
            have f2 := HAr.out.frozen a
            have HA7 := Lib.hid (show Blk (wr.setCell ⟨w.heap.size + 1, a, none⟩ (.int .i64 240)) (w.heap.size + 1) 39 (arr (zs.set a 240)) from by
              have := HAr.out.set_ a (.int .i64 240)
              rw [arr_set, List.set_set] at this
              exact this)
            have hB7 : Below w.heap.size w (wr.setCell ⟨w.heap.size + 1, a, none⟩ (.int .i64 240)) := hBr.setCell (p := ⟨w.heap.size + 1, a, none⟩) (by simp) _
            have HI7 := Lib.hid (show (Tryd.prog.info? 39).map (·.size) = some (arr (zs.set a 240)).size by rw [arr_size, List.length_set, HZ.out]; exact info_sets)
            have C7 := Lib.hid (fun W hW => count_ok (zs.set a 240) (by rw [List.length_set]; exact HZ.out) (set_in HZ.out HV.out ha16 (by omega) (by omega)) W hW)
            have ES := Lib.hid (show sumQ zs a (1 + 1) = sumQ zs a 1 + cntN (zs.set a 240) (upto id 65536) from rfl)
            have hl7 := cntF_len (zs.set a 240) (upto id 65536)
            have hn7 := cntN_le (zs.set a 240) (upto id 65536)
            rw [upto_length] at hn7
            obtain ⟨G, hG⟩ : ∃ G, cntF (zs.set a 240) (upto id 65536) = G := ⟨_, rfl⟩
            obtain ⟨M, hM⟩ : ∃ M, cntN (zs.set a 240) (upto id 65536) = M := ⟨_, rfl⟩
            have hs7 := sumQ_le zs a 1
            obtain ⟨Q, hQ⟩ : ∃ Q, sumQ zs a 1 = Q := ⟨_, rfl⟩
            rw [hG, hM] at C7
            rw [hM] at hn7
            rw [hG] at hl7
            rw [hM, hQ] at ES
            rw [hQ] at hs7 ⊢
            obtain ⟨X, hX⟩ : ∃ X, nth (zs.set a (curV 1)) a = X := ⟨_, rfl⟩
            rw [hX] at c2
            have HGi := Lib.hid (show (Tryd.prog.info? 41).map (·.size) = some (arr G).size by rw [arr_size, hl7]; exact info_moth)
            have HGo := Lib.hid (show (arr [0, 0, 0, 0]).size = (arr G).size by rw [arr_size, arr_size, hl7]; rfl)
            obtain ⟨V, hV⟩ : ∃ V, wr.setCell ⟨w.heap.size + 1, a, none⟩ (.int .i64 240) = V := ⟨_, rfl⟩
            rw [hV] at HA7 hB7
            have EV := Lib.hid hV
            clear hV hX hQ hG hM hl7 hBr
            go_wp2_with (refine wpList_load_row rfl 39 (.tmp 7) rfl (w.heap.size + 1) rfl 39 (arr (zs.set a 240)) (0, 0) _ (by rw [EV.out]; exact HA7.out) Tryd.underlying39 rfl HI7.out ?_; rw [EV.out])
            refine (C7.out _ (hp.below hB7 (Nat.le_refl _))).mono ?_
            rintro e w7 ⟨rfl, hb7⟩
            have HA8 := Lib.hid (HA7.out.below hb7 HA7.out.lt)
            have hB8 := tr hB7 hb7
            have hs8 := HA8.out.lt
            clear hb7 HA7 hB7 C7 EV c2 f2 HAr
            have HN7 := Lib.hid (Blk.new w7 41 (arr [0, 0, 0, 0]))
            have HA9 := Lib.hid (show Blk ((w7.alloc (.cells (arr [0, 0, 0, 0]) 41)).setRow w7.heap.size (arr G)) (w.heap.size + 1) 39 (arr (zs.set a 240)) from (HA8.out.alloc _).below (below_setRow (Below.refl w7.heap.size _) (Nat.le_refl _) _) hs8)
            have hB9 : Below w.heap.size w ((w7.alloc (.cells (arr [0, 0, 0, 0]) 41)).setRow w7.heap.size (arr G)) := below_setRow (hB8.alloc hB8.size _) hB8.size _
            obtain ⟨U9, hU⟩ : ∃ U, (w7.alloc (.cells (arr [0, 0, 0, 0]) 41)).setRow w7.heap.size (arr G) = U := ⟨_, rfl⟩
            rw [hU] at HA9 hB9
            have e0 : (w7.alloc (.cells #[.int .i64 0, .int .i64 0, .int .i64 0, .int .i64 0] 41)).setRow w7.heap.size (arr G) = U9 := hU
            have E9 := Lib.hid e0
            have hw9 : IntKind.i64.wrap ((Q : Int) + (M : Int)) = (Q : Int) + (M : Int) := wraps_i64_62 _ (by omega) (by omega)
            clear hU e0 HA8 hB8
            go_wp2_with (refine wpList_store_row rfl 41 (.tmp 19) (.tmp 107) rfl w7.heap.size (arr G) rfl rfl 41 _ HN7.out HGi.out HGo.out (arr_one _) ?_; rw [E9.out])
            go_roundw
            case rel => exact ⟨1 + 1, by omega, by go_num, by rw [ES.out]; go_num, HA9, hB9⟩
            case measure => simp [intOf]
          · rw [show (4 * ((2 : Nat) : Int)) = 8 from rfl]
            have c2 : wr.cell? ⟨w.heap.size + 1, a, none⟩ = some (.int .i64 (nth (zs.set a (curV 2)) a)) := by rw [HAr.out.cell a, arr_get (by rw [List.length_set, HZ.out]; exact ha16)]
            have f2 := HAr.out.frozen a
            have HA7 := Lib.hid (show Blk (wr.setCell ⟨w.heap.size + 1, a, none⟩ (.int .i64 3840)) (w.heap.size + 1) 39 (arr (zs.set a 3840)) from by
              have := HAr.out.set_ a (.int .i64 3840)
              rw [arr_set, List.set_set] at this
              exact this)
            have hB7 : Below w.heap.size w (wr.setCell ⟨w.heap.size + 1, a, none⟩ (.int .i64 3840)) := hBr.setCell (p := ⟨w.heap.size + 1, a, none⟩) (by simp) _
            have HI7 := Lib.hid (show (Tryd.prog.info? 39).map (·.size) = some (arr (zs.set a 3840)).size by rw [arr_size, List.length_set, HZ.out]; exact info_sets)
            have C7 := Lib.hid (fun W hW => count_ok (zs.set a 3840) (by rw [List.length_set]; exact HZ.out) (set_in HZ.out HV.out ha16 (by omega) (by omega)) W hW)
            have ES := Lib.hid (show sumQ zs a (2 + 1) = sumQ zs a 2 + cntN (zs.set a 3840) (upto id 65536) from rfl)
            have hl7 := cntF_len (zs.set a 3840) (upto id 65536)
            have hn7 := cntN_le (zs.set a 3840) (upto id 65536)
            rw [upto_length] at hn7
            obtain ⟨G, hG⟩ : ∃ G, cntF (zs.set a 3840) (upto id 65536) = G := ⟨_, rfl⟩
            obtain ⟨M, hM⟩ : ∃ M, cntN (zs.set a 3840) (upto id 65536) = M := ⟨_, rfl⟩
            have hs7 := sumQ_le zs a 2
            obtain ⟨Q, hQ⟩ : ∃ Q, sumQ zs a 2 = Q := ⟨_, rfl⟩
            rw [hG, hM] at C7
            rw [hM] at hn7
            rw [hG] at hl7
            rw [hM, hQ] at ES
            rw [hQ] at hs7 ⊢
            obtain ⟨X, hX⟩ : ∃ X, nth (zs.set a (curV 2)) a = X := ⟨_, rfl⟩
            rw [hX] at c2
            have HGi := Lib.hid (show (Tryd.prog.info? 41).map (·.size) = some (arr G).size by rw [arr_size, hl7]; exact info_moth)
            have HGo := Lib.hid (show (arr [0, 0, 0, 0]).size = (arr G).size by rw [arr_size, arr_size, hl7]; rfl)
            obtain ⟨V, hV⟩ : ∃ V, wr.setCell ⟨w.heap.size + 1, a, none⟩ (.int .i64 3840) = V := ⟨_, rfl⟩
            rw [hV] at HA7 hB7
            have EV := Lib.hid hV
            clear hV hX hQ hG hM hl7 hBr
            go_wp2_with (refine wpList_load_row rfl 39 (.tmp 7) rfl (w.heap.size + 1) rfl 39 (arr (zs.set a 3840)) (0, 0) _ (by rw [EV.out]; exact HA7.out) Tryd.underlying39 rfl HI7.out ?_; rw [EV.out])
            refine (C7.out _ (hp.below hB7 (Nat.le_refl _))).mono ?_
            rintro e w7 ⟨rfl, hb7⟩
            have HA8 := Lib.hid (HA7.out.below hb7 HA7.out.lt)
            have hB8 := tr hB7 hb7
            have hs8 := HA8.out.lt
            clear hb7 HA7 hB7 C7 EV c2 f2 HAr
            have HN7 := Lib.hid (Blk.new w7 41 (arr [0, 0, 0, 0]))
            have HA9 := Lib.hid (show Blk ((w7.alloc (.cells (arr [0, 0, 0, 0]) 41)).setRow w7.heap.size (arr G)) (w.heap.size + 1) 39 (arr (zs.set a 3840)) from (HA8.out.alloc _).below (below_setRow (Below.refl w7.heap.size _) (Nat.le_refl _) _) hs8)
            have hB9 : Below w.heap.size w ((w7.alloc (.cells (arr [0, 0, 0, 0]) 41)).setRow w7.heap.size (arr G)) := below_setRow (hB8.alloc hB8.size _) hB8.size _
            obtain ⟨U9, hU⟩ : ∃ U, (w7.alloc (.cells (arr [0, 0, 0, 0]) 41)).setRow w7.heap.size (arr G) = U := ⟨_, rfl⟩
            rw [hU] at HA9 hB9
            have e0 : (w7.alloc (.cells #[.int .i64 0, .int .i64 0, .int .i64 0, .int .i64 0] 41)).setRow w7.heap.size (arr G) = U9 := hU
            have E9 := Lib.hid e0
            have hw9 : IntKind.i64.wrap ((Q : Int) + (M : Int)) = (Q : Int) + (M : Int) := wraps_i64_62 _ (by omega) (by omega)
            clear hU e0 HA8 hB8
            go_wp2_with (refine wpList_store_row rfl 41 (.tmp 19) (.tmp 107) rfl w7.heap.size (arr G) rfl rfl 41 _ HN7.out HGi.out HGo.out (arr_one _) ?_; rw [E9.out])
            go_roundw
            case rel => exact ⟨2 + 1, by omega, by go_num, by rw [ES.out]; go_num, HA9, hB9⟩
            case measure => simp [intOf]
          · rw [show (4 * ((3 : Nat) : Int)) = 12 from rfl]
            have c2 : wr.cell? ⟨w.heap.size + 1, a, none⟩ = some (.int .i64 (nth (zs.set a (curV 3)) a)) := by rw [HAr.out.cell a, arr_get (by rw [List.length_set, HZ.out]; exact ha16)]
            have f2 := HAr.out.frozen a
            have HA7 := Lib.hid (show Blk (wr.setCell ⟨w.heap.size + 1, a, none⟩ (.int .i64 61440)) (w.heap.size + 1) 39 (arr (zs.set a 61440)) from by
              have := HAr.out.set_ a (.int .i64 61440)
              rw [arr_set, List.set_set] at this
              exact this)
            have hB7 : Below w.heap.size w (wr.setCell ⟨w.heap.size + 1, a, none⟩ (.int .i64 61440)) := hBr.setCell (p := ⟨w.heap.size + 1, a, none⟩) (by simp) _
            have HI7 := Lib.hid (show (Tryd.prog.info? 39).map (·.size) = some (arr (zs.set a 61440)).size by rw [arr_size, List.length_set, HZ.out]; exact info_sets)
            have C7 := Lib.hid (fun W hW => count_ok (zs.set a 61440) (by rw [List.length_set]; exact HZ.out) (set_in HZ.out HV.out ha16 (by omega) (by omega)) W hW)
            have ES := Lib.hid (show sumQ zs a (3 + 1) = sumQ zs a 3 + cntN (zs.set a 61440) (upto id 65536) from rfl)
            have hl7 := cntF_len (zs.set a 61440) (upto id 65536)
            have hn7 := cntN_le (zs.set a 61440) (upto id 65536)
            rw [upto_length] at hn7
            obtain ⟨G, hG⟩ : ∃ G, cntF (zs.set a 61440) (upto id 65536) = G := ⟨_, rfl⟩
            obtain ⟨M, hM⟩ : ∃ M, cntN (zs.set a 61440) (upto id 65536) = M := ⟨_, rfl⟩
            have hs7 := sumQ_le zs a 3
            obtain ⟨Q, hQ⟩ : ∃ Q, sumQ zs a 3 = Q := ⟨_, rfl⟩
            rw [hG, hM] at C7
            rw [hM] at hn7
            rw [hG] at hl7
            rw [hM, hQ] at ES
            rw [hQ] at hs7 ⊢
            obtain ⟨X, hX⟩ : ∃ X, nth (zs.set a (curV 3)) a = X := ⟨_, rfl⟩
            rw [hX] at c2
            have HGi := Lib.hid (show (Tryd.prog.info? 41).map (·.size) = some (arr G).size by rw [arr_size, hl7]; exact info_moth)
            have HGo := Lib.hid (show (arr [0, 0, 0, 0]).size = (arr G).size by rw [arr_size, arr_size, hl7]; rfl)
            obtain ⟨V, hV⟩ : ∃ V, wr.setCell ⟨w.heap.size + 1, a, none⟩ (.int .i64 61440) = V := ⟨_, rfl⟩
            rw [hV] at HA7 hB7
            have EV := Lib.hid hV
            clear hV hX hQ hG hM hl7 hBr
            go_wp2_with (refine wpList_load_row rfl 39 (.tmp 7) rfl (w.heap.size + 1) rfl 39 (arr (zs.set a 61440)) (0, 0) _ (by rw [EV.out]; exact HA7.out) Tryd.underlying39 rfl HI7.out ?_; rw [EV.out])
            refine (C7.out _ (hp.below hB7 (Nat.le_refl _))).mono ?_
            rintro e w7 ⟨rfl, hb7⟩
            have HA8 := Lib.hid (HA7.out.below hb7 HA7.out.lt)
            have hB8 := tr hB7 hb7
            have hs8 := HA8.out.lt
            clear hb7 HA7 hB7 C7 EV c2 f2 HAr
            have HN7 := Lib.hid (Blk.new w7 41 (arr [0, 0, 0, 0]))
            have HA9 := Lib.hid (show Blk ((w7.alloc (.cells (arr [0, 0, 0, 0]) 41)).setRow w7.heap.size (arr G)) (w.heap.size + 1) 39 (arr (zs.set a 61440)) from (HA8.out.alloc _).below (below_setRow (Below.refl w7.heap.size _) (Nat.le_refl _) _) hs8)
            have hB9 : Below w.heap.size w ((w7.alloc (.cells (arr [0, 0, 0, 0]) 41)).setRow w7.heap.size (arr G)) := below_setRow (hB8.alloc hB8.size _) hB8.size _
            obtain ⟨U9, hU⟩ : ∃ U, (w7.alloc (.cells (arr [0, 0, 0, 0]) 41)).setRow w7.heap.size (arr G) = U := ⟨_, rfl⟩
            rw [hU] at HA9 hB9
            have e0 : (w7.alloc (.cells #[.int .i64 0, .int .i64 0, .int .i64 0, .int .i64 0] 41)).setRow w7.heap.size (arr G) = U9 := hU
            have E9 := Lib.hid e0
            have hw9 : IntKind.i64.wrap ((Q : Int) + (M : Int)) = (Q : Int) + (M : Int) := wraps_i64_62 _ (by omega) (by omega)
            clear hU e0 HA8 hB8
            go_wp2_with (refine wpList_store_row rfl 41 (.tmp 19) (.tmp 107) rfl w7.heap.size (arr G) rfl rfl 41 _ HN7.out HGi.out HGo.out (arr_one _) ?_; rw [E9.out])
            go_roundw
            case rel => exact ⟨3 + 1, by omega, by go_num, by rw [ES.out]; go_num, HA9, hB9⟩
            case measure => simp [intOf]
          · rw [show (4 * ((4 : Nat) : Int)) = 16 from rfl, show sumQ zs a 4 = N from HSUM.out]
            have y5 : ((N : Int) != (N : Int)) = false := by simp
            obtain ⟨g, hg⟩ : ∃ g : Nat, jd % 16 = (g : Int) := ⟨(jd % 16).toNat, by omega⟩
            have hg16 : g < 16 := by omega
            have HE0 := Lib.hid (show Blk (wr.alloc (.cells (arr (List.replicate 16 0)) 39)) wr.heap.size 39 (arr (askTo (List.replicate 16 65535) 0)) from by rw [askTo_zero]; exact Blk.new _ _ _)
            have hB8 : Below w.heap.size w (wr.alloc (.cells (arr (List.replicate 16 0)) 39)) := hBr.alloc hBr.size _
            have hs8 : w.heap.size ≤ wr.heap.size := hBr.size
            obtain ⟨Y, hY⟩ : ∃ Y, wr.alloc (.cells (arr (List.replicate 16 0)) 39) = Y := ⟨_, rfl⟩
            rw [hY] at HE0 hB8
            have eY : wr.alloc (.cells #[.int .i64 0, .int .i64 0, .int .i64 0, .int .i64 0, .int .i64 0, .int .i64 0, .int .i64 0, .int .i64 0, .int .i64 0, .int .i64 0, .int .i64 0, .int .i64 0, .int .i64 0, .int .i64 0, .int .i64 0, .int .i64 0] 39) = Y := hY
            have EY := Lib.hid eY
            clear hY eY HAr hBr
            go_wp2_with fail
            rw [EY.out]
            clear EY y5
            obtain ⟨n8, hn8⟩ : ∃ n, wr.heap.size = n := ⟨_, rfl⟩
            rw [hn8] at HE0 hs8 ⊢
            clear hn8
            go_loopw [22] (fun v wi => ∃ i : Nat, i ≤ 16 ∧ v = .int .i64 i ∧ Hid (Blk wi n8 39 (arr (askTo (List.replicate 16 65535) i))) ∧ Below w.heap.size w wi) (fun v _ => 16 - (intOf v).toNat)
            case atStart => exact ⟨0, by omega, rfl, HE0, hB8⟩
            case round =>
              obtain ⟨i, hi, rfl, HEi, hBi⟩ := hrel
              clear HE0 hB8
              by_cases hlt : i < 16
              · have c2 : wr.cell? ⟨n8, i, none⟩ = some (.int .i64 (nth (askTo (List.replicate 16 65535) i) i)) := by rw [HEi.out.cell i, arr_get (by rw [askTo_len]; exact hlt)]
                have f2 := HEi.out.frozen i
                have HS := Lib.hid (show Blk (wr.setCell ⟨n8, i, none⟩ (.int .i64 65535)) n8 39 (arr (askTo (List.replicate 16 65535) (i + 1))) from by
                  have := HEi.out.set_ i (.int .i64 65535)
                  have e := askTo_succ (List.replicate 16 65535) hlt
                  rw [nth_rep hlt] at e
                  rw [arr_set, e] at this
                  exact this)
                obtain ⟨y, hy⟩ : ∃ y, nth (askTo (List.replicate 16 65535) i) i = y := ⟨_, rfl⟩
                rw [hy] at c2
                clear hy
                go_wp2_with fail
                go_roundw
                case rel => exact ⟨i + 1, by omega, by go_num, HS, hBi.setCell (by simp; omega) _⟩
                case measure => simp [intOf]; omega
              · obtain rfl : i = 16 := by omega
                rw [show ((16 : Nat) : Int) = 16 from rfl]
                have HE1 : Hid (Blk wr n8 39 (arr (List.replicate 16 65535))) := by have := HEi.out; rw [ask_rep] at this; exact this
                clear HEi
                go_wp2_with fail
                refine (lawFigure_any jd j0 j1 _).mono ?_
                rintro e wf ⟨rfl, rfl⟩
                rw [hg]
                have c14 : wr.cell? ⟨n8, 14, none⟩ = some (.int .i64 65535) := HE1.out.cell 14
                have f14 := HE1.out.frozen 14
                obtain ⟨G2, hG2⟩ : ∃ G2 : Int, (2 : Int) ^ g = G2 := ⟨_, rfl⟩
                have hgb : 0 ≤ (2 : Int) ^ g ∧ (2 : Int) ^ g ≤ 65535 := by
                  have e : g = 0 ∨ g = 1 ∨ g = 2 ∨ g = 3 ∨ g = 4 ∨ g = 5 ∨ g = 6 ∨ g = 7 ∨ g = 8 ∨ g = 9 ∨ g = 10 ∨ g = 11 ∨ g = 12 ∨ g = 13 ∨ g = 14 ∨ g = 15 := by omega
                  rcases e with rfl | rfl | rfl | rfl | rfl | rfl | rfl | rfl | rfl | rfl | rfl | rfl | rfl | rfl | rfl | rfl <;> decide
                have hw2 : IntKind.i64.wrap ((2 : Int) ^ g) = (2 : Int) ^ g := wraps_i64_62 _ hgb.1 (by omega)
                have hwg : IntKind.u64.wrap (g : Int) = (g : Int) := u64_in (by omega) (by omega)
                have HX1 := Lib.hid (show Blk (wr.setCell ⟨n8, 14, none⟩ (.int .i64 (2 ^ g))) n8 39 (arr (eachS (2 ^ g))) from by
                  have := HE1.out.set_ 14 (.int .i64 (2 ^ g))
                  rw [arr_set] at this
                  exact this)
                have hBx : Below w.heap.size w (wr.setCell ⟨n8, 14, none⟩ (.int .i64 (2 ^ g))) := hBi.setCell (p := ⟨n8, 14, none⟩) (by simp; omega) _
                have HIx := Lib.hid (show (Tryd.prog.info? 39).map (·.size) = some (arr (eachS (2 ^ g))).size by rw [arr_size]; unfold eachS; rw [List.length_set]; exact info_sets)
                have CX := Lib.hid (fun W hW => count_ok (eachS (2 ^ g)) (by simp [eachS]) (set_in (by simp) (fun k hk => by rw [nth_rep hk]; exact ⟨by omega, by omega⟩) (by omega) hgb.1 hgb.2) W hW)
                have hm2 := cnt_judge hg16
                have hl2 := cntF_len (eachS (2 ^ g)) (upto id 65536)
                obtain ⟨G, hG⟩ : ∃ G, cntF (eachS (2 ^ g)) (upto id 65536) = G := ⟨_, rfl⟩
                obtain ⟨M, hM⟩ : ∃ M, cntN (eachS (2 ^ g)) (upto id 65536) = M := ⟨_, rfl⟩
                rw [hG, hM] at CX
                rw [hM] at hm2
                rw [hG] at hl2
                have HGi := Lib.hid (show (Tryd.prog.info? 41).map (·.size) = some (arr G).size by rw [arr_size, hl2]; exact info_moth)
                have HGo := Lib.hid (show (arr [0, 0, 0, 0]).size = (arr G).size by rw [arr_size, arr_size, hl2]; rfl)
                obtain ⟨V, hV⟩ : ∃ V, wr.setCell ⟨n8, 14, none⟩ (.int .i64 (2 ^ g)) = V := ⟨_, rfl⟩
                rw [hV] at HX1 hBx
                have EV := Lib.hid hV
                obtain ⟨E2, hE2⟩ : ∃ E2, eachS (2 ^ g) = E2 := ⟨_, rfl⟩
                rw [hE2] at HX1 HIx CX
                have HM2 := Lib.hid hm2
                clear hV hG hM hl2 hgb hBi hE2 hG2 hm2
                go_wp2_with (refine wpList_load_row rfl 39 (.tmp 21) rfl n8 rfl 39 (arr E2) (0, 0) _ (by rw [EV.out]; exact HX1.out) Tryd.underlying39 rfl HIx.out ?_; rw [EV.out])
                refine (CX.out _ (hp.below hBx (Nat.le_refl _))).mono ?_
                rintro e wx ⟨rfl, hbx⟩
                have hBy := tr hBx hbx
                clear hbx HX1 hBx CX EV c14 f14 HE1
                have HNx := Lib.hid (Blk.new wx 41 (arr [0, 0, 0, 0]))
                have hBz : Below w.heap.size w ((wx.alloc (.cells (arr [0, 0, 0, 0]) 41)).setRow wx.heap.size (arr G)) := below_setRow (hBy.alloc hBy.size _) hBy.size _
                obtain ⟨Ux, hU⟩ : ∃ U, (wx.alloc (.cells (arr [0, 0, 0, 0]) 41)).setRow wx.heap.size (arr G) = U := ⟨_, rfl⟩
                rw [hU] at hBz
                have e0 : (wx.alloc (.cells #[.int .i64 0, .int .i64 0, .int .i64 0, .int .i64 0] 41)).setRow wx.heap.size (arr G) = Ux := hU
                have Ex := Lib.hid e0
                clear hU e0 hBy
                go_wp2_with (refine wpList_store_row rfl 41 (.tmp 25) (.tmp 134) rfl wx.heap.size (arr G) rfl rfl 41 _ HNx.out HGi.out HGo.out (arr_one _) ?_; rw [Ex.out])
                refine (ones_any (g : Int) ⟨by omega, by omega⟩ _).mono ?_
                rintro e wo ⟨rfl, rfl⟩
                have ho : onesF (g : Int) = 0 ∨ onesF (g : Int) = 1 ∨ onesF (g : Int) = 2 ∨ onesF (g : Int) = 3 ∨ onesF (g : Int) = 4 := by
                  unfold onesF
                  split <;> split <;> split <;> split <;> simp
                have hm2 := HM2.out
                obtain ⟨o, hoo⟩ : ∃ o, onesF (g : Int) = o := ⟨_, rfl⟩
                rw [hoo] at ho hm2 ⊢
                clear hoo Ex HNx
                rcases ho with rfl | rfl | rfl | rfl | rfl
                · rw [if_neg (by decide)] at hm2
                  subst hm2
                  go_wp2_with fail
                  refine (known_any _ (hp.below hBz (Nat.le_refl _)) (hn.below hBz (Nat.le_refl _))).mono ?_
                  rintro e wk ⟨rfl, hbk⟩
                  go_wp2
                  go_ret
                  exact ⟨rfl, tr hBz hbk⟩
                · rw [if_pos (by decide)] at hm2
                  subst hm2
                  go_wp2_with fail
                  refine (known_any _ (hp.below hBz (Nat.le_refl _)) (hn.below hBz (Nat.le_refl _))).mono ?_
                  rintro e wk ⟨rfl, hbk⟩
                  go_wp2
                  go_ret
                  exact ⟨rfl, tr hBz hbk⟩
                · rw [if_neg (by decide)] at hm2
                  subst hm2
                  go_wp2_with fail
                  refine (known_any _ (hp.below hBz (Nat.le_refl _)) (hn.below hBz (Nat.le_refl _))).mono ?_
                  rintro e wk ⟨rfl, hbk⟩
                  go_wp2
                  go_ret
                  exact ⟨rfl, tr hBz hbk⟩
                · rw [if_pos (by decide)] at hm2
                  subst hm2
                  go_wp2_with fail
                  refine (known_any _ (hp.below hBz (Nat.le_refl _)) (hn.below hBz (Nat.le_refl _))).mono ?_
                  rintro e wk ⟨rfl, hbk⟩
                  go_wp2
                  go_ret
                  exact ⟨rfl, tr hBz hbk⟩
                · rw [if_neg (by decide)] at hm2
                  subst hm2
                  go_wp2_with fail
                  refine (known_any _ (hp.below hBz (Nat.le_refl _)) (hn.below hBz (Nat.le_refl _))).mono ?_
                  rintro e wk ⟨rfl, hbk⟩
                  go_wp2
                  go_ret
                  exact ⟨rfl, tr hBz hbk⟩
      · have y3 : decide ((0 : Int) < (N : Int)) = true := by simp; omega
        obtain ⟨x, hx, hFx, hix⟩ := HFST.out hN0
        have hC : deriveV [f0, f1, f2', f3] = chV x ∧ chkF [f0, f1, f2', f3] = 0 := by
          rw [hFx]
          have h0 : chkF (nibs x) = 0 := chkF_moth rfl (nib_fig x)
          exact ⟨by unfold deriveV; rw [if_pos h0]; rfl, h0⟩
        have D1 := Lib.hid (fun W hW => derive_any f0 f1 f2' f3 W hW)
        rw [hC.1, hC.2] at D1
        have HCf := Lib.hid (chV_chart x).figs
        have hCl := chV_len x
        have HIX := Lib.hid ((insB_iff (zs.set a 65535) (chV x)).1 hix)
        obtain ⟨C, hCC⟩ : ∃ C, chV x = C := ⟨_, rfl⟩
        rw [hCC] at D1 HCf hCl HIX
        have HCl := Lib.hid hCl
        have HIs := Lib.hid (show (Tryd.prog.info? 24).map (·.size) = some (arr C).size by rw [arr_size, hCl]; exact info_shield)
        have HOs := Lib.hid (show (arr (List.replicate 16 0)).size = (arr C).size by rw [arr_size, arr_size, hCl]; rfl)
        clear hC hCC hCl hx hFx hix
        go_wp2_with (first
          | (refine wpList_store_row rfl 41 (.tmp 11) (.tmp 47) rfl w2.heap.size (arr [f0, f1, f2', f3]) rfl rfl 41 _ HN.out info_moth rfl (arr_one _) ?_; rw [E0.out])
          | (refine wpList_load_row rfl 41 (.tmp 11) rfl w2.heap.size rfl 41 (arr [f0, f1, f2', f3]) (0, 0) _ HF4.out Tryd.underlying41 rfl info_moth ?_))
        refine (D1.out _ (hp.below hB4 (Nat.le_refl _))).mono ?_
        rintro e w5 ⟨rfl, hb5⟩
        have HA5 := Lib.hid (HA4.out.below hb5 HA4.out.lt)
        have hB5 := tr hB4 hb5
        have hs5 := HA5.out.lt
        clear hb5 HA4 HF4 hB4 HN E0 D1
        have HN := Lib.hid (Blk.new w5 24 (arr (List.replicate 16 0)))
        have HA6 := Lib.hid (show Blk ((w5.alloc (.cells (arr (List.replicate 16 0)) 24)).setRow w5.heap.size (arr C)) (w.heap.size + 1) 39 (arr (zs.set a 65535)) from (HA5.out.alloc _).below (below_setRow (Below.refl w5.heap.size _) (Nat.le_refl _) _) hs5)
        have HC6 := Lib.hid (show Blk ((w5.alloc (.cells (arr (List.replicate 16 0)) 24)).setRow w5.heap.size (arr C)) w5.heap.size 24 (arr C) from HN.out.row _)
        have hB6 : Below w.heap.size w ((w5.alloc (.cells (arr (List.replicate 16 0)) 24)).setRow w5.heap.size (arr C)) := below_setRow (hB5.alloc hB5.size _) hB5.size _
        obtain ⟨U2, hU⟩ : ∃ U, (w5.alloc (.cells (arr (List.replicate 16 0)) 24)).setRow w5.heap.size (arr C) = U := ⟨_, rfl⟩
        rw [hU] at HA6 HC6 hB6
        have e0 : (w5.alloc (.cells #[.int .i64 0, .int .i64 0, .int .i64 0, .int .i64 0, .int .i64 0, .int .i64 0, .int .i64 0, .int .i64 0, .int .i64 0, .int .i64 0, .int .i64 0, .int .i64 0, .int .i64 0, .int .i64 0, .int .i64 0, .int .i64 0] 24)).setRow w5.heap.size (arr C) = U2 := hU
        have E0 := Lib.hid e0
        clear hU e0 HA5 hB5
        go_wp2_with (refine wpList_store_row rfl 24 (.tmp 13) (.tmp 64) rfl w5.heap.size (arr C) rfl rfl 24 _ HN.out HIs.out HOs.out (arr_one _) ?_; rw [E0.out])
        clear HN E0
        go_loopw [15] (fun v wi => ∃ i : Nat, i ≤ 16 ∧ v = .int .i64 i ∧ ∃ r, wi = U2.drewN r) (fun v _ => 16 - (intOf v).toNat)
        case atStart => exact ⟨0, by omega, rfl, 0, rfl⟩
        case round =>
          obtain ⟨i, hi, rfl, r, rfl⟩ := hrel
          by_cases hlt : i < 16
          · have cS : U2.cell? ⟨w.heap.size + 1, i, none⟩ = some (.int .i64 (nth (zs.set a 65535) i)) := by rw [HA6.out.cell i, arr_get (by rw [List.length_set, HZ.out]; exact hlt)]
            have cC : U2.cell? ⟨w5.heap.size, i, none⟩ = some (.int .i64 (nth C i)) := by rw [HC6.out.cell i, arr_get (by rw [HCl.out]; exact hlt)]
            obtain ⟨q0, q1⟩ := HCf.out i hlt
            have hin := HIX.out i hlt
            have e1 : (bits BinOp.and IntKind.i64 (nth (zs.set a 65535) i / 2 ^ (nth C i).toNat) 1 == 0) = false := by
              unfold inB at hin
              simpa using hin
            clear hin
            obtain ⟨v, hvv⟩ : ∃ v, nth C i = v := ⟨_, rfl⟩
            obtain ⟨u, huu⟩ : ∃ u, nth (zs.set a 65535) i = u := ⟨_, rfl⟩
            rw [hvv, huu] at e1
            rw [hvv] at cC q0 q1
            rw [huu] at cS
            have hwv : IntKind.u64.wrap v = v := u64_in q0 (by omega)
            clear hvv huu
            go_wp2_with fail
            go_quiet (fail)
            go_wp2_with fail
            go_roundw
            case rel => exact ⟨i + 1, by omega, by go_num, _, by first | rfl | exact World.drewN_drewN ..⟩
            case measure => simp [intOf]; omega
          · obtain rfl : i = 16 := by omega
            rw [show ((16 : Nat) : Int) = 16 from rfl]
            go_wp2_with fail
            have HZA := Lib.hid (show Blk (U2.drewN r) (w.heap.size + 1) 39 (arr (zs.set a 65535)) from HA6.out)
            have hBZ : Below w.heap.size w (U2.drewN r) := below_drewN hB6 r
            have HN0x := HFST
            generalize U2.drewN r = Z at HZA hBZ ⊢
            clear HA6 hB6 HC6 HFST hN0 y1 y2 y3 HIX HCf HCl HIs HOs
            clear HN0x
            go_loopw [16, 17] (fun s f wr => ∃ r : Nat, r ≤ 4 ∧ f = .int .i64 (4 * (r : Int)) ∧ s = .int .i64 (sumQ zs a r) ∧ Hid (Blk wr (w.heap.size + 1) 39 (arr (zs.set a (curV r)))) ∧ Below w.heap.size w wr) (fun _ f _ => 16 - (intOf f).toNat)
            case atStart => exact ⟨0, by omega, rfl, rfl, HZA, hBZ⟩
            case round =>
              obtain ⟨r, hr, rfl, rfl, HAr, hBr⟩ := hrel
              clear HZA hBZ
              have hr5 : r = 0 ∨ r = 1 ∨ r = 2 ∨ r = 3 ∨ r = 4 := by omega
              rcases hr5 with rfl | rfl | rfl | rfl | rfl
              · rw [show (4 * ((0 : Nat) : Int)) = 0 from rfl]
                have c2 : wr.cell? ⟨w.heap.size + 1, a, none⟩ = some (.int .i64 (nth (zs.set a (curV 0)) a)) := by rw [HAr.out.cell a, arr_get (by rw [List.length_set, HZ.out]; exact ha16)]
                have f2 := HAr.out.frozen a
                have HA7 := Lib.hid (show Blk (wr.setCell ⟨w.heap.size + 1, a, none⟩ (.int .i64 15)) (w.heap.size + 1) 39 (arr (zs.set a 15)) from by
                  have := HAr.out.set_ a (.int .i64 15)
                  rw [arr_set, List.set_set] at this
                  exact this)
                have hB7 : Below w.heap.size w (wr.setCell ⟨w.heap.size + 1, a, none⟩ (.int .i64 15)) := hBr.setCell (p := ⟨w.heap.size + 1, a, none⟩) (by simp) _
                have HI7 := Lib.hid (show (Tryd.prog.info? 39).map (·.size) = some (arr (zs.set a 15)).size by rw [arr_size, List.length_set, HZ.out]; exact info_sets)
                have C7 := Lib.hid (fun W hW => count_ok (zs.set a 15) (by rw [List.length_set]; exact HZ.out) (set_in HZ.out HV.out ha16 (by omega) (by omega)) W hW)
                have ES := Lib.hid (show sumQ zs a (0 + 1) = sumQ zs a 0 + cntN (zs.set a 15) (upto id 65536) from rfl)
                have hl7 := cntF_len (zs.set a 15) (upto id 65536)
                have hn7 := cntN_le (zs.set a 15) (upto id 65536)
                rw [upto_length] at hn7
                obtain ⟨G, hG⟩ : ∃ G, cntF (zs.set a 15) (upto id 65536) = G := ⟨_, rfl⟩
                obtain ⟨M, hM⟩ : ∃ M, cntN (zs.set a 15) (upto id 65536) = M := ⟨_, rfl⟩
                have hs7 := sumQ_le zs a 0
                obtain ⟨Q, hQ⟩ : ∃ Q, sumQ zs a 0 = Q := ⟨_, rfl⟩
                rw [hG, hM] at C7
                rw [hM] at hn7
                rw [hG] at hl7
                rw [hM, hQ] at ES
                rw [hQ] at hs7 ⊢
                obtain ⟨X, hX⟩ : ∃ X, nth (zs.set a (curV 0)) a = X := ⟨_, rfl⟩
                rw [hX] at c2
                have HGi := Lib.hid (show (Tryd.prog.info? 41).map (·.size) = some (arr G).size by rw [arr_size, hl7]; exact info_moth)
                have HGo := Lib.hid (show (arr [0, 0, 0, 0]).size = (arr G).size by rw [arr_size, arr_size, hl7]; rfl)
                obtain ⟨V, hV⟩ : ∃ V, wr.setCell ⟨w.heap.size + 1, a, none⟩ (.int .i64 15) = V := ⟨_, rfl⟩
                rw [hV] at HA7 hB7
                have EV := Lib.hid hV
                clear hV hX hQ hG hM hl7 hBr
                go_wp2_with (refine wpList_load_row rfl 39 (.tmp 7) rfl (w.heap.size + 1) rfl 39 (arr (zs.set a 15)) (0, 0) _ (by rw [EV.out]; exact HA7.out) Tryd.underlying39 rfl HI7.out ?_; rw [EV.out])
                refine (C7.out _ (hp.below hB7 (Nat.le_refl _))).mono ?_
                rintro e w7 ⟨rfl, hb7⟩
                have HA8 := Lib.hid (HA7.out.below hb7 HA7.out.lt)
                have hB8 := tr hB7 hb7
                have hs8 := HA8.out.lt
                clear hb7 HA7 hB7 C7 EV c2 f2 HAr
                have HN7 := Lib.hid (Blk.new w7 41 (arr [0, 0, 0, 0]))
                have HA9 := Lib.hid (show Blk ((w7.alloc (.cells (arr [0, 0, 0, 0]) 41)).setRow w7.heap.size (arr G)) (w.heap.size + 1) 39 (arr (zs.set a 15)) from (HA8.out.alloc _).below (below_setRow (Below.refl w7.heap.size _) (Nat.le_refl _) _) hs8)
                have hB9 : Below w.heap.size w ((w7.alloc (.cells (arr [0, 0, 0, 0]) 41)).setRow w7.heap.size (arr G)) := below_setRow (hB8.alloc hB8.size _) hB8.size _
                obtain ⟨U9, hU⟩ : ∃ U, (w7.alloc (.cells (arr [0, 0, 0, 0]) 41)).setRow w7.heap.size (arr G) = U := ⟨_, rfl⟩
                rw [hU] at HA9 hB9
                have e0 : (w7.alloc (.cells #[.int .i64 0, .int .i64 0, .int .i64 0, .int .i64 0] 41)).setRow w7.heap.size (arr G) = U9 := hU
                have E9 := Lib.hid e0
                have hw9 : IntKind.i64.wrap ((Q : Int) + (M : Int)) = (Q : Int) + (M : Int) := wraps_i64_62 _ (by omega) (by omega)
                clear hU e0 HA8 hB8
                go_wp2_with (refine wpList_store_row rfl 41 (.tmp 19) (.tmp 107) rfl w7.heap.size (arr G) rfl rfl 41 _ HN7.out HGi.out HGo.out (arr_one _) ?_; rw [E9.out])
                go_roundw
                case rel => exact ⟨0 + 1, by omega, by go_num, by rw [ES.out]; go_num, HA9, hB9⟩
                case measure => simp [intOf]
              · rw [show (4 * ((1 : Nat) : Int)) = 4 from rfl]
                have c2 : wr.cell? ⟨w.heap.size + 1, a, none⟩ = some (.int .i64 (nth (zs.set a (curV 1)) a)) := by rw [HAr.out.cell a, arr_get (by rw [List.length_set, HZ.out]; exact ha16)]
                have f2 := HAr.out.frozen a
                have HA7 := Lib.hid (show Blk (wr.setCell ⟨w.heap.size + 1, a, none⟩ (.int .i64 240)) (w.heap.size + 1) 39 (arr (zs.set a 240)) from by
                  have := HAr.out.set_ a (.int .i64 240)
                  rw [arr_set, List.set_set] at this
                  exact this)
                have hB7 : Below w.heap.size w (wr.setCell ⟨w.heap.size + 1, a, none⟩ (.int .i64 240)) := hBr.setCell (p := ⟨w.heap.size + 1, a, none⟩) (by simp) _
                have HI7 := Lib.hid (show (Tryd.prog.info? 39).map (·.size) = some (arr (zs.set a 240)).size by rw [arr_size, List.length_set, HZ.out]; exact info_sets)
                have C7 := Lib.hid (fun W hW => count_ok (zs.set a 240) (by rw [List.length_set]; exact HZ.out) (set_in HZ.out HV.out ha16 (by omega) (by omega)) W hW)
                have ES := Lib.hid (show sumQ zs a (1 + 1) = sumQ zs a 1 + cntN (zs.set a 240) (upto id 65536) from rfl)
                have hl7 := cntF_len (zs.set a 240) (upto id 65536)
                have hn7 := cntN_le (zs.set a 240) (upto id 65536)
                rw [upto_length] at hn7
                obtain ⟨G, hG⟩ : ∃ G, cntF (zs.set a 240) (upto id 65536) = G := ⟨_, rfl⟩
                obtain ⟨M, hM⟩ : ∃ M, cntN (zs.set a 240) (upto id 65536) = M := ⟨_, rfl⟩
                have hs7 := sumQ_le zs a 1
                obtain ⟨Q, hQ⟩ : ∃ Q, sumQ zs a 1 = Q := ⟨_, rfl⟩
                rw [hG, hM] at C7
                rw [hM] at hn7
                rw [hG] at hl7
                rw [hM, hQ] at ES
                rw [hQ] at hs7 ⊢
                obtain ⟨X, hX⟩ : ∃ X, nth (zs.set a (curV 1)) a = X := ⟨_, rfl⟩
                rw [hX] at c2
                have HGi := Lib.hid (show (Tryd.prog.info? 41).map (·.size) = some (arr G).size by rw [arr_size, hl7]; exact info_moth)
                have HGo := Lib.hid (show (arr [0, 0, 0, 0]).size = (arr G).size by rw [arr_size, arr_size, hl7]; rfl)
                obtain ⟨V, hV⟩ : ∃ V, wr.setCell ⟨w.heap.size + 1, a, none⟩ (.int .i64 240) = V := ⟨_, rfl⟩
                rw [hV] at HA7 hB7
                have EV := Lib.hid hV
                clear hV hX hQ hG hM hl7 hBr
                go_wp2_with (refine wpList_load_row rfl 39 (.tmp 7) rfl (w.heap.size + 1) rfl 39 (arr (zs.set a 240)) (0, 0) _ (by rw [EV.out]; exact HA7.out) Tryd.underlying39 rfl HI7.out ?_; rw [EV.out])
                refine (C7.out _ (hp.below hB7 (Nat.le_refl _))).mono ?_
                rintro e w7 ⟨rfl, hb7⟩
                have HA8 := Lib.hid (HA7.out.below hb7 HA7.out.lt)
                have hB8 := tr hB7 hb7
                have hs8 := HA8.out.lt
                clear hb7 HA7 hB7 C7 EV c2 f2 HAr
                have HN7 := Lib.hid (Blk.new w7 41 (arr [0, 0, 0, 0]))
                have HA9 := Lib.hid (show Blk ((w7.alloc (.cells (arr [0, 0, 0, 0]) 41)).setRow w7.heap.size (arr G)) (w.heap.size + 1) 39 (arr (zs.set a 240)) from (HA8.out.alloc _).below (below_setRow (Below.refl w7.heap.size _) (Nat.le_refl _) _) hs8)
                have hB9 : Below w.heap.size w ((w7.alloc (.cells (arr [0, 0, 0, 0]) 41)).setRow w7.heap.size (arr G)) := below_setRow (hB8.alloc hB8.size _) hB8.size _
                obtain ⟨U9, hU⟩ : ∃ U, (w7.alloc (.cells (arr [0, 0, 0, 0]) 41)).setRow w7.heap.size (arr G) = U := ⟨_, rfl⟩
                rw [hU] at HA9 hB9
                have e0 : (w7.alloc (.cells #[.int .i64 0, .int .i64 0, .int .i64 0, .int .i64 0] 41)).setRow w7.heap.size (arr G) = U9 := hU
                have E9 := Lib.hid e0
                have hw9 : IntKind.i64.wrap ((Q : Int) + (M : Int)) = (Q : Int) + (M : Int) := wraps_i64_62 _ (by omega) (by omega)
                clear hU e0 HA8 hB8
                go_wp2_with (refine wpList_store_row rfl 41 (.tmp 19) (.tmp 107) rfl w7.heap.size (arr G) rfl rfl 41 _ HN7.out HGi.out HGo.out (arr_one _) ?_; rw [E9.out])
                go_roundw
                case rel => exact ⟨1 + 1, by omega, by go_num, by rw [ES.out]; go_num, HA9, hB9⟩
                case measure => simp [intOf]
              · rw [show (4 * ((2 : Nat) : Int)) = 8 from rfl]
                have c2 : wr.cell? ⟨w.heap.size + 1, a, none⟩ = some (.int .i64 (nth (zs.set a (curV 2)) a)) := by rw [HAr.out.cell a, arr_get (by rw [List.length_set, HZ.out]; exact ha16)]
                have f2 := HAr.out.frozen a
                have HA7 := Lib.hid (show Blk (wr.setCell ⟨w.heap.size + 1, a, none⟩ (.int .i64 3840)) (w.heap.size + 1) 39 (arr (zs.set a 3840)) from by
                  have := HAr.out.set_ a (.int .i64 3840)
                  rw [arr_set, List.set_set] at this
                  exact this)
                have hB7 : Below w.heap.size w (wr.setCell ⟨w.heap.size + 1, a, none⟩ (.int .i64 3840)) := hBr.setCell (p := ⟨w.heap.size + 1, a, none⟩) (by simp) _
                have HI7 := Lib.hid (show (Tryd.prog.info? 39).map (·.size) = some (arr (zs.set a 3840)).size by rw [arr_size, List.length_set, HZ.out]; exact info_sets)
                have C7 := Lib.hid (fun W hW => count_ok (zs.set a 3840) (by rw [List.length_set]; exact HZ.out) (set_in HZ.out HV.out ha16 (by omega) (by omega)) W hW)
                have ES := Lib.hid (show sumQ zs a (2 + 1) = sumQ zs a 2 + cntN (zs.set a 3840) (upto id 65536) from rfl)
                have hl7 := cntF_len (zs.set a 3840) (upto id 65536)
                have hn7 := cntN_le (zs.set a 3840) (upto id 65536)
                rw [upto_length] at hn7
                obtain ⟨G, hG⟩ : ∃ G, cntF (zs.set a 3840) (upto id 65536) = G := ⟨_, rfl⟩
                obtain ⟨M, hM⟩ : ∃ M, cntN (zs.set a 3840) (upto id 65536) = M := ⟨_, rfl⟩
                have hs7 := sumQ_le zs a 2
                obtain ⟨Q, hQ⟩ : ∃ Q, sumQ zs a 2 = Q := ⟨_, rfl⟩
                rw [hG, hM] at C7
                rw [hM] at hn7
                rw [hG] at hl7
                rw [hM, hQ] at ES
                rw [hQ] at hs7 ⊢
                obtain ⟨X, hX⟩ : ∃ X, nth (zs.set a (curV 2)) a = X := ⟨_, rfl⟩
                rw [hX] at c2
                have HGi := Lib.hid (show (Tryd.prog.info? 41).map (·.size) = some (arr G).size by rw [arr_size, hl7]; exact info_moth)
                have HGo := Lib.hid (show (arr [0, 0, 0, 0]).size = (arr G).size by rw [arr_size, arr_size, hl7]; rfl)
                obtain ⟨V, hV⟩ : ∃ V, wr.setCell ⟨w.heap.size + 1, a, none⟩ (.int .i64 3840) = V := ⟨_, rfl⟩
                rw [hV] at HA7 hB7
                have EV := Lib.hid hV
                clear hV hX hQ hG hM hl7 hBr
                go_wp2_with (refine wpList_load_row rfl 39 (.tmp 7) rfl (w.heap.size + 1) rfl 39 (arr (zs.set a 3840)) (0, 0) _ (by rw [EV.out]; exact HA7.out) Tryd.underlying39 rfl HI7.out ?_; rw [EV.out])
                refine (C7.out _ (hp.below hB7 (Nat.le_refl _))).mono ?_
                rintro e w7 ⟨rfl, hb7⟩
                have HA8 := Lib.hid (HA7.out.below hb7 HA7.out.lt)
                have hB8 := tr hB7 hb7
                have hs8 := HA8.out.lt
                clear hb7 HA7 hB7 C7 EV c2 f2 HAr
                have HN7 := Lib.hid (Blk.new w7 41 (arr [0, 0, 0, 0]))
                have HA9 := Lib.hid (show Blk ((w7.alloc (.cells (arr [0, 0, 0, 0]) 41)).setRow w7.heap.size (arr G)) (w.heap.size + 1) 39 (arr (zs.set a 3840)) from (HA8.out.alloc _).below (below_setRow (Below.refl w7.heap.size _) (Nat.le_refl _) _) hs8)
                have hB9 : Below w.heap.size w ((w7.alloc (.cells (arr [0, 0, 0, 0]) 41)).setRow w7.heap.size (arr G)) := below_setRow (hB8.alloc hB8.size _) hB8.size _
                obtain ⟨U9, hU⟩ : ∃ U, (w7.alloc (.cells (arr [0, 0, 0, 0]) 41)).setRow w7.heap.size (arr G) = U := ⟨_, rfl⟩
                rw [hU] at HA9 hB9
                have e0 : (w7.alloc (.cells #[.int .i64 0, .int .i64 0, .int .i64 0, .int .i64 0] 41)).setRow w7.heap.size (arr G) = U9 := hU
                have E9 := Lib.hid e0
                have hw9 : IntKind.i64.wrap ((Q : Int) + (M : Int)) = (Q : Int) + (M : Int) := wraps_i64_62 _ (by omega) (by omega)
                clear hU e0 HA8 hB8
                go_wp2_with (refine wpList_store_row rfl 41 (.tmp 19) (.tmp 107) rfl w7.heap.size (arr G) rfl rfl 41 _ HN7.out HGi.out HGo.out (arr_one _) ?_; rw [E9.out])
                go_roundw
                case rel => exact ⟨2 + 1, by omega, by go_num, by rw [ES.out]; go_num, HA9, hB9⟩
                case measure => simp [intOf]
              · rw [show (4 * ((3 : Nat) : Int)) = 12 from rfl]
                have c2 : wr.cell? ⟨w.heap.size + 1, a, none⟩ = some (.int .i64 (nth (zs.set a (curV 3)) a)) := by rw [HAr.out.cell a, arr_get (by rw [List.length_set, HZ.out]; exact ha16)]
                have f2 := HAr.out.frozen a
                have HA7 := Lib.hid (show Blk (wr.setCell ⟨w.heap.size + 1, a, none⟩ (.int .i64 61440)) (w.heap.size + 1) 39 (arr (zs.set a 61440)) from by
                  have := HAr.out.set_ a (.int .i64 61440)
                  rw [arr_set, List.set_set] at this
                  exact this)
                have hB7 : Below w.heap.size w (wr.setCell ⟨w.heap.size + 1, a, none⟩ (.int .i64 61440)) := hBr.setCell (p := ⟨w.heap.size + 1, a, none⟩) (by simp) _
                have HI7 := Lib.hid (show (Tryd.prog.info? 39).map (·.size) = some (arr (zs.set a 61440)).size by rw [arr_size, List.length_set, HZ.out]; exact info_sets)
                have C7 := Lib.hid (fun W hW => count_ok (zs.set a 61440) (by rw [List.length_set]; exact HZ.out) (set_in HZ.out HV.out ha16 (by omega) (by omega)) W hW)
                have ES := Lib.hid (show sumQ zs a (3 + 1) = sumQ zs a 3 + cntN (zs.set a 61440) (upto id 65536) from rfl)
                have hl7 := cntF_len (zs.set a 61440) (upto id 65536)
                have hn7 := cntN_le (zs.set a 61440) (upto id 65536)
                rw [upto_length] at hn7
                obtain ⟨G, hG⟩ : ∃ G, cntF (zs.set a 61440) (upto id 65536) = G := ⟨_, rfl⟩
                obtain ⟨M, hM⟩ : ∃ M, cntN (zs.set a 61440) (upto id 65536) = M := ⟨_, rfl⟩
                have hs7 := sumQ_le zs a 3
                obtain ⟨Q, hQ⟩ : ∃ Q, sumQ zs a 3 = Q := ⟨_, rfl⟩
                rw [hG, hM] at C7
                rw [hM] at hn7
                rw [hG] at hl7
                rw [hM, hQ] at ES
                rw [hQ] at hs7 ⊢
                obtain ⟨X, hX⟩ : ∃ X, nth (zs.set a (curV 3)) a = X := ⟨_, rfl⟩
                rw [hX] at c2
                have HGi := Lib.hid (show (Tryd.prog.info? 41).map (·.size) = some (arr G).size by rw [arr_size, hl7]; exact info_moth)
                have HGo := Lib.hid (show (arr [0, 0, 0, 0]).size = (arr G).size by rw [arr_size, arr_size, hl7]; rfl)
                obtain ⟨V, hV⟩ : ∃ V, wr.setCell ⟨w.heap.size + 1, a, none⟩ (.int .i64 61440) = V := ⟨_, rfl⟩
                rw [hV] at HA7 hB7
                have EV := Lib.hid hV
                clear hV hX hQ hG hM hl7 hBr
                go_wp2_with (refine wpList_load_row rfl 39 (.tmp 7) rfl (w.heap.size + 1) rfl 39 (arr (zs.set a 61440)) (0, 0) _ (by rw [EV.out]; exact HA7.out) Tryd.underlying39 rfl HI7.out ?_; rw [EV.out])
                refine (C7.out _ (hp.below hB7 (Nat.le_refl _))).mono ?_
                rintro e w7 ⟨rfl, hb7⟩
                have HA8 := Lib.hid (HA7.out.below hb7 HA7.out.lt)
                have hB8 := tr hB7 hb7
                have hs8 := HA8.out.lt
                clear hb7 HA7 hB7 C7 EV c2 f2 HAr
                have HN7 := Lib.hid (Blk.new w7 41 (arr [0, 0, 0, 0]))
                have HA9 := Lib.hid (show Blk ((w7.alloc (.cells (arr [0, 0, 0, 0]) 41)).setRow w7.heap.size (arr G)) (w.heap.size + 1) 39 (arr (zs.set a 61440)) from (HA8.out.alloc _).below (below_setRow (Below.refl w7.heap.size _) (Nat.le_refl _) _) hs8)
                have hB9 : Below w.heap.size w ((w7.alloc (.cells (arr [0, 0, 0, 0]) 41)).setRow w7.heap.size (arr G)) := below_setRow (hB8.alloc hB8.size _) hB8.size _
                obtain ⟨U9, hU⟩ : ∃ U, (w7.alloc (.cells (arr [0, 0, 0, 0]) 41)).setRow w7.heap.size (arr G) = U := ⟨_, rfl⟩
                rw [hU] at HA9 hB9
                have e0 : (w7.alloc (.cells #[.int .i64 0, .int .i64 0, .int .i64 0, .int .i64 0] 41)).setRow w7.heap.size (arr G) = U9 := hU
                have E9 := Lib.hid e0
                have hw9 : IntKind.i64.wrap ((Q : Int) + (M : Int)) = (Q : Int) + (M : Int) := wraps_i64_62 _ (by omega) (by omega)
                clear hU e0 HA8 hB8
                go_wp2_with (refine wpList_store_row rfl 41 (.tmp 19) (.tmp 107) rfl w7.heap.size (arr G) rfl rfl 41 _ HN7.out HGi.out HGo.out (arr_one _) ?_; rw [E9.out])
                go_roundw
                case rel => exact ⟨3 + 1, by omega, by go_num, by rw [ES.out]; go_num, HA9, hB9⟩
                case measure => simp [intOf]
              · rw [show (4 * ((4 : Nat) : Int)) = 16 from rfl, show sumQ zs a 4 = N from HSUM.out]
                have y5 : ((N : Int) != (N : Int)) = false := by simp
                obtain ⟨g, hg⟩ : ∃ g : Nat, jd % 16 = (g : Int) := ⟨(jd % 16).toNat, by omega⟩
                have hg16 : g < 16 := by omega
                have HE0 := Lib.hid (show Blk (wr.alloc (.cells (arr (List.replicate 16 0)) 39)) wr.heap.size 39 (arr (askTo (List.replicate 16 65535) 0)) from by rw [askTo_zero]; exact Blk.new _ _ _)
                have hB8 : Below w.heap.size w (wr.alloc (.cells (arr (List.replicate 16 0)) 39)) := hBr.alloc hBr.size _
                have hs8 : w.heap.size ≤ wr.heap.size := hBr.size
                obtain ⟨Y, hY⟩ : ∃ Y, wr.alloc (.cells (arr (List.replicate 16 0)) 39) = Y := ⟨_, rfl⟩
                rw [hY] at HE0 hB8
                have eY : wr.alloc (.cells #[.int .i64 0, .int .i64 0, .int .i64 0, .int .i64 0, .int .i64 0, .int .i64 0, .int .i64 0, .int .i64 0, .int .i64 0, .int .i64 0, .int .i64 0, .int .i64 0, .int .i64 0, .int .i64 0, .int .i64 0, .int .i64 0] 39) = Y := hY
                have EY := Lib.hid eY
                clear hY eY HAr hBr
                go_wp2_with fail
                rw [EY.out]
                clear EY y5
                obtain ⟨n8, hn8⟩ : ∃ n, wr.heap.size = n := ⟨_, rfl⟩
                rw [hn8] at HE0 hs8 ⊢
                clear hn8
                go_loopw [22] (fun v wi => ∃ i : Nat, i ≤ 16 ∧ v = .int .i64 i ∧ Hid (Blk wi n8 39 (arr (askTo (List.replicate 16 65535) i))) ∧ Below w.heap.size w wi) (fun v _ => 16 - (intOf v).toNat)
                case atStart => exact ⟨0, by omega, rfl, HE0, hB8⟩
                case round =>
                  obtain ⟨i, hi, rfl, HEi, hBi⟩ := hrel
                  clear HE0 hB8
                  by_cases hlt : i < 16
                  · have c2 : wr.cell? ⟨n8, i, none⟩ = some (.int .i64 (nth (askTo (List.replicate 16 65535) i) i)) := by rw [HEi.out.cell i, arr_get (by rw [askTo_len]; exact hlt)]
                    have f2 := HEi.out.frozen i
                    have HS := Lib.hid (show Blk (wr.setCell ⟨n8, i, none⟩ (.int .i64 65535)) n8 39 (arr (askTo (List.replicate 16 65535) (i + 1))) from by
                      have := HEi.out.set_ i (.int .i64 65535)
                      have e := askTo_succ (List.replicate 16 65535) hlt
                      rw [nth_rep hlt] at e
                      rw [arr_set, e] at this
                      exact this)
                    obtain ⟨y, hy⟩ : ∃ y, nth (askTo (List.replicate 16 65535) i) i = y := ⟨_, rfl⟩
                    rw [hy] at c2
                    clear hy
                    go_wp2_with fail
                    go_roundw
                    case rel => exact ⟨i + 1, by omega, by go_num, HS, hBi.setCell (by simp; omega) _⟩
                    case measure => simp [intOf]; omega
                  · obtain rfl : i = 16 := by omega
                    rw [show ((16 : Nat) : Int) = 16 from rfl]
                    have HE1 : Hid (Blk wr n8 39 (arr (List.replicate 16 65535))) := by have := HEi.out; rw [ask_rep] at this; exact this
                    clear HEi
                    go_wp2_with fail
                    refine (lawFigure_any jd j0 j1 _).mono ?_
                    rintro e wf ⟨rfl, rfl⟩
                    rw [hg]
                    have c14 : wr.cell? ⟨n8, 14, none⟩ = some (.int .i64 65535) := HE1.out.cell 14
                    have f14 := HE1.out.frozen 14
                    obtain ⟨G2, hG2⟩ : ∃ G2 : Int, (2 : Int) ^ g = G2 := ⟨_, rfl⟩
                    have hgb : 0 ≤ (2 : Int) ^ g ∧ (2 : Int) ^ g ≤ 65535 := by
                      have e : g = 0 ∨ g = 1 ∨ g = 2 ∨ g = 3 ∨ g = 4 ∨ g = 5 ∨ g = 6 ∨ g = 7 ∨ g = 8 ∨ g = 9 ∨ g = 10 ∨ g = 11 ∨ g = 12 ∨ g = 13 ∨ g = 14 ∨ g = 15 := by omega
                      rcases e with rfl | rfl | rfl | rfl | rfl | rfl | rfl | rfl | rfl | rfl | rfl | rfl | rfl | rfl | rfl | rfl <;> decide
                    have hw2 : IntKind.i64.wrap ((2 : Int) ^ g) = (2 : Int) ^ g := wraps_i64_62 _ hgb.1 (by omega)
                    have hwg : IntKind.u64.wrap (g : Int) = (g : Int) := u64_in (by omega) (by omega)
                    have HX1 := Lib.hid (show Blk (wr.setCell ⟨n8, 14, none⟩ (.int .i64 (2 ^ g))) n8 39 (arr (eachS (2 ^ g))) from by
                      have := HE1.out.set_ 14 (.int .i64 (2 ^ g))
                      rw [arr_set] at this
                      exact this)
                    have hBx : Below w.heap.size w (wr.setCell ⟨n8, 14, none⟩ (.int .i64 (2 ^ g))) := hBi.setCell (p := ⟨n8, 14, none⟩) (by simp; omega) _
                    have HIx := Lib.hid (show (Tryd.prog.info? 39).map (·.size) = some (arr (eachS (2 ^ g))).size by rw [arr_size]; unfold eachS; rw [List.length_set]; exact info_sets)
                    have CX := Lib.hid (fun W hW => count_ok (eachS (2 ^ g)) (by simp [eachS]) (set_in (by simp) (fun k hk => by rw [nth_rep hk]; exact ⟨by omega, by omega⟩) (by omega) hgb.1 hgb.2) W hW)
                    have hm2 := cnt_judge hg16
                    have hl2 := cntF_len (eachS (2 ^ g)) (upto id 65536)
                    obtain ⟨G, hG⟩ : ∃ G, cntF (eachS (2 ^ g)) (upto id 65536) = G := ⟨_, rfl⟩
                    obtain ⟨M, hM⟩ : ∃ M, cntN (eachS (2 ^ g)) (upto id 65536) = M := ⟨_, rfl⟩
                    rw [hG, hM] at CX
                    rw [hM] at hm2
                    rw [hG] at hl2
                    have HGi := Lib.hid (show (Tryd.prog.info? 41).map (·.size) = some (arr G).size by rw [arr_size, hl2]; exact info_moth)
                    have HGo := Lib.hid (show (arr [0, 0, 0, 0]).size = (arr G).size by rw [arr_size, arr_size, hl2]; rfl)
                    obtain ⟨V, hV⟩ : ∃ V, wr.setCell ⟨n8, 14, none⟩ (.int .i64 (2 ^ g)) = V := ⟨_, rfl⟩
                    rw [hV] at HX1 hBx
                    have EV := Lib.hid hV
                    obtain ⟨E2, hE2⟩ : ∃ E2, eachS (2 ^ g) = E2 := ⟨_, rfl⟩
                    rw [hE2] at HX1 HIx CX
                    have HM2 := Lib.hid hm2
                    clear hV hG hM hl2 hgb hBi hE2 hG2 hm2
                    go_wp2_with (refine wpList_load_row rfl 39 (.tmp 21) rfl n8 rfl 39 (arr E2) (0, 0) _ (by rw [EV.out]; exact HX1.out) Tryd.underlying39 rfl HIx.out ?_; rw [EV.out])
                    refine (CX.out _ (hp.below hBx (Nat.le_refl _))).mono ?_
                    rintro e wx ⟨rfl, hbx⟩
                    have hBy := tr hBx hbx
                    clear hbx HX1 hBx CX EV c14 f14 HE1
                    have HNx := Lib.hid (Blk.new wx 41 (arr [0, 0, 0, 0]))
                    have hBz : Below w.heap.size w ((wx.alloc (.cells (arr [0, 0, 0, 0]) 41)).setRow wx.heap.size (arr G)) := below_setRow (hBy.alloc hBy.size _) hBy.size _
                    obtain ⟨Ux, hU⟩ : ∃ U, (wx.alloc (.cells (arr [0, 0, 0, 0]) 41)).setRow wx.heap.size (arr G) = U := ⟨_, rfl⟩
                    rw [hU] at hBz
                    have e0 : (wx.alloc (.cells #[.int .i64 0, .int .i64 0, .int .i64 0, .int .i64 0] 41)).setRow wx.heap.size (arr G) = Ux := hU
                    have Ex := Lib.hid e0
                    clear hU e0 hBy
                    go_wp2_with (refine wpList_store_row rfl 41 (.tmp 25) (.tmp 134) rfl wx.heap.size (arr G) rfl rfl 41 _ HNx.out HGi.out HGo.out (arr_one _) ?_; rw [Ex.out])
                    refine (ones_any (g : Int) ⟨by omega, by omega⟩ _).mono ?_
                    rintro e wo ⟨rfl, rfl⟩
                    have ho : onesF (g : Int) = 0 ∨ onesF (g : Int) = 1 ∨ onesF (g : Int) = 2 ∨ onesF (g : Int) = 3 ∨ onesF (g : Int) = 4 := by
                      unfold onesF
                      split <;> split <;> split <;> split <;> simp
                    have hm2 := HM2.out
                    obtain ⟨o, hoo⟩ : ∃ o, onesF (g : Int) = o := ⟨_, rfl⟩
                    rw [hoo] at ho hm2 ⊢
                    clear hoo Ex HNx
                    rcases ho with rfl | rfl | rfl | rfl | rfl
                    · rw [if_neg (by decide)] at hm2
                      subst hm2
                      go_wp2_with fail
                      refine (known_any _ (hp.below hBz (Nat.le_refl _)) (hn.below hBz (Nat.le_refl _))).mono ?_
                      rintro e wk ⟨rfl, hbk⟩
                      go_wp2
                      go_ret
                      exact ⟨rfl, tr hBz hbk⟩
                    · rw [if_pos (by decide)] at hm2
                      subst hm2
                      go_wp2_with fail
                      refine (known_any _ (hp.below hBz (Nat.le_refl _)) (hn.below hBz (Nat.le_refl _))).mono ?_
                      rintro e wk ⟨rfl, hbk⟩
                      go_wp2
                      go_ret
                      exact ⟨rfl, tr hBz hbk⟩
                    · rw [if_neg (by decide)] at hm2
                      subst hm2
                      go_wp2_with fail
                      refine (known_any _ (hp.below hBz (Nat.le_refl _)) (hn.below hBz (Nat.le_refl _))).mono ?_
                      rintro e wk ⟨rfl, hbk⟩
                      go_wp2
                      go_ret
                      exact ⟨rfl, tr hBz hbk⟩
                    · rw [if_pos (by decide)] at hm2
                      subst hm2
                      go_wp2_with fail
                      refine (known_any _ (hp.below hBz (Nat.le_refl _)) (hn.below hBz (Nat.le_refl _))).mono ?_
                      rintro e wk ⟨rfl, hbk⟩
                      go_wp2
                      go_ret
                      exact ⟨rfl, tr hBz hbk⟩
                    · rw [if_neg (by decide)] at hm2
                      subst hm2
                      go_wp2_with fail
                      refine (known_any _ (hp.below hBz (Nat.le_refl _)) (hn.below hBz (Nat.le_refl _))).mono ?_
                      rintro e wk ⟨rfl, hbk⟩
                      go_wp2
                      go_ret
                      exact ⟨rfl, tr hBz hbk⟩
end Go.Proofs.YtjhjgkocoghgfaaDoor
