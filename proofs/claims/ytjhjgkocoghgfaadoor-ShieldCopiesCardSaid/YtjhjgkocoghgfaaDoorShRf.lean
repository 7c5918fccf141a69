/-
  The reference of chapter 3: charts, once more; sets; how many charts have figures of sets.
-/
import Derived.Test.YtjhjgkocoghgfaaDoorShRd
import Derived.Test.YtjhjgkocoghgfaaDoorShMa
import Derived.Test.YtjhjgkocoghgfaaDoorShCn
namespace Go.Proofs.YtjhjgkocoghgfaaDoor
open Go Go.RowKit
set_option linter.unusedVariables false

theorem figTo_add : ∀ b0 b1 b2 b3 : Bool, ∀ k : Fin 4, (if (fun i : Nat => if i = 0 then b0 else if i = 1 then b1 else if i = 2 then b2 else b3) k.val = true then bits BinOp.or IntKind.i64 (figTo (fun i : Nat => if i = 0 then b0 else if i = 1 then b1 else if i = 2 then b2 else b3) k.val) (2 ^ k.val) else figTo (fun i : Nat => if i = 0 then b0 else if i = 1 then b1 else if i = 2 then b2 else b3) k.val) = figTo (fun i : Nat => if i = 0 then b0 else if i = 1 then b1 else if i = 2 then b2 else b3) k.val + (if (fun i : Nat => if i = 0 then b0 else if i = 1 then b1 else if i = 2 then b2 else b3) k.val = true then 2 ^ k.val else 0) := by decide +kernel
theorem figTo_step (g : Nat → Bool) {k : Nat} (hk : k < 4) : figTo g (k + 1) = figTo g k + if g k = true then 2 ^ k else 0 := by
  have c : ∀ i, i < 4 → g i = (fun i : Nat => if i = 0 then g 0 else if i = 1 then g 1 else if i = 2 then g 2 else g 3) i := fun i hi => by
    have e : i = 0 ∨ i = 1 ∨ i = 2 ∨ i = 3 := by omega
    rcases e with rfl | rfl | rfl | rfl <;> rfl
  have h := figTo_add (g 0) (g 1) (g 2) (g 3) ⟨k, hk⟩
  simp only at h
  rw [figTo, figTo_congr (g := g) (fun i hi => c i (by omega)), c k hk]
  exact h
theorem set_same (l : List Int) (k : Nat) (v : Int) (h : k < l.length) (e : nth l k = v) : l.set k v = l := by
  apply List.ext_getElem
  · simp
  · intro i h1 h2
    rw [List.getElem_set]
    split
    · rename_i hi
      subst hi
      rw [← e, nth_eq h]
    · rfl
theorem dTo_zero (m : List Int) (h : m.length = 4) : ∀ k j, 4 + k ≤ j → nth (dTo m k) j = 0
  | 0, j, hj => by
    simp only [dTo, nth, List.getD_eq_getElem?_getD, List.getElem?_append]
    rw [if_neg (by omega), List.getElem?_replicate]
    split <;> rfl
  | k + 1, j, hj => by
    rw [dTo]
    by_cases hl : 4 + k < 16
    · rw [nth_set (by rw [dTo_length m h]; exact hl), if_neg (by omega)]
      exact dTo_zero m h k j (by omega)
    · rw [List.set_eq_of_length_le (by rw [dTo_length m h]; omega)]
      exact dTo_zero m h k j (by omega)
theorem dP_zero (m : List Int) (h : m.length = 4) {p j : Nat} (h4 : 4 ≤ p) (hj : p ≤ j) : nth (dP m p) j = 0 := dTo_zero m h (p - 4) j (by omega)
/-- The chart with the daughters below j, and the lines below i of the next one. -/
def dauG (m : List Int) (j : Nat) : Nat → Bool := fun t => bitB (nth m t) j
def dauTo (m : List Int) (j i : Nat) : List Int := (dP m (4 + j)).set (4 + j) (figTo (dauG m j) i)
theorem dauTo_len (m : List Int) (h : m.length = 4) (j i : Nat) : (dauTo m j i).length = 16 := by
  unfold dauTo
  rw [List.length_set]
  exact dTo_length m h _
theorem dauTo_zero (m : List Int) (h : m.length = 4) {j : Nat} (hj : j < 4) : dauTo m j 0 = dP m (4 + j) :=
  set_same _ _ _ (by rw [show (dP m (4 + j)).length = 16 from dTo_length m h _]; omega) (dP_zero m h (by omega) (by omega))
theorem dauTo_four (m : List Int) (h : m.length = 4) {j : Nat} (hj : j < 4) : dauTo m j 4 = dP m (4 + j + 1) := by
  rw [dP_succ m (by omega)]
  unfold dauTo
  congr 1
  unfold followF
  rw [if_pos (by omega)]
  refine figTo_congr fun i hi => ?_
  unfold dauG
  have e : nth (dP m (4 + j)) i = nth m i := by
    have h0 := dTo_keep m h 0 (j := i) (by omega) j
    rw [Nat.zero_add] at h0
    unfold dP
    rw [show 4 + j - 4 = j by omega, h0]
    simp [dTo, nth, List.getElem?_append, h, hi]
  rw [e]
  congr 1
  omega
theorem dauTo_at (m : List Int) (h : m.length = 4) {j : Nat} (hj : j < 4) (i : Nat) : nth (dauTo m j i) (4 + j) = figTo (dauG m j) i := by
  unfold dauTo
  rw [nth_set (by rw [show (dP m (4 + j)).length = 16 from dTo_length m h _]; omega), if_pos rfl]
theorem dauTo_set (m : List Int) (j i : Nat) : (dauTo m j i).set (4 + j) (figTo (dauG m j) (i + 1)) = dauTo m j (i + 1) := by
  unfold dauTo
  rw [List.set_set]

theorem u64_in {x : Int} (h0 : 0 ≤ x) (h1 : x < 18446744073709551616) : IntKind.u64.wrap x = x := by
  simp [IntKind.wrap, IntKind.bits, IntKind.signed]
  omega
set_option maxRecDepth 100000 in
set_option maxHeartbeats 4000000 in
theorem refDerive2_any (m0 m1 m2 m3 : Int) (hm : ∀ k, k < 4 → Fig (nth [m0, m1, m2, m3] k)) (w : World) :
    Calls Tryd.prog 31 #[.agg (arr [m0, m1, m2, m3])] w fun e w' => e = .returned (.agg (arr (dP [m0, m1, m2, m3] 16))) ∧ Below w.heap.size w w' := by
  have HM0 := Lib.hid (show Blk (((w.alloc (.cells (arr [m0, m1, m2, m3]) 41)).alloc (.cells (arr (List.replicate 16 0)) 24)).alloc (.cells (arr (dP [m0, m1, m2, m3] 4)) 24)) w.heap.size 41 (arr [m0, m1, m2, m3]) from ((Blk.new _ _ _).alloc _).alloc _)
  have HR := Lib.hid (show Blk (((w.alloc (.cells (arr [m0, m1, m2, m3]) 41)).alloc (.cells (arr (List.replicate 16 0)) 24)).alloc (.cells (arr (dP [m0, m1, m2, m3] 4)) 24)) (w.heap.size + 1) 24 (arr (List.replicate 16 0)) from Blk.alloc (newAt (by simp)) _)
  have HX := Lib.hid (show Blk (((w.alloc (.cells (arr [m0, m1, m2, m3]) 41)).alloc (.cells (arr (List.replicate 16 0)) 24)).alloc (.cells (arr (dP [m0, m1, m2, m3] 4)) 24)) (w.heap.size + 2) 24 (arr (dP [m0, m1, m2, m3] 4)) from newAt (by simp))
  have hB : Below w.heap.size w (((w.alloc (.cells (arr [m0, m1, m2, m3]) 41)).alloc (.cells (arr (List.replicate 16 0)) 24)).alloc (.cells (arr (dP [m0, m1, m2, m3] 4)) 24)) := (((Below.refl _ _).alloc (Nat.le_refl _) _).alloc (by simp) _).alloc (by simp; omega) _
  have hfig := Lib.hid (fun k (hk : k ≤ 12) => dTo_figs (m := [m0, m1, m2, m3]) rfl hm hk)
  have Hm := Lib.hid hm
  have c0 : (arr [m0, m1, m2, m3])[0]? = some (.int .i64 m0) := rfl
  have c1 : (arr [m0, m1, m2, m3])[1]? = some (.int .i64 m1) := rfl
  have c2 : (arr [m0, m1, m2, m3])[2]? = some (.int .i64 m2) := rfl
  have c3 : (arr [m0, m1, m2, m3])[3]? = some (.int .i64 m3) := rfl
  clear hm
  go_enter Tryd.func31, Tryd.ntmps31
  go_wp2
  generalize hW : (((w.alloc (.cells (arr [m0, m1, m2, m3]) 41)).alloc (.cells (arr (List.replicate 16 0)) 24)).alloc (.cells (arr (dP [m0, m1, m2, m3] 4)) 24)) = W at HR HX hB HM0
  rw [show (((w.alloc (.cells (arr [m0, m1, m2, m3]) 41)).alloc (.cells #[.int .i64 0, .int .i64 0, .int .i64 0, .int .i64 0, .int .i64 0, .int .i64 0, .int .i64 0, .int .i64 0, .int .i64 0, .int .i64 0, .int .i64 0, .int .i64 0, .int .i64 0, .int .i64 0, .int .i64 0, .int .i64 0] 24)).alloc (.cells #[.int .i64 m0, .int .i64 m1, .int .i64 m2, .int .i64 m3, .int .i64 0, .int .i64 0, .int .i64 0, .int .i64 0, .int .i64 0, .int .i64 0, .int .i64 0, .int .i64 0, .int .i64 0, .int .i64 0, .int .i64 0, .int .i64 0] 24)) = W from hW]
  clear hW c0 c1 c2 c3
  have hwz : w.heap.size + 2 < W.heap.size := HX.out.lt
  obtain ⟨m, hm⟩ : ∃ m, [m0, m1, m2, m3] = m := ⟨_, rfl⟩
  have hl : m.length = 4 := by rw [← hm]; rfl
  have Hmm := Lib.hid hm
  rw [hm] at HM0 HX hfig Hm ⊢
  clear hm
  have HL := Lib.hid hl
  clear hl
  go_loopw [4, 5] (fun v _ wr => ∃ j : Nat, j ≤ 4 ∧ v = .int .i64 j ∧ Hid (Blk wr (w.heap.size + 2) 24 (arr (dP m (4 + j)))) ∧ Below (w.heap.size + 2) W wr) (fun v _ _ => 4 - (intOf v).toNat)
  case atStart => exact ⟨0, by omega, rfl, HX, Below.refl _ _⟩
  case round =>
    obtain ⟨j, hj, rfl, HXj, hBj⟩ := hrel
    by_cases hlt : j < 4
    · have hj4 : j = 0 ∨ j = 1 ∨ j = 2 ∨ j = 3 := by omega
      have HX0 : Hid (Blk wr (w.heap.size + 2) 24 (arr (dauTo m j 0))) := by rw [dauTo_zero m HL.out hlt]; exact HXj
      rcases hj4 with rfl | rfl | rfl | rfl
      · skip
        rw [show ((0 : Nat) : Int) = 0 from rfl]
        go_wp2
        clear HXj
        go_loopw [5] (fun v wi => ∃ i : Nat, i ≤ 4 ∧ v = .int .i64 i ∧ Hid (Blk wi (w.heap.size + 2) 24 (arr (dauTo m 0 i))) ∧ Below (w.heap.size + 2) W wi) (fun v _ => 4 - (intOf v).toNat)
        case atStart => exact ⟨0, by omega, rfl, HX0, hBj⟩
        case round =>
          obtain ⟨i, hi, rfl, HXi, hBi⟩ := hrel
          clear HX0 hBj
          by_cases hlt2 : i < 4
          · have HMi := Lib.hid (HM0.out.below hBi (by omega))
            have cm : ∀ t, t < 4 → wr.cell? ⟨w.heap.size, t, none⟩ = some (.int .i64 (nth m t)) := fun t ht => by rw [HMi.out.cell t, arr_get (by rw [HL.out]; exact ht)]
            obtain ⟨q0, q1⟩ := Hm.out i hlt2
            have cS : wr.cell? ⟨w.heap.size + 2, 4 + 0, none⟩ = some (.int .i64 (figTo (dauG m 0) i)) := by rw [HXi.out.cell (4 + 0), arr_get (by rw [dauTo_len m HL.out]; omega), dauTo_at m HL.out hlt]
            have fS := HXi.out.frozen (4 + 0)
            obtain ⟨f0, f1⟩ := figTo_bd (dauG m 0) (k := i) (by omega)
            have ci := cm i hlt2
            have HST := Lib.hid (fun v (hv : figTo (dauG m 0) (i + 1) = v) => (show Blk (wr.setCell ⟨w.heap.size + 2, 4 + 0, none⟩ (.int .i64 v)) (w.heap.size + 2) 24 (arr (dauTo m 0 (i + 1))) from by
              have := HXi.out.set_ (4 + 0) (.int .i64 v)
              rw [arr_set, ← hv, dauTo_set m 0 i, hv] at this
              exact this))
            have EN := Lib.hid (figTo_step (dauG m 0) hlt2)
            have HBt := Lib.hid (bit_or (nth m i) (0 : Int) ⟨q0, q1⟩ (by omega) (by omega))
            have hGx : bitB (nth m i) (0 : Int) = dauG m 0 i := rfl
            obtain ⟨c, hc⟩ : ∃ c, figTo (dauG m 0) i = c := ⟨_, rfl⟩
            obtain ⟨x, hx⟩ : ∃ x, nth m i = x := ⟨_, rfl⟩
            rw [hc] at cS f0 f1 EN
            rw [hx] at ci q0 q1 HBt hGx
            clear cm hc hx
            cases hb : dauG m 0 i
            · skip
              have EN2 := Lib.hid (show figTo (dauG m 0) (i + 1) = c by rw [EN.out, hb]; simp)
              have hand : bits BinOp.and IntKind.i64 x 1 = 0 := by
                have := HBt.out
                rw [show bitB x (0 : Int) = false from hGx.trans hb] at this
                simpa using this
              have hw0 : IntKind.i64.wrap c = c := wraps_i64_62 _ (by omega) (by omega)
              have hwa : IntKind.i64.wrap (c + 1) = c + 1 := wraps_i64_62 _ (by omega) (by omega)
              have hwb : IntKind.i64.wrap (c + 2) = c + 2 := wraps_i64_62 _ (by omega) (by omega)
              have hwc : IntKind.i64.wrap (c + 4) = c + 4 := wraps_i64_62 _ (by omega) (by omega)
              have hwd : IntKind.i64.wrap (c + 8) = c + 8 := wraps_i64_62 _ (by omega) (by omega)
              clear hb hGx
              have e : i = 0 ∨ i = 1 ∨ i = 2 ∨ i = 3 := by omega
              rcases e with rfl | rfl | rfl | rfl
              all_goals
                have wi0 : IntKind.i64.wrap 0 = 0 := by decide
                have wi1 : IntKind.i64.wrap 1 = 1 := by decide
                have wi2 : IntKind.i64.wrap 2 = 2 := by decide
                have wi3 : IntKind.i64.wrap 3 = 3 := by decide
                have wi4 : IntKind.i64.wrap 4 = 4 := by decide
                have wi5 : IntKind.i64.wrap 5 = 5 := by decide
                have wi6 : IntKind.i64.wrap 6 = 6 := by decide
                have wi7 : IntKind.i64.wrap 7 = 7 := by decide
                have wi8 : IntKind.i64.wrap 8 = 8 := by decide
                have wu0 : IntKind.u64.wrap 0 = 0 := by decide
                have wu1 : IntKind.u64.wrap 1 = 1 := by decide
                have wu2 : IntKind.u64.wrap 2 = 2 := by decide
                have wu3 : IntKind.u64.wrap 3 = 3 := by decide
                go_wp2
                go_still_tail 16, (by kernel_rfl)
                go_wp2
                go_roundw
                case rel => first | exact ⟨1, by omega, by go_num, (by have := HST.out _ EN2.out; exact this), (hBi.setCell (by simp) _).drew⟩ | exact ⟨2, by omega, by go_num, (by have := HST.out _ EN2.out; exact this), (hBi.setCell (by simp) _).drew⟩ | exact ⟨3, by omega, by go_num, (by have := HST.out _ EN2.out; exact this), (hBi.setCell (by simp) _).drew⟩ | exact ⟨4, by omega, by go_num, (by have := HST.out _ EN2.out; exact this), (hBi.setCell (by simp) _).drew⟩
                case measure => simp [intOf]
            · skip
              have EN2 := Lib.hid (show figTo (dauG m 0) (i + 1) = c + 2 ^ i by rw [EN.out, hb]; rfl)
              have hand : bits BinOp.and IntKind.i64 x 1 = 1 := by
                have := HBt.out
                rw [show bitB x (0 : Int) = true from hGx.trans hb] at this
                simpa using this
              have hw0 : IntKind.i64.wrap c = c := wraps_i64_62 _ (by omega) (by omega)
              have hwa : IntKind.i64.wrap (c + 1) = c + 1 := wraps_i64_62 _ (by omega) (by omega)
              have hwb : IntKind.i64.wrap (c + 2) = c + 2 := wraps_i64_62 _ (by omega) (by omega)
              have hwc : IntKind.i64.wrap (c + 4) = c + 4 := wraps_i64_62 _ (by omega) (by omega)
              have hwd : IntKind.i64.wrap (c + 8) = c + 8 := wraps_i64_62 _ (by omega) (by omega)
              clear hb hGx
              have e : i = 0 ∨ i = 1 ∨ i = 2 ∨ i = 3 := by omega
              rcases e with rfl | rfl | rfl | rfl
              all_goals
                have wi0 : IntKind.i64.wrap 0 = 0 := by decide
                have wi1 : IntKind.i64.wrap 1 = 1 := by decide
                have wi2 : IntKind.i64.wrap 2 = 2 := by decide
                have wi3 : IntKind.i64.wrap 3 = 3 := by decide
                have wi4 : IntKind.i64.wrap 4 = 4 := by decide
                have wi5 : IntKind.i64.wrap 5 = 5 := by decide
                have wi6 : IntKind.i64.wrap 6 = 6 := by decide
                have wi7 : IntKind.i64.wrap 7 = 7 := by decide
                have wi8 : IntKind.i64.wrap 8 = 8 := by decide
                have wu0 : IntKind.u64.wrap 0 = 0 := by decide
                have wu1 : IntKind.u64.wrap 1 = 1 := by decide
                have wu2 : IntKind.u64.wrap 2 = 2 := by decide
                have wu3 : IntKind.u64.wrap 3 = 3 := by decide
                go_wp2
                go_still_tail 16, (by kernel_rfl)
                go_wp2
                go_roundw
                case rel => first | exact ⟨1, by omega, by go_num, (by have := HST.out _ EN2.out; exact this), (hBi.setCell (by simp) _).drew⟩ | exact ⟨2, by omega, by go_num, (by have := HST.out _ EN2.out; exact this), (hBi.setCell (by simp) _).drew⟩ | exact ⟨3, by omega, by go_num, (by have := HST.out _ EN2.out; exact this), (hBi.setCell (by simp) _).drew⟩ | exact ⟨4, by omega, by go_num, (by have := HST.out _ EN2.out; exact this), (hBi.setCell (by simp) _).drew⟩
                case measure => simp [intOf]
          · obtain rfl : i = 4 := by omega
            have HX4 : Hid (Blk wr (w.heap.size + 2) 24 (arr (dP m (4 + (0 + 1))))) := by have := HXi.out; rw [dauTo_four m HL.out hlt] at this; exact this
            go_wp2
            go_roundw
            case rel => exact ⟨0 + 1, by omega, by go_num, HX4, hBi⟩
            case measure => simp [intOf]
      · skip
        rw [show ((1 : Nat) : Int) = 1 from rfl]
        go_wp2
        clear HXj
        go_loopw [5] (fun v wi => ∃ i : Nat, i ≤ 4 ∧ v = .int .i64 i ∧ Hid (Blk wi (w.heap.size + 2) 24 (arr (dauTo m 1 i))) ∧ Below (w.heap.size + 2) W wi) (fun v _ => 4 - (intOf v).toNat)
        case atStart => exact ⟨0, by omega, rfl, HX0, hBj⟩
        case round =>
          obtain ⟨i, hi, rfl, HXi, hBi⟩ := hrel
          clear HX0 hBj
          by_cases hlt2 : i < 4
          · have HMi := Lib.hid (HM0.out.below hBi (by omega))
            have cm : ∀ t, t < 4 → wr.cell? ⟨w.heap.size, t, none⟩ = some (.int .i64 (nth m t)) := fun t ht => by rw [HMi.out.cell t, arr_get (by rw [HL.out]; exact ht)]
            obtain ⟨q0, q1⟩ := Hm.out i hlt2
            have cS : wr.cell? ⟨w.heap.size + 2, 4 + 1, none⟩ = some (.int .i64 (figTo (dauG m 1) i)) := by rw [HXi.out.cell (4 + 1), arr_get (by rw [dauTo_len m HL.out]; omega), dauTo_at m HL.out hlt]
            have fS := HXi.out.frozen (4 + 1)
            obtain ⟨f0, f1⟩ := figTo_bd (dauG m 1) (k := i) (by omega)
            have ci := cm i hlt2
            have HST := Lib.hid (fun v (hv : figTo (dauG m 1) (i + 1) = v) => (show Blk (wr.setCell ⟨w.heap.size + 2, 4 + 1, none⟩ (.int .i64 v)) (w.heap.size + 2) 24 (arr (dauTo m 1 (i + 1))) from by
              have := HXi.out.set_ (4 + 1) (.int .i64 v)
              rw [arr_set, ← hv, dauTo_set m 1 i, hv] at this
              exact this))
            have EN := Lib.hid (figTo_step (dauG m 1) hlt2)
            have HBt := Lib.hid (bit_or (nth m i) (1 : Int) ⟨q0, q1⟩ (by omega) (by omega))
            have hGx : bitB (nth m i) (1 : Int) = dauG m 1 i := rfl
            obtain ⟨c, hc⟩ : ∃ c, figTo (dauG m 1) i = c := ⟨_, rfl⟩
            obtain ⟨x, hx⟩ : ∃ x, nth m i = x := ⟨_, rfl⟩
            rw [hc] at cS f0 f1 EN
            rw [hx] at ci q0 q1 HBt hGx
            clear cm hc hx
            cases hb : dauG m 1 i
            · skip
              have EN2 := Lib.hid (show figTo (dauG m 1) (i + 1) = c by rw [EN.out, hb]; simp)
              have hand : bits BinOp.and IntKind.i64 (x / 2) 1 = 0 := by
                have := HBt.out
                rw [show bitB x (1 : Int) = false from hGx.trans hb] at this
                simpa using this
              have hw0 : IntKind.i64.wrap c = c := wraps_i64_62 _ (by omega) (by omega)
              have hwa : IntKind.i64.wrap (c + 1) = c + 1 := wraps_i64_62 _ (by omega) (by omega)
              have hwb : IntKind.i64.wrap (c + 2) = c + 2 := wraps_i64_62 _ (by omega) (by omega)
              have hwc : IntKind.i64.wrap (c + 4) = c + 4 := wraps_i64_62 _ (by omega) (by omega)
              have hwd : IntKind.i64.wrap (c + 8) = c + 8 := wraps_i64_62 _ (by omega) (by omega)
              clear hb hGx
              have e : i = 0 ∨ i = 1 ∨ i = 2 ∨ i = 3 := by omega
              rcases e with rfl | rfl | rfl | rfl
              all_goals
                have wi0 : IntKind.i64.wrap 0 = 0 := by decide
                have wi1 : IntKind.i64.wrap 1 = 1 := by decide
                have wi2 : IntKind.i64.wrap 2 = 2 := by decide
                have wi3 : IntKind.i64.wrap 3 = 3 := by decide
                have wi4 : IntKind.i64.wrap 4 = 4 := by decide
                have wi5 : IntKind.i64.wrap 5 = 5 := by decide
                have wi6 : IntKind.i64.wrap 6 = 6 := by decide
                have wi7 : IntKind.i64.wrap 7 = 7 := by decide
                have wi8 : IntKind.i64.wrap 8 = 8 := by decide
                have wu0 : IntKind.u64.wrap 0 = 0 := by decide
                have wu1 : IntKind.u64.wrap 1 = 1 := by decide
                have wu2 : IntKind.u64.wrap 2 = 2 := by decide
                have wu3 : IntKind.u64.wrap 3 = 3 := by decide
                go_wp2
                go_still_tail 16, (by kernel_rfl)
                go_wp2
                go_roundw
                case rel => first | exact ⟨1, by omega, by go_num, (by have := HST.out _ EN2.out; exact this), (hBi.setCell (by simp) _).drew⟩ | exact ⟨2, by omega, by go_num, (by have := HST.out _ EN2.out; exact this), (hBi.setCell (by simp) _).drew⟩ | exact ⟨3, by omega, by go_num, (by have := HST.out _ EN2.out; exact this), (hBi.setCell (by simp) _).drew⟩ | exact ⟨4, by omega, by go_num, (by have := HST.out _ EN2.out; exact this), (hBi.setCell (by simp) _).drew⟩
                case measure => simp [intOf]
            · skip
              have EN2 := Lib.hid (show figTo (dauG m 1) (i + 1) = c + 2 ^ i by rw [EN.out, hb]; rfl)
              have hand : bits BinOp.and IntKind.i64 (x / 2) 1 = 1 := by
                have := HBt.out
                rw [show bitB x (1 : Int) = true from hGx.trans hb] at this
                simpa using this
              have hw0 : IntKind.i64.wrap c = c := wraps_i64_62 _ (by omega) (by omega)
              have hwa : IntKind.i64.wrap (c + 1) = c + 1 := wraps_i64_62 _ (by omega) (by omega)
              have hwb : IntKind.i64.wrap (c + 2) = c + 2 := wraps_i64_62 _ (by omega) (by omega)
              have hwc : IntKind.i64.wrap (c + 4) = c + 4 := wraps_i64_62 _ (by omega) (by omega)
              have hwd : IntKind.i64.wrap (c + 8) = c + 8 := wraps_i64_62 _ (by omega) (by omega)
              clear hb hGx
              have e : i = 0 ∨ i = 1 ∨ i = 2 ∨ i = 3 := by omega
              rcases e with rfl | rfl | rfl | rfl
              all_goals
                have wi0 : IntKind.i64.wrap 0 = 0 := by decide
                have wi1 : IntKind.i64.wrap 1 = 1 := by decide
                have wi2 : IntKind.i64.wrap 2 = 2 := by decide
                have wi3 : IntKind.i64.wrap 3 = 3 := by decide
                have wi4 : IntKind.i64.wrap 4 = 4 := by decide
                have wi5 : IntKind.i64.wrap 5 = 5 := by decide
                have wi6 : IntKind.i64.wrap 6 = 6 := by decide
                have wi7 : IntKind.i64.wrap 7 = 7 := by decide
                have wi8 : IntKind.i64.wrap 8 = 8 := by decide
                have wu0 : IntKind.u64.wrap 0 = 0 := by decide
                have wu1 : IntKind.u64.wrap 1 = 1 := by decide
                have wu2 : IntKind.u64.wrap 2 = 2 := by decide
                have wu3 : IntKind.u64.wrap 3 = 3 := by decide
                go_wp2
                go_still_tail 16, (by kernel_rfl)
                go_wp2
                go_roundw
                case rel => first | exact ⟨1, by omega, by go_num, (by have := HST.out _ EN2.out; exact this), (hBi.setCell (by simp) _).drew⟩ | exact ⟨2, by omega, by go_num, (by have := HST.out _ EN2.out; exact this), (hBi.setCell (by simp) _).drew⟩ | exact ⟨3, by omega, by go_num, (by have := HST.out _ EN2.out; exact this), (hBi.setCell (by simp) _).drew⟩ | exact ⟨4, by omega, by go_num, (by have := HST.out _ EN2.out; exact this), (hBi.setCell (by simp) _).drew⟩
                case measure => simp [intOf]
          · obtain rfl : i = 4 := by omega
            have HX4 : Hid (Blk wr (w.heap.size + 2) 24 (arr (dP m (4 + (1 + 1))))) := by have := HXi.out; rw [dauTo_four m HL.out hlt] at this; exact this
            go_wp2
            go_roundw
            case rel => exact ⟨1 + 1, by omega, by go_num, HX4, hBi⟩
            case measure => simp [intOf]
      · skip
        rw [show ((2 : Nat) : Int) = 2 from rfl]
        go_wp2
        clear HXj
        go_loopw [5] (fun v wi => ∃ i : Nat, i ≤ 4 ∧ v = .int .i64 i ∧ Hid (Blk wi (w.heap.size + 2) 24 (arr (dauTo m 2 i))) ∧ Below (w.heap.size + 2) W wi) (fun v _ => 4 - (intOf v).toNat)
        case atStart => exact ⟨0, by omega, rfl, HX0, hBj⟩
        case round =>
          obtain ⟨i, hi, rfl, HXi, hBi⟩ := hrel
          clear HX0 hBj
          by_cases hlt2 : i < 4
          · have HMi := Lib.hid (HM0.out.below hBi (by omega))
            have cm : ∀ t, t < 4 → wr.cell? ⟨w.heap.size, t, none⟩ = some (.int .i64 (nth m t)) := fun t ht => by rw [HMi.out.cell t, arr_get (by rw [HL.out]; exact ht)]
            obtain ⟨q0, q1⟩ := Hm.out i hlt2
            have cS : wr.cell? ⟨w.heap.size + 2, 4 + 2, none⟩ = some (.int .i64 (figTo (dauG m 2) i)) := by rw [HXi.out.cell (4 + 2), arr_get (by rw [dauTo_len m HL.out]; omega), dauTo_at m HL.out hlt]
            have fS := HXi.out.frozen (4 + 2)
            obtain ⟨f0, f1⟩ := figTo_bd (dauG m 2) (k := i) (by omega)
            have ci := cm i hlt2
            have HST := Lib.hid (fun v (hv : figTo (dauG m 2) (i + 1) = v) => (show Blk (wr.setCell ⟨w.heap.size + 2, 4 + 2, none⟩ (.int .i64 v)) (w.heap.size + 2) 24 (arr (dauTo m 2 (i + 1))) from by
              have := HXi.out.set_ (4 + 2) (.int .i64 v)
              rw [arr_set, ← hv, dauTo_set m 2 i, hv] at this
              exact this))
            have EN := Lib.hid (figTo_step (dauG m 2) hlt2)
            have HBt := Lib.hid (bit_or (nth m i) (2 : Int) ⟨q0, q1⟩ (by omega) (by omega))
            have hGx : bitB (nth m i) (2 : Int) = dauG m 2 i := rfl
            obtain ⟨c, hc⟩ : ∃ c, figTo (dauG m 2) i = c := ⟨_, rfl⟩
            obtain ⟨x, hx⟩ : ∃ x, nth m i = x := ⟨_, rfl⟩
            rw [hc] at cS f0 f1 EN
            rw [hx] at ci q0 q1 HBt hGx
            clear cm hc hx
            cases hb : dauG m 2 i
            · skip
              have EN2 := Lib.hid (show figTo (dauG m 2) (i + 1) = c by rw [EN.out, hb]; simp)
              have hand : bits BinOp.and IntKind.i64 (x / 4) 1 = 0 := by
                have := HBt.out
                rw [show bitB x (2 : Int) = false from hGx.trans hb] at this
                simpa using this
              have hw0 : IntKind.i64.wrap c = c := wraps_i64_62 _ (by omega) (by omega)
              have hwa : IntKind.i64.wrap (c + 1) = c + 1 := wraps_i64_62 _ (by omega) (by omega)
              have hwb : IntKind.i64.wrap (c + 2) = c + 2 := wraps_i64_62 _ (by omega) (by omega)
              have hwc : IntKind.i64.wrap (c + 4) = c + 4 := wraps_i64_62 _ (by omega) (by omega)
              have hwd : IntKind.i64.wrap (c + 8) = c + 8 := wraps_i64_62 _ (by omega) (by omega)
              clear hb hGx
              have e : i = 0 ∨ i = 1 ∨ i = 2 ∨ i = 3 := by omega
              rcases e with rfl | rfl | rfl | rfl
              all_goals
                have wi0 : IntKind.i64.wrap 0 = 0 := by decide
                have wi1 : IntKind.i64.wrap 1 = 1 := by decide
                have wi2 : IntKind.i64.wrap 2 = 2 := by decide
                have wi3 : IntKind.i64.wrap 3 = 3 := by decide
                have wi4 : IntKind.i64.wrap 4 = 4 := by decide
                have wi5 : IntKind.i64.wrap 5 = 5 := by decide
                have wi6 : IntKind.i64.wrap 6 = 6 := by decide
                have wi7 : IntKind.i64.wrap 7 = 7 := by decide
                have wi8 : IntKind.i64.wrap 8 = 8 := by decide
                have wu0 : IntKind.u64.wrap 0 = 0 := by decide
                have wu1 : IntKind.u64.wrap 1 = 1 := by decide
                have wu2 : IntKind.u64.wrap 2 = 2 := by decide
                have wu3 : IntKind.u64.wrap 3 = 3 := by decide
                go_wp2
                go_still_tail 16, (by kernel_rfl)
                go_wp2
                go_roundw
                case rel => first | exact ⟨1, by omega, by go_num, (by have := HST.out _ EN2.out; exact this), (hBi.setCell (by simp) _).drew⟩ | exact ⟨2, by omega, by go_num, (by have := HST.out _ EN2.out; exact this), (hBi.setCell (by simp) _).drew⟩ | exact ⟨3, by omega, by go_num, (by have := HST.out _ EN2.out; exact this), (hBi.setCell (by simp) _).drew⟩ | exact ⟨4, by omega, by go_num, (by have := HST.out _ EN2.out; exact this), (hBi.setCell (by simp) _).drew⟩
                case measure => simp [intOf]
            · skip
              have EN2 := Lib.hid (show figTo (dauG m 2) (i + 1) = c + 2 ^ i by rw [EN.out, hb]; rfl)
              have hand : bits BinOp.and IntKind.i64 (x / 4) 1 = 1 := by
                have := HBt.out
                rw [show bitB x (2 : Int) = true from hGx.trans hb] at this
                simpa using this
              have hw0 : IntKind.i64.wrap c = c := wraps_i64_62 _ (by omega) (by omega)
              have hwa : IntKind.i64.wrap (c + 1) = c + 1 := wraps_i64_62 _ (by omega) (by omega)
              have hwb : IntKind.i64.wrap (c + 2) = c + 2 := wraps_i64_62 _ (by omega) (by omega)
              have hwc : IntKind.i64.wrap (c + 4) = c + 4 := wraps_i64_62 _ (by omega) (by omega)
              have hwd : IntKind.i64.wrap (c + 8) = c + 8 := wraps_i64_62 _ (by omega) (by omega)
              clear hb hGx
              have e : i = 0 ∨ i = 1 ∨ i = 2 ∨ i = 3 := by omega
              rcases e with rfl | rfl | rfl | rfl
              all_goals
                have wi0 : IntKind.i64.wrap 0 = 0 := by decide
                have wi1 : IntKind.i64.wrap 1 = 1 := by decide
                have wi2 : IntKind.i64.wrap 2 = 2 := by decide
                have wi3 : IntKind.i64.wrap 3 = 3 := by decide
                have wi4 : IntKind.i64.wrap 4 = 4 := by decide
                have wi5 : IntKind.i64.wrap 5 = 5 := by decide
                have wi6 : IntKind.i64.wrap 6 = 6 := by decide
                have wi7 : IntKind.i64.wrap 7 = 7 := by decide
                have wi8 : IntKind.i64.wrap 8 = 8 := by decide
                have wu0 : IntKind.u64.wrap 0 = 0 := by decide
                have wu1 : IntKind.u64.wrap 1 = 1 := by decide
                have wu2 : IntKind.u64.wrap 2 = 2 := by decide
                have wu3 : IntKind.u64.wrap 3 = 3 := by decide
                go_wp2
                go_still_tail 16, (by kernel_rfl)
                go_wp2
                go_roundw
                case rel => first | exact ⟨1, by omega, by go_num, (by have := HST.out _ EN2.out; exact this), (hBi.setCell (by simp) _).drew⟩ | exact ⟨2, by omega, by go_num, (by have := HST.out _ EN2.out; exact this), (hBi.setCell (by simp) _).drew⟩ | exact ⟨3, by omega, by go_num, (by have := HST.out _ EN2.out; exact this), (hBi.setCell (by simp) _).drew⟩ | exact ⟨4, by omega, by go_num, (by have := HST.out _ EN2.out; exact this), (hBi.setCell (by simp) _).drew⟩
                case measure => simp [intOf]
          · obtain rfl : i = 4 := by omega
            have HX4 : Hid (Blk wr (w.heap.size + 2) 24 (arr (dP m (4 + (2 + 1))))) := by have := HXi.out; rw [dauTo_four m HL.out hlt] at this; exact this
            go_wp2
            go_roundw
            case rel => exact ⟨2 + 1, by omega, by go_num, HX4, hBi⟩
            case measure => simp [intOf]
      · skip
        rw [show ((3 : Nat) : Int) = 3 from rfl]
        go_wp2
        clear HXj
        go_loopw [5] (fun v wi => ∃ i : Nat, i ≤ 4 ∧ v = .int .i64 i ∧ Hid (Blk wi (w.heap.size + 2) 24 (arr (dauTo m 3 i))) ∧ Below (w.heap.size + 2) W wi) (fun v _ => 4 - (intOf v).toNat)
        case atStart => exact ⟨0, by omega, rfl, HX0, hBj⟩
        case round =>
          obtain ⟨i, hi, rfl, HXi, hBi⟩ := hrel
          clear HX0 hBj
          by_cases hlt2 : i < 4
          · have HMi := Lib.hid (HM0.out.below hBi (by omega))
            have cm : ∀ t, t < 4 → wr.cell? ⟨w.heap.size, t, none⟩ = some (.int .i64 (nth m t)) := fun t ht => by rw [HMi.out.cell t, arr_get (by rw [HL.out]; exact ht)]
            obtain ⟨q0, q1⟩ := Hm.out i hlt2
            have cS : wr.cell? ⟨w.heap.size + 2, 4 + 3, none⟩ = some (.int .i64 (figTo (dauG m 3) i)) := by rw [HXi.out.cell (4 + 3), arr_get (by rw [dauTo_len m HL.out]; omega), dauTo_at m HL.out hlt]
            have fS := HXi.out.frozen (4 + 3)
            obtain ⟨f0, f1⟩ := figTo_bd (dauG m 3) (k := i) (by omega)
            have ci := cm i hlt2
            have HST := Lib.hid (fun v (hv : figTo (dauG m 3) (i + 1) = v) => (show Blk (wr.setCell ⟨w.heap.size + 2, 4 + 3, none⟩ (.int .i64 v)) (w.heap.size + 2) 24 (arr (dauTo m 3 (i + 1))) from by
              have := HXi.out.set_ (4 + 3) (.int .i64 v)
              rw [arr_set, ← hv, dauTo_set m 3 i, hv] at this
              exact this))
            have EN := Lib.hid (figTo_step (dauG m 3) hlt2)
            have HBt := Lib.hid (bit_or (nth m i) (3 : Int) ⟨q0, q1⟩ (by omega) (by omega))
            have hGx : bitB (nth m i) (3 : Int) = dauG m 3 i := rfl
            obtain ⟨c, hc⟩ : ∃ c, figTo (dauG m 3) i = c := ⟨_, rfl⟩
            obtain ⟨x, hx⟩ : ∃ x, nth m i = x := ⟨_, rfl⟩
            rw [hc] at cS f0 f1 EN
            rw [hx] at ci q0 q1 HBt hGx
            clear cm hc hx
            cases hb : dauG m 3 i
            · skip
              have EN2 := Lib.hid (show figTo (dauG m 3) (i + 1) = c by rw [EN.out, hb]; simp)
              have hand : bits BinOp.and IntKind.i64 (x / 8) 1 = 0 := by
                have := HBt.out
                rw [show bitB x (3 : Int) = false from hGx.trans hb] at this
                simpa using this
              have hw0 : IntKind.i64.wrap c = c := wraps_i64_62 _ (by omega) (by omega)
              have hwa : IntKind.i64.wrap (c + 1) = c + 1 := wraps_i64_62 _ (by omega) (by omega)
              have hwb : IntKind.i64.wrap (c + 2) = c + 2 := wraps_i64_62 _ (by omega) (by omega)
              have hwc : IntKind.i64.wrap (c + 4) = c + 4 := wraps_i64_62 _ (by omega) (by omega)
              have hwd : IntKind.i64.wrap (c + 8) = c + 8 := wraps_i64_62 _ (by omega) (by omega)
              clear hb hGx
              have e : i = 0 ∨ i = 1 ∨ i = 2 ∨ i = 3 := by omega
              rcases e with rfl | rfl | rfl | rfl
              all_goals
                have wi0 : IntKind.i64.wrap 0 = 0 := by decide
                have wi1 : IntKind.i64.wrap 1 = 1 := by decide
                have wi2 : IntKind.i64.wrap 2 = 2 := by decide
                have wi3 : IntKind.i64.wrap 3 = 3 := by decide
                have wi4 : IntKind.i64.wrap 4 = 4 := by decide
                have wi5 : IntKind.i64.wrap 5 = 5 := by decide
                have wi6 : IntKind.i64.wrap 6 = 6 := by decide
                have wi7 : IntKind.i64.wrap 7 = 7 := by decide
                have wi8 : IntKind.i64.wrap 8 = 8 := by decide
                have wu0 : IntKind.u64.wrap 0 = 0 := by decide
                have wu1 : IntKind.u64.wrap 1 = 1 := by decide
                have wu2 : IntKind.u64.wrap 2 = 2 := by decide
                have wu3 : IntKind.u64.wrap 3 = 3 := by decide
                go_wp2
                go_still_tail 16, (by kernel_rfl)
                go_wp2
                go_roundw
                case rel => first | exact ⟨1, by omega, by go_num, (by have := HST.out _ EN2.out; exact this), (hBi.setCell (by simp) _).drew⟩ | exact ⟨2, by omega, by go_num, (by have := HST.out _ EN2.out; exact this), (hBi.setCell (by simp) _).drew⟩ | exact ⟨3, by omega, by go_num, (by have := HST.out _ EN2.out; exact this), (hBi.setCell (by simp) _).drew⟩ | exact ⟨4, by omega, by go_num, (by have := HST.out _ EN2.out; exact this), (hBi.setCell (by simp) _).drew⟩
                case measure => simp [intOf]
            · skip
              have EN2 := Lib.hid (show figTo (dauG m 3) (i + 1) = c + 2 ^ i by rw [EN.out, hb]; rfl)
              have hand : bits BinOp.and IntKind.i64 (x / 8) 1 = 1 := by
                have := HBt.out
                rw [show bitB x (3 : Int) = true from hGx.trans hb] at this
                simpa using this
              have hw0 : IntKind.i64.wrap c = c := wraps_i64_62 _ (by omega) (by omega)
              have hwa : IntKind.i64.wrap (c + 1) = c + 1 := wraps_i64_62 _ (by omega) (by omega)
              have hwb : IntKind.i64.wrap (c + 2) = c + 2 := wraps_i64_62 _ (by omega) (by omega)
              have hwc : IntKind.i64.wrap (c + 4) = c + 4 := wraps_i64_62 _ (by omega) (by omega)
              have hwd : IntKind.i64.wrap (c + 8) = c + 8 := wraps_i64_62 _ (by omega) (by omega)
              clear hb hGx
              have e : i = 0 ∨ i = 1 ∨ i = 2 ∨ i = 3 := by omega
              rcases e with rfl | rfl | rfl | rfl
              all_goals
                have wi0 : IntKind.i64.wrap 0 = 0 := by decide
                have wi1 : IntKind.i64.wrap 1 = 1 := by decide
                have wi2 : IntKind.i64.wrap 2 = 2 := by decide
                have wi3 : IntKind.i64.wrap 3 = 3 := by decide
                have wi4 : IntKind.i64.wrap 4 = 4 := by decide
                have wi5 : IntKind.i64.wrap 5 = 5 := by decide
                have wi6 : IntKind.i64.wrap 6 = 6 := by decide
                have wi7 : IntKind.i64.wrap 7 = 7 := by decide
                have wi8 : IntKind.i64.wrap 8 = 8 := by decide
                have wu0 : IntKind.u64.wrap 0 = 0 := by decide
                have wu1 : IntKind.u64.wrap 1 = 1 := by decide
                have wu2 : IntKind.u64.wrap 2 = 2 := by decide
                have wu3 : IntKind.u64.wrap 3 = 3 := by decide
                go_wp2
                go_still_tail 16, (by kernel_rfl)
                go_wp2
                go_roundw
                case rel => first | exact ⟨1, by omega, by go_num, (by have := HST.out _ EN2.out; exact this), (hBi.setCell (by simp) _).drew⟩ | exact ⟨2, by omega, by go_num, (by have := HST.out _ EN2.out; exact this), (hBi.setCell (by simp) _).drew⟩ | exact ⟨3, by omega, by go_num, (by have := HST.out _ EN2.out; exact this), (hBi.setCell (by simp) _).drew⟩ | exact ⟨4, by omega, by go_num, (by have := HST.out _ EN2.out; exact this), (hBi.setCell (by simp) _).drew⟩
                case measure => simp [intOf]
          · obtain rfl : i = 4 := by omega
            have HX4 : Hid (Blk wr (w.heap.size + 2) 24 (arr (dP m (4 + (3 + 1))))) := by have := HXi.out; rw [dauTo_four m HL.out hlt] at this; exact this
            go_wp2
            go_roundw
            case rel => exact ⟨3 + 1, by omega, by go_num, HX4, hBi⟩
            case measure => simp [intOf]
    · obtain rfl : j = 4 := by omega
      rw [show ((4 : Nat) : Int) = 4 from rfl]
      go_wp2
      go_loopw [6] (fun v wi => ∃ p : Nat, 8 ≤ p ∧ p ≤ 16 ∧ v = .int .i64 p ∧ Hid (Blk wi (w.heap.size + 2) 24 (arr (dP m p))) ∧ Below (w.heap.size + 2) W wi) (fun v _ => 16 - (intOf v).toNat)
      case atStart => exact ⟨8, by omega, by omega, rfl, HXj, hBj⟩
      case round =>
        obtain ⟨p, hp8, hp16, rfl, HXp, hBp⟩ := hrel
        clear HXj hBj
        have Hlen := Lib.hid (show (dP m p).length = 16 from dTo_length m HL.out (p - 4))
        by_cases hlt : p < 16
        · have hpc : p = 8 ∨ p = 9 ∨ p = 10 ∨ p = 11 ∨ p = 12 ∨ p = 13 ∨ p = 14 ∨ p = 15 := by omega
          obtain ⟨a1, a2⟩ := parAB_lt hp8 hlt
          have cA : wr.cell? ⟨w.heap.size + 2, parA p, none⟩ = some (.int .i64 (nth (dP m p) (parA p))) := by rw [HXp.out.cell (parA p), arr_get (by rw [Hlen.out]; exact a1)]
          have cB : wr.cell? ⟨w.heap.size + 2, parB p, none⟩ = some (.int .i64 (nth (dP m p) (parB p))) := by rw [HXp.out.cell (parB p), arr_get (by rw [Hlen.out]; exact a2)]
          have cP : wr.cell? ⟨w.heap.size + 2, p, none⟩ = some (.int .i64 (nth (dP m p) p)) := by rw [HXp.out.cell p, arr_get (by rw [Hlen.out]; exact hlt)]
          have fP := HXp.out.frozen p
          have HF := Lib.hid (show followF (dP m p) p = bits BinOp.xor IntKind.i64 (nth (dP m p) (parA p)) (nth (dP m p) (parB p)) by unfold followF; rw [if_neg (by omega)]; rfl)
          have HS := Lib.hid (show Blk (wr.setCell ⟨w.heap.size + 2, p, none⟩ (.int .i64 (bits BinOp.xor IntKind.i64 (nth (dP m p) (parA p)) (nth (dP m p) (parB p))))) (w.heap.size + 2) 24 (arr (dP m (p + 1))) from by
            have := HXp.out.set_ p (.int .i64 (followF (dP m p) p))
            rw [arr_set, ← dP_succ m (by omega), HF.out] at this
            exact this)
          have C := fun W => refParents_any p hp8 hlt W
          obtain ⟨x, hx⟩ : ∃ x, nth (dP m p) (parA p) = x := ⟨_, rfl⟩
          obtain ⟨y, hy⟩ : ∃ y, nth (dP m p) (parB p) = y := ⟨_, rfl⟩
          rw [hx, hy] at HS
          rw [hx] at cA
          rw [hy] at cB
          clear hx hy HF a1 a2
          rcases hpc with rfl | rfl | rfl | rfl | rfl | rfl | rfl | rfl
          · rw [show parA 8 = 0 from rfl] at cA C
            rw [show parB 8 = 1 from rfl] at cB C
            go_wp2_with fail
            refine (C _).mono ?_
            rintro e w5 ⟨rfl, rfl⟩
            clear C
            go_wp2_with fail
            go_still_tail 9, (by kernel_rfl)
            go_wp2_with fail
            go_roundw
            case rel => exact ⟨9, by omega, by omega, by go_num, HS.out, (hBp.setCell (by simp) _).drew⟩
            case measure => simp [intOf]
          · rw [show parA 9 = 2 from rfl] at cA C
            rw [show parB 9 = 3 from rfl] at cB C
            go_wp2_with fail
            refine (C _).mono ?_
            rintro e w5 ⟨rfl, rfl⟩
            clear C
            go_wp2_with fail
            go_still_tail 9, (by kernel_rfl)
            go_wp2_with fail
            go_roundw
            case rel => exact ⟨10, by omega, by omega, by go_num, HS.out, (hBp.setCell (by simp) _).drew⟩
            case measure => simp [intOf]
          · rw [show parA 10 = 4 from rfl] at cA C
            rw [show parB 10 = 5 from rfl] at cB C
            go_wp2_with fail
            refine (C _).mono ?_
            rintro e w5 ⟨rfl, rfl⟩
            clear C
            go_wp2_with fail
            go_still_tail 9, (by kernel_rfl)
            go_wp2_with fail
            go_roundw
            case rel => exact ⟨11, by omega, by omega, by go_num, HS.out, (hBp.setCell (by simp) _).drew⟩
            case measure => simp [intOf]
          · rw [show parA 11 = 6 from rfl] at cA C
            rw [show parB 11 = 7 from rfl] at cB C
            go_wp2_with fail
            refine (C _).mono ?_
            rintro e w5 ⟨rfl, rfl⟩
            clear C
            go_wp2_with fail
            go_still_tail 9, (by kernel_rfl)
            go_wp2_with fail
            go_roundw
            case rel => exact ⟨12, by omega, by omega, by go_num, HS.out, (hBp.setCell (by simp) _).drew⟩
            case measure => simp [intOf]
          · rw [show parA 12 = 8 from rfl] at cA C
            rw [show parB 12 = 9 from rfl] at cB C
            go_wp2_with fail
            refine (C _).mono ?_
            rintro e w5 ⟨rfl, rfl⟩
            clear C
            go_wp2_with fail
            go_still_tail 9, (by kernel_rfl)
            go_wp2_with fail
            go_roundw
            case rel => exact ⟨13, by omega, by omega, by go_num, HS.out, (hBp.setCell (by simp) _).drew⟩
            case measure => simp [intOf]
          · rw [show parA 13 = 10 from rfl] at cA C
            rw [show parB 13 = 11 from rfl] at cB C
            go_wp2_with fail
            refine (C _).mono ?_
            rintro e w5 ⟨rfl, rfl⟩
            clear C
            go_wp2_with fail
            go_still_tail 9, (by kernel_rfl)
            go_wp2_with fail
            go_roundw
            case rel => exact ⟨14, by omega, by omega, by go_num, HS.out, (hBp.setCell (by simp) _).drew⟩
            case measure => simp [intOf]
          · rw [show parA 14 = 12 from rfl] at cA C
            rw [show parB 14 = 13 from rfl] at cB C
            go_wp2_with fail
            refine (C _).mono ?_
            rintro e w5 ⟨rfl, rfl⟩
            clear C
            go_wp2_with fail
            go_still_tail 9, (by kernel_rfl)
            go_wp2_with fail
            go_roundw
            case rel => exact ⟨15, by omega, by omega, by go_num, HS.out, (hBp.setCell (by simp) _).drew⟩
            case measure => simp [intOf]
          · rw [show parA 15 = 14 from rfl] at cA C
            rw [show parB 15 = 0 from rfl] at cB C
            go_wp2_with fail
            refine (C _).mono ?_
            rintro e w5 ⟨rfl, rfl⟩
            clear C
            go_wp2_with fail
            go_still_tail 9, (by kernel_rfl)
            go_wp2_with fail
            go_roundw
            case rel => exact ⟨16, by omega, by omega, by go_num, HS.out, (hBp.setCell (by simp) _).drew⟩
            case measure => simp [intOf]
        · obtain rfl : p = 16 := by omega
          have HR2 := Lib.hid (HR.out.below hBp (by omega))
          have HI := Lib.hid (show (Tryd.prog.info? 24).map (·.size) = some (arr (dP m 16)).size by rw [arr_size, Hlen.out]; exact info_shield)
          have HO := Lib.hid (show (arr (List.replicate 16 0)).size = (arr (dP m 16)).size by rw [arr_size, arr_size, Hlen.out]; rfl)
          have HW : Below w.heap.size w wr := hB.trans (hBp.mono (by omega))
          clear hBp hB
          go_wp2_with (first | (refine wpList_load_row rfl 24 (.tmp 3) rfl (w.heap.size + 2) rfl 24 (arr (dP m 16)) (0, 0) _ HXp.out Tryd.underlying24 rfl HI.out ?_) | (refine wpList_store_row rfl 24 (.tmp 2) (.tmp 60) rfl (w.heap.size + 1) (arr (dP m 16)) rfl rfl 24 _ HR2.out HI.out HO.out (arr_one _) ?_))
          exact bodyPost_ret (v := .agg (arr (dP m 16))) (results_cell_row Tryd.results31 _ _ (w.heap.size + 1) 24 _ (0, 0) _ rfl (HR2.out.row _) Tryd.underlying24 rfl HI.out) rfl ⟨by rw [Hmm.out], below_setRow HW (by omega) _⟩
end Go.Proofs.YtjhjgkocoghgfaaDoor
