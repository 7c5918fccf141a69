/-
  The circle of houses: how ties are ordered; occupations.
-/
import Derived.Test.YtdnccdobnhbpeaaDoorHcD
import Derived.Shelf.SlSortCmp.WholeK
namespace Go.Proofs.YtdnccdobnhbpeaaDoor
open Go Go.RowKit Go.Shelf
set_option linter.unusedVariables false
set_option linter.unusedSimpArgs false

/-- A region whose order is drawn, where one operation alone turns the world, in a way that is known. -/
theorem wp_region_one {P : Program} {ops : Array Oper} {Q : Exit → Act → World → Prop} {id : Nat} {a0 : Act} {w : World} (hm : P.follows .mixedOrders = true) (dsts : List (Option Nat)) (hok : regB ops dsts a0.tmps.size = true) (vals : List Value) (hl : vals.length = ops.size) (m : Nat) (hmi : m < ops.size) (g : World → World)
    (step : ∀ i, i < ops.size → ∀ a V, (i = m → V = w.drew) → (V = w.drew ∨ V = g w.drew) → ((clo ops i).testBit m = true → V = g w.drew) → (∀ j t, (clo ops i).testBit j = true → dsts[j]? = some (some t) → a.tmps[t]?.getD undef = vals.getD j undef) → (∀ t, keptB ops dsts i t = true → a.tmps[t]?.getD undef = a0.tmps[t]?.getD undef) → wpOp P ops Q i (fun a' V' => a' = a.put (dsts.getD i none) (vals.getD i undef) ∧ V' = if i = m then g V else V) a V)
    (fin : Q .normal ⟨⟨finV dsts vals a0.tmps.toList⟩, a0.defers⟩ (g w.drew)) : (Code.region id ops true).wp P Q a0 w := by
  have hgd : ∀ b i j, (b ||| 2 ^ i).testBit j = (b.testBit j || decide (i = j)) := fun b i j => by rw [Nat.testBit_or, Nat.testBit_two_pow]
  refine wp_region_gen hm dsts hok (fun b v V => V = (if b.testBit m = true then g w.drew else w.drew) ∧ ∀ j, b.testBit j = true → v j = vals.getD j undef) ?_ ?_ ?_
  · exact ⟨by simp, fun j h => by simp at h⟩
  · rintro i hi a V b v ⟨hV, hv⟩ hbi F
    refine wpOp_mono ?_ (step i hi a V (fun e => by rw [hV, if_neg (by rw [← e, hbi]; simp)]) (by rw [hV]; split <;> simp) (fun h => by rw [hV, if_pos (F.bits m h)]) (fun j t hj ht => (F.dep j t hj ht).trans (hv j (F.bits j hj))) F.kept)
    rintro a' V' ⟨rfl, hV'⟩
    refine ⟨_, rfl, ?_, fun j hj => ?_⟩
    · rw [hV', hgd]
      by_cases e : i = m
      · subst e
        rw [if_pos rfl, hV, hbi]
        simp
      · rw [if_neg e, hV]
        simp [e]
    · by_cases e : j = i
      · show (if j = i then _ else _) = _
        rw [if_pos e, e]
      · show (if j = i then _ else _) = _
        rw [if_neg e]
        exact hv j (by rw [hgd] at hj; simpa [Ne.symm e] using hj)
  · rintro v V ⟨hV, hv⟩
    simp only [regB, Bool.and_eq_true, decide_eq_true_eq, beq_iff_eq, List.all_eq_true] at hok
    have hlen : dsts.length = ops.size := by rw [← hok.1.1.2]; simp
    have hbit : ∀ k, k < ops.size → (2 ^ ops.size - 1).testBit k = true := fun k hk => by rw [Nat.testBit_two_pow_sub_one]; simpa using hk
    rw [hV, if_pos (hbit m hmi), finD_vals v dsts vals 0 _ (by omega) (fun k hk => by rw [Nat.zero_add]; exact hv k (hbit k (by omega)))]
    exact fin
/-- How two numbers compare. -/
def c3 (x y : Int) : Int := if x < y then -1 else if y < x then 1 else 0
/-- The first number that is not 0. -/
def orN (x y z : Int) : Int := if x ≠ 0 then x else if y ≠ 0 then y else z
def cfT (t u : T3) : Int := orN (c3 t.1 u.1) (c3 t.2.1 u.2.1) (c3 t.2.2 u.2.2)
set_option maxRecDepth 100000 in
theorem isNaNI_any (x : Int) (w : World) : Calls Tryd.prog 86 #[.int .i64 x] w fun e w' => e = .returned (.bool false) ∧ w' = w := by
  go_enter Tryd.func86, Tryd.ntmps86
  go_wp2
  go_ret
  exact ⟨by simp, rfl⟩
set_option maxRecDepth 100000 in
set_option maxHeartbeats 1000000 in
theorem compareI_any (x y : Int) (w : World) : Calls Tryd.prog 65 #[.int .i64 x, .int .i64 y] w fun e w' => e = .returned (.int .i64 (c3 x y)) ∧ w' = w := by
  by_cases h1 : x < y
  · have H := Lib.hid (show c3 x y = -1 by unfold c3; rw [if_pos h1])
    go_enter Tryd.func65, Tryd.ntmps65
    go_wp2_with (go_at_call 86; refine (isNaNI_any _ _).mono ?_; rintro e w' ⟨rfl, rfl⟩)
    go_ret
    exact ⟨by rw [H.out]; rfl, rfl⟩
  · have h1' : y ≤ x := by omega
    by_cases h2 : y < x
    · have H := Lib.hid (show c3 x y = 1 by unfold c3; rw [if_neg h1, if_pos h2])
      go_enter Tryd.func65, Tryd.ntmps65
      go_wp2_with (go_at_call 86; refine (isNaNI_any _ _).mono ?_; rintro e w' ⟨rfl, rfl⟩)
      go_ret
      exact ⟨by rw [H.out]; rfl, rfl⟩
    · have H := Lib.hid (show c3 x y = 0 by unfold c3; rw [if_neg h1, if_neg h2])
      have h2' : x ≤ y := by omega
      go_enter Tryd.func65, Tryd.ntmps65
      go_wp2_with (go_at_call 86; refine (isNaNI_any _ _).mono ?_; rintro e w' ⟨rfl, rfl⟩)
      go_ret
      exact ⟨by rw [H.out]; rfl, rfl⟩
set_option maxRecDepth 100000 in
theorem isNaNK_any (x : Int) (w : World) : Calls Tryd.prog 85 #[.int .i64 x] w fun e w' => e = .returned (.bool false) ∧ w' = w := by
  go_enter Tryd.func85, Tryd.ntmps85
  go_wp2
  go_ret
  exact ⟨by simp, rfl⟩
set_option maxRecDepth 100000 in
set_option maxHeartbeats 1000000 in
theorem compareK_any (x y : Int) (w : World) : Calls Tryd.prog 64 #[.int .i64 x, .int .i64 y] w fun e w' => e = .returned (.int .i64 (c3 x y)) ∧ w' = w := by
  by_cases h1 : x < y
  · have H := Lib.hid (show c3 x y = -1 by unfold c3; rw [if_pos h1])
    go_enter Tryd.func64, Tryd.ntmps64
    go_wp2_with (go_at_call 85; refine (isNaNK_any _ _).mono ?_; rintro e w' ⟨rfl, rfl⟩)
    go_ret
    exact ⟨by rw [H.out]; rfl, rfl⟩
  · have h1' : y ≤ x := by omega
    by_cases h2 : y < x
    · have H := Lib.hid (show c3 x y = 1 by unfold c3; rw [if_neg h1, if_pos h2])
      go_enter Tryd.func64, Tryd.ntmps64
      go_wp2_with (go_at_call 85; refine (isNaNK_any _ _).mono ?_; rintro e w' ⟨rfl, rfl⟩)
      go_ret
      exact ⟨by rw [H.out]; rfl, rfl⟩
    · have H := Lib.hid (show c3 x y = 0 by unfold c3; rw [if_neg h1, if_neg h2])
      have h2' : x ≤ y := by omega
      go_enter Tryd.func64, Tryd.ntmps64
      go_wp2_with (go_at_call 85; refine (isNaNK_any _ _).mono ?_; rintro e w' ⟨rfl, rfl⟩)
      go_ret
      exact ⟨by rw [H.out]; rfl, rfl⟩
set_option maxRecDepth 100000 in
set_option maxHeartbeats 2000000 in
theorem or_any (x y z : Int) (g : Nat) (c : Nat) (w : World) (h0 : w.cell? ⟨g, 0, none⟩ = some (.int .i64 x)) (h1 : w.cell? ⟨g, 1, none⟩ = some (.int .i64 y)) (h2 : w.cell? ⟨g, 2, none⟩ = some (.int .i64 z)) :
    Calls Tryd.prog 63 #[.slice (some ⟨g, 0, none⟩) 3 c] w fun e w' => e = .returned (.int .i64 (orN x y z)) ∧ w' = w := by
  have hR : Reads w (some ⟨g, 0, none⟩) [x, y, z] := fun k hk => by
    refine ⟨g, 0, rfl, ?_⟩
    have e : k = 0 ∨ k = 1 ∨ k = 2 := by simp at hk; omega
    rcases e with rfl | rfl | rfl
    · exact h0
    · exact h1
    · exact h2
  go_enter Tryd.func63, Tryd.ntmps63
  go_wp2
  go_loop [8] (fun i => ∃ k : Nat, k ≤ 3 ∧ i = .int .i64 (k : Int) ∧ Hid (∀ j, j < k → nth [x, y, z] j = 0)) (fun i => 3 - (intOf i).toNat)
  case atStart => exact ⟨0, by omega, rfl, Lib.hid (fun j hj => by omega)⟩
  case round =>
    obtain ⟨k, hk, rfl, HN⟩ := hrel
    by_cases hlt : k < 3
    · obtain ⟨q, o, e, hc⟩ := hR k (by simpa using hlt)
      cases e
      rw [Nat.zero_add] at hc
      obtain ⟨v, hv⟩ : ∃ v, nth [x, y, z] k = v := ⟨_, rfl⟩
      rw [hv] at hc
      have HV := Lib.hid hv
      have hki : (k : Int) < 3 := by omega
      clear hv h0 h1 h2 hR
      cases hz : (v != 0)
      · have hv0 : v = 0 := by simpa using hz
        go_wp2
        go_round
        case rel => exact ⟨k + 1, by omega, by first | rfl | go_num, Lib.hid (fun j hj => by
          by_cases e : j = k
          · subst e; rw [HV.out]; exact hv0
          · exact HN.out j (by omega))⟩
        case measure => simp [intOf]; omega
      · have hvn : v ≠ 0 := by simpa using hz
        have HE := Lib.hid (show orN x y z = v by
          have e : k = 0 ∨ k = 1 ∨ k = 2 := by omega
          have h := HV.out
          unfold orN
          rcases e with rfl | rfl | rfl
          · have : x = v := h
            rw [if_pos (by rw [this]; exact hvn), this]
          · have hx : x = 0 := HN.out 0 (by omega)
            have : y = v := h
            rw [if_neg (by simp [hx]), if_pos (by rw [this]; exact hvn), this]
          · have hx : x = 0 := HN.out 0 (by omega)
            have hy : y = 0 := HN.out 1 (by omega)
            have : z = v := h
            rw [if_neg (by simp [hx]), if_neg (by simp [hy]), this])
        clear hvn
        go_wp2
        go_ret
        exact ⟨by rw [HE.out]; rfl, rfl⟩
    · have hk3 : k = 3 := by omega
      subst hk3
      have HE := Lib.hid (show orN x y z = 0 by
        have hx : x = 0 := HN.out 0 (by omega)
        have hy : y = 0 := HN.out 1 (by omega)
        have hz : z = 0 := HN.out 2 (by omega)
        simp [orN, hx, hy, hz])
      clear h0 h1 h2 hR
      go_wp2
      go_ret
      exact ⟨by rw [HE.out]; rfl, rfl⟩
set_option maxRecDepth 100000 in
set_option maxHeartbeats 4000000 in
/-- The closure that compares two ties: in whatever world. -/
theorem closT_any (t1 t2 t3 u1 u2 u3 : Int) (W : World) :
    Calls Tryd.prog 62 #[.agg #[.int .i64 t1, .int .i64 t2, .int .i64 t3], .agg #[.int .i64 u1, .int .i64 u2, .int .i64 u3]] W fun e w' => e = .returned (.int .i64 (orN (c3 t1 u1) (c3 t2 u2) (c3 t3 u3))) ∧ ∃ q os', w' = Go.Sort.grow (W.drewN q) os' := by
  obtain ⟨W2, hW2⟩ : ∃ W2, (W.alloc (.cells #[.int .i64 t1, .int .i64 t2, .int .i64 t3] 66)).alloc (.cells #[.int .i64 u1, .int .i64 u2, .int .i64 u3] 66) = W2 := ⟨_, rfl⟩
  obtain ⟨d1, hd1⟩ : ∃ d, c3 t1 u1 = d := ⟨_, rfl⟩
  obtain ⟨d2, hd2⟩ : ∃ d, c3 t2 u2 = d := ⟨_, rfl⟩
  obtain ⟨d3, hd3⟩ : ∃ d, c3 t3 u3 = d := ⟨_, rfl⟩
  rw [hd1, hd2, hd3]
  have HD1 := Lib.hid hd1
  have HD2 := Lib.hid hd2
  have HD3 := Lib.hid hd3
  clear hd1 hd2 hd3
  have hs2 : W2.heap.size = W.heap.size + 1 + 1 := by rw [← hW2]; simp
  have b2 : Blk W2 W.heap.size 66 #[.int .i64 t1, .int .i64 t2, .int .i64 t3] := by rw [← hW2]; exact (Blk.new _ _ _).alloc _
  have b3 : Blk W2 (W.heap.size + 1) 66 #[.int .i64 u1, .int .i64 u2, .int .i64 u3] := by
    rw [← hW2]
    have e1 : (W.alloc (.cells #[.int .i64 t1, .int .i64 t2, .int .i64 t3] 66)).heap.size = W.heap.size + 1 := by simp
    rw [← e1]; exact Blk.new _ _ _
  have hcells : ∀ V, (V = W2.drew ∨ V = W2.drew.alloc (.cells #[.int .i64 d1, .int .i64 d2, .int .i64 d3] 3)) → V.cell? ⟨W.heap.size, 0, none⟩ = some (.int .i64 t1) ∧ V.cell? ⟨W.heap.size, 1, none⟩ = some (.int .i64 t2) ∧ V.cell? ⟨W.heap.size, 2, none⟩ = some (.int .i64 t3) ∧ V.cell? ⟨W.heap.size + 1, 0, none⟩ = some (.int .i64 u1) ∧ V.cell? ⟨W.heap.size + 1, 1, none⟩ = some (.int .i64 u2) ∧ V.cell? ⟨W.heap.size + 1, 2, none⟩ = some (.int .i64 u3) := by
    have hb : ∀ V, (V = W2.drew ∨ V = W2.drew.alloc (.cells #[.int .i64 d1, .int .i64 d2, .int .i64 d3] 3)) → Below W2.heap.size W2 V := by
      rintro V (rfl | rfl)
      · exact (Below.refl _ _).drew
      · exact (Below.refl _ _).drew.alloc (Nat.le_refl _) _
    intro V hV
    have h2 := b2.below (hb V hV) b2.lt
    have h3 := b3.below (hb V hV) b3.lt
    exact ⟨h2.cell 0, h2.cell 1, h2.cell 2, h3.cell 0, h3.cell 1, h3.cell 2⟩
  have hnew : Blk (W2.drew.alloc (.cells #[.int .i64 d1, .int .i64 d2, .int .i64 d3] 3)) (W.heap.size + 1 + 1) 3 #[.int .i64 d1, .int .i64 d2, .int .i64 d3] := by
    have := Blk.new W2.drew 3 #[.int .i64 d1, .int .i64 d2, .int .i64 d3]
    rw [show W2.drew.heap.size = W.heap.size + 1 + 1 from hs2] at this
    exact this
  have hx0 := hnew.cell 0
  have hx1 := hnew.cell 1
  have hx2 := hnew.cell 2
  have HW2 := Lib.hid hW2
  clear b2 b3 hnew
  go_enter Tryd.func62, Tryd.ntmps62
  go_wp2_with fail
  clear hW2
  refine wp_region_one follows_mixedB [some 5, some 6, some 7, some 8, some 9, some 10, some 11, some 12, some 13, some 14, some 15, some 16, some 17, some 18, some 19, some 20, some 21, some 4] (by kernel_rfl) [(.pointer (some ⟨W.heap.size, 0, none⟩)), (.int .i64 t1), (.pointer (some ⟨W.heap.size + 1, 0, none⟩)), (.int .i64 u1), (.int .i64 d1), (.pointer (some ⟨W.heap.size, 1, none⟩)), (.int .i64 t2), (.pointer (some ⟨W.heap.size + 1, 1, none⟩)), (.int .i64 u2), (.int .i64 d2), (.pointer (some ⟨W.heap.size, 2, none⟩)), (.int .i64 t3), (.pointer (some ⟨W.heap.size + 1, 2, none⟩)), (.int .i64 u3), (.int .i64 d3), (.slice (some ⟨W.heap.size + 1 + 1, 0, none⟩) 3 3), (.int .i64 (orN d1 d2 d3)), (.int .i64 (orN d1 d2 d3))] rfl 15 (by decide) (fun X => X.alloc (.cells #[.int .i64 d1, .int .i64 d2, .int .i64 d3] 3)) ?step ?fin
  case step =>
    intro i hi a1 V hm0 hV hmV hdep hkept
    have hi : i < 18 := hi
    have e : i = 0 ∨ i = 1 ∨ i = 2 ∨ i = 3 ∨ i = 4 ∨ i = 5 ∨ i = 6 ∨ i = 7 ∨ i = 8 ∨ i = 9 ∨ i = 10 ∨ i = 11 ∨ i = 12 ∨ i = 13 ∨ i = 14 ∨ i = 15 ∨ i = 16 ∨ i = 17 := by omega
    clear hi
    obtain ⟨k1, k2, k3, k4, k5, k6⟩ := hcells V hV
    rcases e with rfl | rfl | rfl | rfl | rfl | rfl | rfl | rfl | rfl | rfl | rfl | rfl | rfl | rfl | rfl | rfl | rfl | rfl
    · have e2 : a1.tmps[2]?.getD undef = (.pointer (some ⟨W.heap.size, 0, none⟩)) := (hkept 2 (by kernel_rfl)).trans rfl
      refine wpOp_step rfl (fun K hK => ?_)
      refine Eq.mpr (if_pos (by rfl)) ?_
      go_simp
      exact hK _ _ ⟨rfl, rfl⟩
    · have e5 : a1.tmps[5]?.getD undef = (.pointer (some ⟨W.heap.size, 0, none⟩)) := hdep 0 5 (by kernel_rfl) rfl
      refine wpOp_step rfl (fun K hK => ?_)
      refine Eq.mpr (if_pos (by rfl)) ?_
      go_simp
      exact hK _ _ ⟨rfl, rfl⟩
    · have e3 : a1.tmps[3]?.getD undef = (.pointer (some ⟨W.heap.size + 1, 0, none⟩)) := (hkept 3 (by kernel_rfl)).trans rfl
      refine wpOp_step rfl (fun K hK => ?_)
      refine Eq.mpr (if_pos (by rfl)) ?_
      go_simp
      exact hK _ _ ⟨rfl, rfl⟩
    · have e7 : a1.tmps[7]?.getD undef = (.pointer (some ⟨W.heap.size + 1, 0, none⟩)) := hdep 2 7 (by kernel_rfl) rfl
      refine wpOp_step rfl (fun K hK => ?_)
      refine Eq.mpr (if_pos (by rfl)) ?_
      go_simp
      exact hK _ _ ⟨rfl, rfl⟩
    · have e6 : a1.tmps[6]?.getD undef = (.int .i64 t1) := hdep 1 6 (by kernel_rfl) rfl
      have e8 : a1.tmps[8]?.getD undef = (.int .i64 u1) := hdep 3 8 (by kernel_rfl) rfl
      refine wpOp_step rfl (fun K hK => ?_)
      refine Eq.mpr (if_pos (by rfl)) ?_
      go_simp
      go_wp2_with fail
      refine (compareK_any t1 u1 V).mono ?_
      rintro e V2 ⟨rfl, rfl⟩
      rw [HD1.out]
      exact hK _ _ ⟨rfl, rfl⟩
    · have e2 : a1.tmps[2]?.getD undef = (.pointer (some ⟨W.heap.size, 0, none⟩)) := (hkept 2 (by kernel_rfl)).trans rfl
      refine wpOp_step rfl (fun K hK => ?_)
      refine Eq.mpr (if_pos (by rfl)) ?_
      go_simp
      exact hK _ _ ⟨rfl, rfl⟩
    · have e10 : a1.tmps[10]?.getD undef = (.pointer (some ⟨W.heap.size, 1, none⟩)) := hdep 5 10 (by kernel_rfl) rfl
      refine wpOp_step rfl (fun K hK => ?_)
      refine Eq.mpr (if_pos (by rfl)) ?_
      go_simp
      exact hK _ _ ⟨rfl, rfl⟩
    · have e3 : a1.tmps[3]?.getD undef = (.pointer (some ⟨W.heap.size + 1, 0, none⟩)) := (hkept 3 (by kernel_rfl)).trans rfl
      refine wpOp_step rfl (fun K hK => ?_)
      refine Eq.mpr (if_pos (by rfl)) ?_
      go_simp
      exact hK _ _ ⟨rfl, rfl⟩
    · have e12 : a1.tmps[12]?.getD undef = (.pointer (some ⟨W.heap.size + 1, 1, none⟩)) := hdep 7 12 (by kernel_rfl) rfl
      refine wpOp_step rfl (fun K hK => ?_)
      refine Eq.mpr (if_pos (by rfl)) ?_
      go_simp
      exact hK _ _ ⟨rfl, rfl⟩
    · have e11 : a1.tmps[11]?.getD undef = (.int .i64 t2) := hdep 6 11 (by kernel_rfl) rfl
      have e13 : a1.tmps[13]?.getD undef = (.int .i64 u2) := hdep 8 13 (by kernel_rfl) rfl
      refine wpOp_step rfl (fun K hK => ?_)
      refine Eq.mpr (if_pos (by rfl)) ?_
      go_simp
      go_wp2_with fail
      refine (compareI_any t2 u2 V).mono ?_
      rintro e V2 ⟨rfl, rfl⟩
      rw [HD2.out]
      exact hK _ _ ⟨rfl, rfl⟩
    · have e2 : a1.tmps[2]?.getD undef = (.pointer (some ⟨W.heap.size, 0, none⟩)) := (hkept 2 (by kernel_rfl)).trans rfl
      refine wpOp_step rfl (fun K hK => ?_)
      refine Eq.mpr (if_pos (by rfl)) ?_
      go_simp
      exact hK _ _ ⟨rfl, rfl⟩
    · have e15 : a1.tmps[15]?.getD undef = (.pointer (some ⟨W.heap.size, 2, none⟩)) := hdep 10 15 (by kernel_rfl) rfl
      refine wpOp_step rfl (fun K hK => ?_)
      refine Eq.mpr (if_pos (by rfl)) ?_
      go_simp
      exact hK _ _ ⟨rfl, rfl⟩
    · have e3 : a1.tmps[3]?.getD undef = (.pointer (some ⟨W.heap.size + 1, 0, none⟩)) := (hkept 3 (by kernel_rfl)).trans rfl
      refine wpOp_step rfl (fun K hK => ?_)
      refine Eq.mpr (if_pos (by rfl)) ?_
      go_simp
      exact hK _ _ ⟨rfl, rfl⟩
    · have e17 : a1.tmps[17]?.getD undef = (.pointer (some ⟨W.heap.size + 1, 2, none⟩)) := hdep 12 17 (by kernel_rfl) rfl
      refine wpOp_step rfl (fun K hK => ?_)
      refine Eq.mpr (if_pos (by rfl)) ?_
      go_simp
      exact hK _ _ ⟨rfl, rfl⟩
    · have e16 : a1.tmps[16]?.getD undef = (.int .i64 t3) := hdep 11 16 (by kernel_rfl) rfl
      have e18 : a1.tmps[18]?.getD undef = (.int .i64 u3) := hdep 13 18 (by kernel_rfl) rfl
      refine wpOp_step rfl (fun K hK => ?_)
      refine Eq.mpr (if_pos (by rfl)) ?_
      go_simp
      go_wp2_with fail
      refine (compareI_any t3 u3 V).mono ?_
      rintro e V2 ⟨rfl, rfl⟩
      rw [HD3.out]
      exact hK _ _ ⟨rfl, rfl⟩
    · have e9 : a1.tmps[9]?.getD undef = (.int .i64 d1) := hdep 4 9 (by kernel_rfl) rfl
      have e14 : a1.tmps[14]?.getD undef = (.int .i64 d2) := hdep 9 14 (by kernel_rfl) rfl
      have e19 : a1.tmps[19]?.getD undef = (.int .i64 d3) := hdep 14 19 (by kernel_rfl) rfl
      refine wpOp_step rfl (fun K hK => ?_)
      refine Eq.mpr (if_pos (by rfl)) ?_
      obtain rfl := hm0 rfl
      go_simp
      exact hK _ _ ⟨by first | rfl | simp, by first | rfl | simp⟩
    · have e20 : a1.tmps[20]?.getD undef = (.slice (some ⟨W.heap.size + 1 + 1, 0, none⟩) 3 3) := hdep 15 20 (by kernel_rfl) rfl
      refine wpOp_step rfl (fun K hK => ?_)
      refine Eq.mpr (if_pos (by rfl)) ?_
      obtain rfl := hmV (by kernel_rfl)
      go_simp
      go_wp2_with fail
      refine (or_any d1 d2 d3 (W.heap.size + 1 + 1) 3 _ hx0 hx1 hx2).mono ?_
      rintro e V2 ⟨rfl, rfl⟩
      exact hK _ _ ⟨rfl, rfl⟩
    · have e21 : a1.tmps[21]?.getD undef = (.int .i64 (orN d1 d2 d3)) := hdep 16 21 (by kernel_rfl) rfl
      refine wpOp_step rfl (fun K hK => ?_)
      refine Eq.mpr (if_pos (by rfl)) ?_
      go_simp
      exact hK _ _ ⟨rfl, rfl⟩
  case fin =>
    simp only [finV, List.set_cons_succ, List.set_cons_zero]
    go_wp2
    go_ret
    refine ⟨rfl, 1, #[.cells #[.int .i64 t1, .int .i64 t2, .int .i64 t3] 66, .cells #[.int .i64 u1, .int .i64 u2, .int .i64 u3] 66, .cells #[.int .i64 d1, .int .i64 d2, .int .i64 d3] 3], ?_⟩
    rw [← HW2.out]
    have e : ∀ (A : Array Obj) (a b c : Obj), A ++ #[a, b, c] = ((A.push a).push b).push c := fun A a b c => by apply Array.ext'; simp
    unfold Go.Sort.grow
    rw [e]
    rfl
def occL (s : List Int) (a b : Int) : List T3 := if (fg s a == fg s b) = true then [(1, a, b)] else []
attribute [local go_sem] Oper.semAt_some
set_option maxRecDepth 100000 in
set_option maxHeartbeats 4000000 in
theorem occ_in (cs : Array Value) (s : List Int) (m : Option Nat) (hC : Circ cs s m) (a b : Int) (ha : Hou a) (hb : Hou b) (w : World) :
    CallsIn Fence.wide 4 Tryd.prog 57 #[.agg cs, .int .i64 a, .int .i64 b] w fun e W' => ∃ v, e = .returned v ∧ W'.ownsRow w.heap.size 66 3 v (occL s a b).length (rowT (occL s a b)) ∧ Below w.heap.size w W' := by
  obtain ⟨fa, hfa⟩ : ∃ z, fg s a = z := ⟨_, rfl⟩
  obtain ⟨fb, hfb⟩ : ∃ z, fg s b = z := ⟨_, rfl⟩
  have HFA := Lib.hid hfa
  have HFB := Lib.hid hfb
  clear hfa hfb
  have J3 := Blk.new w 84 cs
  have hB0 := below1 w (.cells cs 84)
  refine callsIn_of_wp_marks Tryd.func57 rfl trivial ?_ rfl
  simp only [Tryd.ntmps57, List.size_toArray, List.length_cons, List.length_nil, Nat.reduceAdd, Nat.reduceSub, Array.replicate_succ, Array.replicate_zero, List.push_toArray, List.append_toArray, List.nil_append, List.cons_append]
  cases HQ : (fa != fb)
  · have HO := Lib.hid (show occL s a b = [(1, a, b)] by unfold occL; rw [HFA.out, HFB.out, if_pos (by simpa using HQ)])
    gi_wp2_with fail
    refine wpIn_region_vals follows_mixedB [some 7, some 8, some 9, some 10, some 11, some 12, some 13] (by kernel_rfl) [(.agg cs), (.int .i64 a), (.int .i64 fa), (.agg cs), (.int .i64 b), (.int .i64 fb), (.bool false)] rfl ?step ?fin
    case step =>
      intro i hi a1 V FD
      have hi : i < 7 := hi
      have e : i = 0 ∨ i = 1 ∨ i = 2 ∨ i = 3 ∨ i = 4 ∨ i = 5 ∨ i = 6 := by omega
      clear hi
      rcases e with rfl | rfl | rfl | rfl | rfl | rfl | rfl
      · have e3 : a1.tmps[3]?.getD undef = (.pointer (some ⟨w.heap.size, 0, none⟩)) := (FD.kept 3 (by kernel_rfl)).trans rfl
        refine wpOpIn_step rfl (fun K hK => ?_)
        refine Eq.mpr (if_pos (by rfl)) ?_
        exact operIn_load_row 84 (.tmp 3) rfl w.heap.size (eval_tmp e3) 84 cs (0, 0) _ (J3.below FD.below J3.lt) Tryd.underlying84 rfl (circ_info hC) (hK _ _ ⟨rfl, Below.refl _ _⟩)
      · have e1 : a1.tmps[1]?.getD undef = (.int .i64 a) := (FD.kept 1 (by kernel_rfl)).trans rfl
        refine wpOpIn_step rfl (fun K hK => ?_)
        refine Eq.mpr (if_pos (by rfl)) ?_
        go_simp
        exact hK _ _ ⟨rfl, Below.refl _ _⟩
      · have e7 : a1.tmps[7]?.getD undef = (.agg cs) := FD.dep 0 7 (by kernel_rfl) rfl
        have e8 : a1.tmps[8]?.getD undef = (.int .i64 a) := FD.dep 1 8 (by kernel_rfl) rfl
        refine wpOpIn_step rfl (fun K hK => ?_)
        refine Eq.mpr (if_pos (by rfl)) ?_
        go_simp
        gi_wp2_with fail
        refine ⟨trivial, ?_⟩
        refine (callsIn_wide.2 (figureC_any cs s m hC a ha _)).mono ?_
        rintro e V2 ⟨rfl, hb2⟩
        rw [HFA.out]
        exact hK _ _ ⟨rfl, hb2⟩
      · have e3 : a1.tmps[3]?.getD undef = (.pointer (some ⟨w.heap.size, 0, none⟩)) := (FD.kept 3 (by kernel_rfl)).trans rfl
        refine wpOpIn_step rfl (fun K hK => ?_)
        refine Eq.mpr (if_pos (by rfl)) ?_
        exact operIn_load_row 84 (.tmp 3) rfl w.heap.size (eval_tmp e3) 84 cs (0, 0) _ (J3.below FD.below J3.lt) Tryd.underlying84 rfl (circ_info hC) (hK _ _ ⟨rfl, Below.refl _ _⟩)
      · have e2 : a1.tmps[2]?.getD undef = (.int .i64 b) := (FD.kept 2 (by kernel_rfl)).trans rfl
        refine wpOpIn_step rfl (fun K hK => ?_)
        refine Eq.mpr (if_pos (by rfl)) ?_
        go_simp
        exact hK _ _ ⟨rfl, Below.refl _ _⟩
      · have e10 : a1.tmps[10]?.getD undef = (.agg cs) := FD.dep 3 10 (by kernel_rfl) rfl
        have e11 : a1.tmps[11]?.getD undef = (.int .i64 b) := FD.dep 4 11 (by kernel_rfl) rfl
        refine wpOpIn_step rfl (fun K hK => ?_)
        refine Eq.mpr (if_pos (by rfl)) ?_
        go_simp
        gi_wp2_with fail
        refine ⟨trivial, ?_⟩
        refine (callsIn_wide.2 (figureC_any cs s m hC b hb _)).mono ?_
        rintro e V2 ⟨rfl, hb2⟩
        rw [HFB.out]
        exact hK _ _ ⟨rfl, hb2⟩
      · have e9 : a1.tmps[9]?.getD undef = (.int .i64 fa) := FD.dep 2 9 (by kernel_rfl) rfl
        have e12 : a1.tmps[12]?.getD undef = (.int .i64 fb) := FD.dep 5 12 (by kernel_rfl) rfl
        refine wpOpIn_step rfl (fun K hK => ?_)
        refine Eq.mpr (if_pos (by rfl)) ?_
        have hq2 := HQ
        go_simp
        exact hK _ _ ⟨rfl, Below.refl _ _⟩
    case fin =>
      intro V hbv
      simp only [finV, List.set_cons_succ, List.set_cons_zero]
      have hbl := hB0.trans (hbv.mono hB0.size)
      gi_wp2
      refine ⟨_, results_tmp rfl _ _ _, _, rfl, ?_, hbl.alloc hbl.size _⟩
      rw [HO.out]
      exact World.ownsRow_lit V #[.int .i64 1, .int .i64 a, .int .i64 b] 1 hbl.size (by decide) rfl
  · have HO := Lib.hid (show occL s a b = [] by unfold occL; rw [HFA.out, HFB.out, if_neg (by simpa using HQ)])
    gi_wp2_with fail
    refine wpIn_region_vals follows_mixedB [some 7, some 8, some 9, some 10, some 11, some 12, some 13] (by kernel_rfl) [(.agg cs), (.int .i64 a), (.int .i64 fa), (.agg cs), (.int .i64 b), (.int .i64 fb), (.bool true)] rfl ?step ?fin
    case step =>
      intro i hi a1 V FD
      have hi : i < 7 := hi
      have e : i = 0 ∨ i = 1 ∨ i = 2 ∨ i = 3 ∨ i = 4 ∨ i = 5 ∨ i = 6 := by omega
      clear hi
      rcases e with rfl | rfl | rfl | rfl | rfl | rfl | rfl
      · have e3 : a1.tmps[3]?.getD undef = (.pointer (some ⟨w.heap.size, 0, none⟩)) := (FD.kept 3 (by kernel_rfl)).trans rfl
        refine wpOpIn_step rfl (fun K hK => ?_)
        refine Eq.mpr (if_pos (by rfl)) ?_
        exact operIn_load_row 84 (.tmp 3) rfl w.heap.size (eval_tmp e3) 84 cs (0, 0) _ (J3.below FD.below J3.lt) Tryd.underlying84 rfl (circ_info hC) (hK _ _ ⟨rfl, Below.refl _ _⟩)
      · have e1 : a1.tmps[1]?.getD undef = (.int .i64 a) := (FD.kept 1 (by kernel_rfl)).trans rfl
        refine wpOpIn_step rfl (fun K hK => ?_)
        refine Eq.mpr (if_pos (by rfl)) ?_
        go_simp
        exact hK _ _ ⟨rfl, Below.refl _ _⟩
      · have e7 : a1.tmps[7]?.getD undef = (.agg cs) := FD.dep 0 7 (by kernel_rfl) rfl
        have e8 : a1.tmps[8]?.getD undef = (.int .i64 a) := FD.dep 1 8 (by kernel_rfl) rfl
        refine wpOpIn_step rfl (fun K hK => ?_)
        refine Eq.mpr (if_pos (by rfl)) ?_
        go_simp
        gi_wp2_with fail
        refine ⟨trivial, ?_⟩
        refine (callsIn_wide.2 (figureC_any cs s m hC a ha _)).mono ?_
        rintro e V2 ⟨rfl, hb2⟩
        rw [HFA.out]
        exact hK _ _ ⟨rfl, hb2⟩
      · have e3 : a1.tmps[3]?.getD undef = (.pointer (some ⟨w.heap.size, 0, none⟩)) := (FD.kept 3 (by kernel_rfl)).trans rfl
        refine wpOpIn_step rfl (fun K hK => ?_)
        refine Eq.mpr (if_pos (by rfl)) ?_
        exact operIn_load_row 84 (.tmp 3) rfl w.heap.size (eval_tmp e3) 84 cs (0, 0) _ (J3.below FD.below J3.lt) Tryd.underlying84 rfl (circ_info hC) (hK _ _ ⟨rfl, Below.refl _ _⟩)
      · have e2 : a1.tmps[2]?.getD undef = (.int .i64 b) := (FD.kept 2 (by kernel_rfl)).trans rfl
        refine wpOpIn_step rfl (fun K hK => ?_)
        refine Eq.mpr (if_pos (by rfl)) ?_
        go_simp
        exact hK _ _ ⟨rfl, Below.refl _ _⟩
      · have e10 : a1.tmps[10]?.getD undef = (.agg cs) := FD.dep 3 10 (by kernel_rfl) rfl
        have e11 : a1.tmps[11]?.getD undef = (.int .i64 b) := FD.dep 4 11 (by kernel_rfl) rfl
        refine wpOpIn_step rfl (fun K hK => ?_)
        refine Eq.mpr (if_pos (by rfl)) ?_
        go_simp
        gi_wp2_with fail
        refine ⟨trivial, ?_⟩
        refine (callsIn_wide.2 (figureC_any cs s m hC b hb _)).mono ?_
        rintro e V2 ⟨rfl, hb2⟩
        rw [HFB.out]
        exact hK _ _ ⟨rfl, hb2⟩
      · have e9 : a1.tmps[9]?.getD undef = (.int .i64 fa) := FD.dep 2 9 (by kernel_rfl) rfl
        have e12 : a1.tmps[12]?.getD undef = (.int .i64 fb) := FD.dep 5 12 (by kernel_rfl) rfl
        refine wpOpIn_step rfl (fun K hK => ?_)
        refine Eq.mpr (if_pos (by rfl)) ?_
        have hq2 := HQ
        go_simp
        exact hK _ _ ⟨rfl, Below.refl _ _⟩
    case fin =>
      intro V hbv
      simp only [finV, List.set_cons_succ, List.set_cons_zero]
      have hbl := hB0.trans (hbv.mono hB0.size)
      gi_wp2
      refine ⟨_, results_tmp rfl _ _ _, .slice none 0 0, rfl, ?_, hbl⟩
      rw [HO.out]
      exact World.ownsRow_nil _ _ _ _
end Go.Proofs.YtdnccdobnhbpeaaDoor
