/-
  OddsPairs: for any two lists of weights, the function returns true and leaves both lists as they are. Nothing is asked of the input.
-/
import Derived.Test.YtagodfaclohkmaaZa
import Derived.Test.YtagodfaclohkmaaVl
import Derived.Test.YtagodfaclohkmaaVm
import Derived.WalkKit
import Derived.ProofKit
import Derived.OpenShut
import Derived.ChangeOld
import Derived.Below
namespace Go.Proofs.Ytagodfaclohkmaa
open Go.ChangeShapes Go.WideShapes Go.ChangeAt Go.RowKit
set_option linter.unusedVariables false

theorem oddsPairs_equal (L : List Int) (hL : L.length ≤ 1000000) (pa : Option Addr) (ca : Nat) (pb : Option Addr) (cb : Nat) (w : World) (hRa : Reads w pa L) (hRb : Reads w pb L) :
    Calls Try.prog 24 #[.slice pa L.length ca, .slice pb L.length cb] w fun e w' => e = .returned (.bool true) ∧ Below w.heap.size w w' := by
  have h := equal_any pa L ca pb L cb w (by omega) (by omega) hRa hRb
  rwa [eqL_self] at h

theorem sJoin_length (a b : List Int) : (sJoin a b).1.length ≤ 4096 := by
  unfold sJoin
  split
  · rename_i h
    have := (chkP_ok h).2.2.1
    simp only [joinL_length]
    omega
  · simp
theorem sSum_len (a b : List Int) : (sSum a b).1.length ≤ 4096 := by
  by_cases h : (sSum a b).2 = 0
  · exact sSum_length h
  · rw [sSum_err h]; simp

theorem oddsPairs_specs (a b : List Int) (ha : a.length ≤ 1000000) (hb : b.length ≤ 1000000) : ∃ (L S : List Int) (E F C0 C1 J : Int), L.length ≤ 4096 ∧ S.length ≤ 4096 ∧
    (∀ pa ca pb cb w, Reads w pa a → Reads w pb b → Calls Try.prog 43 #[.slice pa a.length ca, .slice pb b.length cb] w fun e w' => (∃ p' c', e = .returned (.tuple #[.slice p' L.length c', .int .i64 E]) ∧ Reads w' p' L) ∧ Below w.heap.size w w') ∧
    (∀ pa ca pb cb w, Reads w pa a → Reads w pb b → Calls Try.prog 46 #[.slice pa a.length ca, .slice pb b.length cb] w fun e w' => (∃ p' c', e = .returned (.tuple #[.slice p' L.length c', .int .i64 E]) ∧ Reads w' p' L) ∧ Below w.heap.size w w') ∧
    (∀ pa ca pb cb w, Reads w pa a → Reads w pb b → Calls Try.prog 44 #[.slice pa a.length ca, .slice pb b.length cb] w fun e w' => (∃ p' c', e = .returned (.tuple #[.slice p' S.length c', .int .i64 F]) ∧ Reads w' p' S) ∧ Below w.heap.size w w') ∧
    (∀ pa ca pb cb w, Reads w pa a → Reads w pb b → Calls Try.prog 47 #[.slice pa a.length ca, .slice pb b.length cb] w fun e w' => (∃ p' c', e = .returned (.tuple #[.slice p' S.length c', .int .i64 F]) ∧ Reads w' p' S) ∧ Below w.heap.size w w') ∧
    (∀ pa ca pb cb w, Reads w pa a → Reads w pb b → Calls Try.prog 45 #[.slice pa a.length ca, .slice pb b.length cb] w fun e w' => e = .returned (.tuple #[.agg #[.int .i64 C0, .int .i64 C1], .int .i64 J]) ∧ Below w.heap.size w w') ∧
    (∀ pa ca pb cb w, Reads w pa a → Reads w pb b → Calls Try.prog 48 #[.slice pa a.length ca, .slice pb b.length cb] w fun e w' => e = .returned (.tuple #[.agg #[.int .i64 C0, .int .i64 C1], .int .i64 J]) ∧ Below w.heap.size w w') := by
  refine ⟨(sJoin a b).1, (sSum a b).1, (sJoin a b).2, (sSum a b).2, (sApart a b).1, (sApart a b).2.1, (sApart a b).2.2, sJoin_length a b, sSum_len a b, fun pa ca pb cb w h h' => ?_, fun pa ca pb cb w h h' => ?_, fun pa ca pb cb w h h' => ?_, fun pa ca pb cb w h h' => ?_, fun pa ca pb cb w h h' => ?_, fun pa ca pb cb w h h' => ?_⟩
  · exact join_any pa a ca pb b cb w ha hb h h'
  · exact refJoin_any pa a ca pb b cb w ha hb h h'
  · refine (sum_any pa a ca pb b cb w (by omega) (by omega) h h').mono ?_
    rintro e w' ⟨p, c, rfl, hr, hb⟩
    exact ⟨⟨p, c, rfl, hr⟩, hb⟩
  · refine (refSum_any pa a ca pb b cb w (by omega) (by omega) h h').mono ?_
    rintro e w' ⟨p, c, rfl, hr, hb⟩
    exact ⟨⟨p, c, rfl, hr⟩, hb⟩
  · exact apart_any pa a ca pb b cb w (by omega) (by omega) h h'
  · exact refApart_any pa a ca pb b cb w (by omega) (by omega) h h'

set_option maxRecDepth 100000 in
set_option maxHeartbeats 16000000 in
theorem oddsPairs_ok (pa : Option Addr) (a : List Int) (ca : Nat) (pb : Option Addr) (b : List Int) (cb : Nat) (w : World) (h1 : longB a.length = false) (h2 : longB b.length = false) (k1 : chk1 a = 0) (k2 : chk1 b = 0) (hC : Came w pa a ca) (hD : Came w pb b cb) :
    Calls Try.prog 6 #[.slice pa a.length ca, .slice pb b.length cb] w fun e w' => e = .returned (.bool true) ∧ Below w.heap.size w w' := by
  have hln := longB_false h1
  have hlm := longB_false h2
  have H1 := Lib.hid h1
  have H2 := Lib.hid h2
  obtain ⟨L, S, E, F, C0, C1, J, hL, hS, hj, hrj, hs, hrs, hp, hrp⟩ := oddsPairs_specs a b (by omega) (by omega)
  have hsm := fun p c q d w (h : Reads w p a) (h' : Reads w q b) => oSame_any p a c q b d w (by omega) (by omega) h h'
  have hk1 := fun p c w (h : Reads w p a) => refCheck_any p a c w (by omega) h
  have hk2 := fun p c w (h : Reads w p b) => refCheck_any p b c w (by omega) h
  have e1 : sSame a b = (eqL (low a) (low b), 0) := by unfold sSame; rw [if_pos (chkL2_ok k1 k2)]
  rw [e1] at hsm
  rw [k1] at hk1
  rw [k2] at hk2
  obtain ⟨a1, a2, a3, a4⟩ := chk1_ok k1
  obtain ⟨b1, b2, b3, b4⟩ := chk1_ok k2
  obtain ⟨g1, _, _, _⟩ := low_facts a2 a3
  obtain ⟨g2, _, _, _⟩ := low_facts b2 b3
  have hl1 := fun p c w (h : Reads w p a) => refLowest_any p a c w a1 a2 g1 h
  have hl2 := fun p c w (h : Reads w p b) => refLowest_any p b c w b1 b2 g2 h
  have heq := fun p c q d w (h : Reads w p (low a)) (h' : Reads w q (low b)) => equal_any p (low a) c q (low b) d w (by rw [low_length]; omega) (by rw [low_length]; omega) h h'
  obtain ⟨X, hX⟩ : ∃ X, low a = X := ⟨_, rfl⟩
  obtain ⟨Y, hY⟩ : ∃ Y, low b = Y := ⟨_, rfl⟩
  obtain ⟨T, hT⟩ : ∃ T, eqL (low a) (low b) = T := ⟨_, rfl⟩
  rw [hT] at heq hsm
  rw [hX] at hl1 heq
  rw [hY] at hl2 heq
  clear h1 h2 k1 k2 e1 hX hY hT g1 g2
  go_enter Try.func6, Try.ntmps6
  go_wp2_with fail
  go_call (long_any pa a ca w) as e w1 ⟨rfl, hb1⟩
  have hB1 := hb1
  clear hb1
  rw [H1.out]
  go_wp2_with fail
  go_call (long_any pb b cb w1) as e w2 ⟨rfl, hb2⟩
  have hB2 := tr hB1 hb2
  clear hb2 hB1
  rw [H2.out]
  go_wp2_with fail
  go_call (own_any pa a ca w2 (by omega) (hC.below hB2 (Nat.le_refl _))) as e w3 ⟨⟨p1, cp1, rfl, qa⟩, hb3⟩
  have hB3 := tr hB2 hb3
  clear hb3 hB2
  go_wp2_with fail
  go_call (own_any pb b cb w3 (by omega) (hD.below hB3 (Nat.le_refl _))) as e w4 ⟨⟨p2, cp2, rfl, qb⟩, hb4⟩
  have hB4 := tr hB3 hb4
  replace qa := qa.below hb4 (Nat.le_refl _)
  clear hb4 hB3
  go_wp2_with fail
  go_call (hsm p1 cp1 p2 cp2 _ qa qb) as e w5 ⟨rfl, hb5⟩
  have hB5 := tr hB4 hb5
  clear hb5 hB4 qa qb
  go_wp2_with fail
  go_call (own_any pa a ca w5 (by omega) (hC.below hB5 (Nat.le_refl _))) as e w6 ⟨⟨p1, cp1, rfl, qa⟩, hb6⟩
  have hB6 := tr hB5 hb6
  clear hb6 hB5
  go_wp2_with fail
  go_call (own_any pb b cb w6 (by omega) (hD.below hB6 (Nat.le_refl _))) as e w7 ⟨⟨p2, cp2, rfl, qb⟩, hb7⟩
  have hB7 := tr hB6 hb7
  replace qa := qa.below hb7 (Nat.le_refl _)
  clear hb7 hB6
  go_wp2_with fail
  go_call (hj p1 cp1 p2 cp2 _ qa qb) as e w8 ⟨⟨pj, cj, rfl, rj⟩, hb8⟩
  have hB8 := tr hB7 hb8
  clear hb8 hB7 qa qb
  go_wp2_with fail
  go_call (own_any pa a ca w8 (by omega) (hC.below hB8 (Nat.le_refl _))) as e w9 ⟨⟨p1, cp1, rfl, qa⟩, hb9⟩
  have hB9 := tr hB8 hb9
  replace rj := rj.below hb9 (Nat.le_refl _)
  clear hb9 hB8
  go_wp2_with fail
  go_call (own_any pb b cb w9 (by omega) (hD.below hB9 (Nat.le_refl _))) as e w10 ⟨⟨p2, cp2, rfl, qb⟩, hb10⟩
  have hB10 := tr hB9 hb10
  replace rj := rj.below hb10 (Nat.le_refl _)
  replace qa := qa.below hb10 (Nat.le_refl _)
  clear hb10 hB9
  go_wp2_with fail
  go_call (hs p1 cp1 p2 cp2 _ qa qb) as e w11 ⟨⟨ps, cs, rfl, rs⟩, hb11⟩
  have hB11 := tr hB10 hb11
  replace rj := rj.below hb11 (Nat.le_refl _)
  clear hb11 hB10 qa qb
  go_wp2_with fail
  go_call (own_any pa a ca w11 (by omega) (hC.below hB11 (Nat.le_refl _))) as e w12 ⟨⟨p1, cp1, rfl, qa⟩, hb12⟩
  have hB12 := tr hB11 hb12
  replace rj := rj.below hb12 (Nat.le_refl _)
  replace rs := rs.below hb12 (Nat.le_refl _)
  clear hb12 hB11
  go_wp2_with fail
  go_call (own_any pb b cb w12 (by omega) (hD.below hB12 (Nat.le_refl _))) as e w13 ⟨⟨p2, cp2, rfl, qb⟩, hb13⟩
  have hB13 := tr hB12 hb13
  replace rj := rj.below hb13 (Nat.le_refl _)
  replace rs := rs.below hb13 (Nat.le_refl _)
  replace qa := qa.below hb13 (Nat.le_refl _)
  clear hb13 hB12
  go_wp2_with fail
  go_call (hp p1 cp1 p2 cp2 _ qa qb) as e w14 ⟨rfl, hb14⟩
  have hB14 := tr hB13 hb14
  replace rj := rj.below hb14 (Nat.le_refl _)
  replace rs := rs.below hb14 (Nat.le_refl _)
  clear hb14 hB13 qa qb
  go_wp2_with fail
  have hB15 := hB14.alloc hB14.size (.cells #[.int .i64 C0, .int .i64 C1] 33)
  have hbn := below1 w14 (.cells #[.int .i64 C0, .int .i64 C1] 33)
  replace rj := rj.below hbn (Nat.le_refl _)
  replace rs := rs.below hbn (Nat.le_refl _)
  have k0 : (w14.alloc (.cells #[.int .i64 C0, .int .i64 C1] 33)).cell? ⟨w14.heap.size, 0, none⟩ = some (.int .i64 C0) := by go_simp
  have k1 : (w14.alloc (.cells #[.int .i64 C0, .int .i64 C1] 33)).cell? ⟨w14.heap.size, 1, none⟩ = some (.int .i64 C1) := by go_simp
  obtain ⟨g1, hg'⟩ : ∃ g, w14.heap.size = g := ⟨_, rfl⟩
  obtain ⟨w15, hw8⟩ : ∃ w8, w14.alloc (.cells #[.int .i64 C0, .int .i64 C1] 33) = w8 := ⟨_, rfl⟩
  rw [hw8] at hB15 rj rs k0 k1 ⊢
  rw [hg'] at k0 k1 ⊢
  clear hw8 hg' hB14 hbn
  go_call (hk1 pa ca _ (hC.2.1.below hB15 (Nat.le_refl _))) as e w16 ⟨rfl, hb16⟩
  have hB16 := tr hB15 hb16
  replace rj := rj.below hb16 (Nat.le_refl _)
  replace rs := rs.below hb16 (Nat.le_refl _)
  replace k0 := cell_tr hb16 k0
  replace k1 := cell_tr hb16 k1
  clear hb16 hB15
  go_wp2_with fail
  go_call (hk2 pb cb _ (hD.2.1.below hB16 (Nat.le_refl _))) as e w17 ⟨rfl, hb17⟩
  have hB17 := tr hB16 hb17
  replace rj := rj.below hb17 (Nat.le_refl _)
  replace rs := rs.below hb17 (Nat.le_refl _)
  replace k0 := cell_tr hb17 k0
  replace k1 := cell_tr hb17 k1
  clear hb17 hB16
  go_wp2_with fail
  go_call (hl1 pa ca _ (hC.2.1.below hB17 (Nat.le_refl _))) as e w18 ⟨⟨px, cx, rfl, rx⟩, hb18⟩
  have hB18 := tr hB17 hb18
  replace rj := rj.below hb18 (Nat.le_refl _)
  replace rs := rs.below hb18 (Nat.le_refl _)
  replace k0 := cell_tr hb18 k0
  replace k1 := cell_tr hb18 k1
  clear hb18 hB17
  go_wp2_with fail
  go_call (hl2 pb cb _ (hD.2.1.below hB18 (Nat.le_refl _))) as e w19 ⟨⟨py, cy, rfl, ry⟩, hb19⟩
  have hB19 := tr hB18 hb19
  replace rj := rj.below hb19 (Nat.le_refl _)
  replace rs := rs.below hb19 (Nat.le_refl _)
  replace rx := rx.below hb19 (Nat.le_refl _)
  replace k0 := cell_tr hb19 k0
  replace k1 := cell_tr hb19 k1
  clear hb19 hB18
  go_wp2_with fail
  go_call (heq px cx py cy _ rx ry) as e w20 ⟨rfl, hb20⟩
  have hB20 := tr hB19 hb20
  replace rj := rj.below hb20 (Nat.le_refl _)
  replace rs := rs.below hb20 (Nat.le_refl _)
  replace k0 := cell_tr hb20 k0
  replace k1 := cell_tr hb20 k1
  clear hb20 hB19 rx ry
  go_wp2_with fail
  go_call (hrj pa ca pb cb _ (hC.2.1.below hB20 (Nat.le_refl _)) (hD.2.1.below hB20 (Nat.le_refl _))) as e w21 ⟨⟨pj2, cj2, rfl, rj2⟩, hb21⟩
  have hB21 := tr hB20 hb21
  replace rj := rj.below hb21 (Nat.le_refl _)
  replace rs := rs.below hb21 (Nat.le_refl _)
  replace k0 := cell_tr hb21 k0
  replace k1 := cell_tr hb21 k1
  clear hb21 hB20
  go_wp2_with fail
  go_call (hrs pa ca pb cb _ (hC.2.1.below hB21 (Nat.le_refl _)) (hD.2.1.below hB21 (Nat.le_refl _))) as e w22 ⟨⟨ps2, cs2, rfl, rs2⟩, hb22⟩
  have hB22 := tr hB21 hb22
  replace rj := rj.below hb22 (Nat.le_refl _)
  replace rs := rs.below hb22 (Nat.le_refl _)
  replace rj2 := rj2.below hb22 (Nat.le_refl _)
  replace k0 := cell_tr hb22 k0
  replace k1 := cell_tr hb22 k1
  clear hb22 hB21
  go_wp2_with fail
  go_call (hrp pa ca pb cb _ (hC.2.1.below hB22 (Nat.le_refl _)) (hD.2.1.below hB22 (Nat.le_refl _))) as e w23 ⟨rfl, hb23⟩
  have hB23 := tr hB22 hb23
  replace rj := rj.below hb23 (Nat.le_refl _)
  replace rs := rs.below hb23 (Nat.le_refl _)
  replace rj2 := rj2.below hb23 (Nat.le_refl _)
  replace rs2 := rs2.below hb23 (Nat.le_refl _)
  replace k0 := cell_tr hb23 k0
  replace k1 := cell_tr hb23 k1
  clear hb23 hB22
  go_wp2_with fail
  have hB24 := hB23.alloc hB23.size (.cells #[.int .i64 C0, .int .i64 C1] 33)
  have hbn := below1 w23 (.cells #[.int .i64 C0, .int .i64 C1] 33)
  replace rj := rj.below hbn (Nat.le_refl _)
  replace rs := rs.below hbn (Nat.le_refl _)
  replace rj2 := rj2.below hbn (Nat.le_refl _)
  replace rs2 := rs2.below hbn (Nat.le_refl _)
  replace k0 := cell_tr hbn k0
  replace k1 := cell_tr hbn k1
  have j0 : (w23.alloc (.cells #[.int .i64 C0, .int .i64 C1] 33)).cell? ⟨w23.heap.size, 0, none⟩ = some (.int .i64 C0) := by go_simp
  have j1 : (w23.alloc (.cells #[.int .i64 C0, .int .i64 C1] 33)).cell? ⟨w23.heap.size, 1, none⟩ = some (.int .i64 C1) := by go_simp
  obtain ⟨g2, hg'⟩ : ∃ g, w23.heap.size = g := ⟨_, rfl⟩
  obtain ⟨w24, hw8⟩ : ∃ w8, w23.alloc (.cells #[.int .i64 C0, .int .i64 C1] 33) = w8 := ⟨_, rfl⟩
  rw [hw8] at hB24 rj rs rj2 rs2 k0 k1 j0 j1 ⊢
  rw [hg'] at j0 j1 ⊢
  clear hw8 hg' hB23 hbn
  go_call (oddsPairs_equal L (by omega) pj cj pj2 cj2 _ rj rj2) as e w25 ⟨rfl, hb25⟩
  have hB25 := tr hB24 hb25
  replace rs := rs.below hb25 (Nat.le_refl _)
  replace rs2 := rs2.below hb25 (Nat.le_refl _)
  replace k0 := cell_tr hb25 k0
  replace k1 := cell_tr hb25 k1
  replace j0 := cell_tr hb25 j0
  replace j1 := cell_tr hb25 j1
  clear hb25 hB24 rj rj2
  go_wp2_with fail
  go_call (oddsPairs_equal S (by omega) ps cs ps2 cs2 _ rs rs2) as e w26 ⟨rfl, hb26⟩
  have hB26 := tr hB25 hb26
  replace k0 := cell_tr hb26 k0
  replace k1 := cell_tr hb26 k1
  replace j0 := cell_tr hb26 j0
  replace j1 := cell_tr hb26 j1
  clear hb26 hB25 rs rs2
  go_wp2_with fail
  go_call (known_any _) as e w27 ⟨rfl, hb27⟩
  have hB27 := tr hB26 hb27
  replace k0 := cell_tr hb27 k0
  replace k1 := cell_tr hb27 k1
  replace j0 := cell_tr hb27 j0
  replace j1 := cell_tr hb27 j1
  clear hb27 hB26
  go_wp2
  go_returns
  exact ⟨rfl, hB27⟩

set_option maxRecDepth 100000 in
set_option maxHeartbeats 16000000 in
theorem oddsPairs_bada (pa : Option Addr) (a : List Int) (ca : Nat) (pb : Option Addr) (b : List Int) (cb : Nat) (w : World) (h1 : longB a.length = false) (h2 : longB b.length = false) (k1 : chk1 a ≠ 0) (hC : Came w pa a ca) (hD : Came w pb b cb) :
    Calls Try.prog 6 #[.slice pa a.length ca, .slice pb b.length cb] w fun e w' => e = .returned (.bool true) ∧ Below w.heap.size w w' := by
  have hln := longB_false h1
  have hlm := longB_false h2
  have H1 := Lib.hid h1
  have H2 := Lib.hid h2
  obtain ⟨L, S, E, F, C0, C1, J, hL, hS, hj, hrj, hs, hrs, hp, hrp⟩ := oddsPairs_specs a b (by omega) (by omega)
  have hsm := fun p c q d w (h : Reads w p a) (h' : Reads w q b) => oSame_any p a c q b d w (by omega) (by omega) h h'
  have hk1 := fun p c w (h : Reads w p a) => refCheck_any p a c w (by omega) h
  have hk2 := fun p c w (h : Reads w p b) => refCheck_any p b c w (by omega) h
  obtain ⟨x, hx⟩ : ∃ x, chk1 a = x := ⟨_, rfl⟩
  have e1 : sSame a b = (false, x) := by unfold sSame; rw [if_neg (by rw [chkL2_first k1]; exact k1), chkL2_first k1, hx]
  rw [e1] at hsm
  rw [hx] at hk1 k1
  have hb' : (x != 0) = true := by simpa using k1
  have hb'' : (x == 0) = false := by simpa using k1
  clear h1 h2 k1 e1 hx
  go_enter Try.func6, Try.ntmps6
  go_wp2_with fail
  go_call (long_any pa a ca w) as e w1 ⟨rfl, hb1⟩
  have hB1 := hb1
  clear hb1
  rw [H1.out]
  go_wp2_with fail
  go_call (long_any pb b cb w1) as e w2 ⟨rfl, hb2⟩
  have hB2 := tr hB1 hb2
  clear hb2 hB1
  rw [H2.out]
  go_wp2_with fail
  go_call (own_any pa a ca w2 (by omega) (hC.below hB2 (Nat.le_refl _))) as e w3 ⟨⟨p1, cp1, rfl, qa⟩, hb3⟩
  have hB3 := tr hB2 hb3
  clear hb3 hB2
  go_wp2_with fail
  go_call (own_any pb b cb w3 (by omega) (hD.below hB3 (Nat.le_refl _))) as e w4 ⟨⟨p2, cp2, rfl, qb⟩, hb4⟩
  have hB4 := tr hB3 hb4
  replace qa := qa.below hb4 (Nat.le_refl _)
  clear hb4 hB3
  go_wp2_with fail
  go_call (hsm p1 cp1 p2 cp2 _ qa qb) as e w5 ⟨rfl, hb5⟩
  have hB5 := tr hB4 hb5
  clear hb5 hB4 qa qb
  go_wp2_with fail
  go_call (own_any pa a ca w5 (by omega) (hC.below hB5 (Nat.le_refl _))) as e w6 ⟨⟨p1, cp1, rfl, qa⟩, hb6⟩
  have hB6 := tr hB5 hb6
  clear hb6 hB5
  go_wp2_with fail
  go_call (own_any pb b cb w6 (by omega) (hD.below hB6 (Nat.le_refl _))) as e w7 ⟨⟨p2, cp2, rfl, qb⟩, hb7⟩
  have hB7 := tr hB6 hb7
  replace qa := qa.below hb7 (Nat.le_refl _)
  clear hb7 hB6
  go_wp2_with fail
  go_call (hj p1 cp1 p2 cp2 _ qa qb) as e w8 ⟨⟨pj, cj, rfl, rj⟩, hb8⟩
  have hB8 := tr hB7 hb8
  clear hb8 hB7 qa qb
  go_wp2_with fail
  go_call (own_any pa a ca w8 (by omega) (hC.below hB8 (Nat.le_refl _))) as e w9 ⟨⟨p1, cp1, rfl, qa⟩, hb9⟩
  have hB9 := tr hB8 hb9
  replace rj := rj.below hb9 (Nat.le_refl _)
  clear hb9 hB8
  go_wp2_with fail
  go_call (own_any pb b cb w9 (by omega) (hD.below hB9 (Nat.le_refl _))) as e w10 ⟨⟨p2, cp2, rfl, qb⟩, hb10⟩
  have hB10 := tr hB9 hb10
  replace rj := rj.below hb10 (Nat.le_refl _)
  replace qa := qa.below hb10 (Nat.le_refl _)
  clear hb10 hB9
  go_wp2_with fail
  go_call (hs p1 cp1 p2 cp2 _ qa qb) as e w11 ⟨⟨ps, cs, rfl, rs⟩, hb11⟩
  have hB11 := tr hB10 hb11
  replace rj := rj.below hb11 (Nat.le_refl _)
  clear hb11 hB10 qa qb
  go_wp2_with fail
  go_call (own_any pa a ca w11 (by omega) (hC.below hB11 (Nat.le_refl _))) as e w12 ⟨⟨p1, cp1, rfl, qa⟩, hb12⟩
  have hB12 := tr hB11 hb12
  replace rj := rj.below hb12 (Nat.le_refl _)
  replace rs := rs.below hb12 (Nat.le_refl _)
  clear hb12 hB11
  go_wp2_with fail
  go_call (own_any pb b cb w12 (by omega) (hD.below hB12 (Nat.le_refl _))) as e w13 ⟨⟨p2, cp2, rfl, qb⟩, hb13⟩
  have hB13 := tr hB12 hb13
  replace rj := rj.below hb13 (Nat.le_refl _)
  replace rs := rs.below hb13 (Nat.le_refl _)
  replace qa := qa.below hb13 (Nat.le_refl _)
  clear hb13 hB12
  go_wp2_with fail
  go_call (hp p1 cp1 p2 cp2 _ qa qb) as e w14 ⟨rfl, hb14⟩
  have hB14 := tr hB13 hb14
  replace rj := rj.below hb14 (Nat.le_refl _)
  replace rs := rs.below hb14 (Nat.le_refl _)
  clear hb14 hB13 qa qb
  go_wp2_with fail
  have hB15 := hB14.alloc hB14.size (.cells #[.int .i64 C0, .int .i64 C1] 33)
  have hbn := below1 w14 (.cells #[.int .i64 C0, .int .i64 C1] 33)
  replace rj := rj.below hbn (Nat.le_refl _)
  replace rs := rs.below hbn (Nat.le_refl _)
  have k0 : (w14.alloc (.cells #[.int .i64 C0, .int .i64 C1] 33)).cell? ⟨w14.heap.size, 0, none⟩ = some (.int .i64 C0) := by go_simp
  have k1 : (w14.alloc (.cells #[.int .i64 C0, .int .i64 C1] 33)).cell? ⟨w14.heap.size, 1, none⟩ = some (.int .i64 C1) := by go_simp
  obtain ⟨g1, hg'⟩ : ∃ g, w14.heap.size = g := ⟨_, rfl⟩
  obtain ⟨w15, hw8⟩ : ∃ w8, w14.alloc (.cells #[.int .i64 C0, .int .i64 C1] 33) = w8 := ⟨_, rfl⟩
  rw [hw8] at hB15 rj rs k0 k1 ⊢
  rw [hg'] at k0 k1 ⊢
  clear hw8 hg' hB14 hbn
  go_call (hk1 pa ca _ (hC.2.1.below hB15 (Nat.le_refl _))) as e w16 ⟨rfl, hb16⟩
  have hB16 := tr hB15 hb16
  replace rj := rj.below hb16 (Nat.le_refl _)
  replace rs := rs.below hb16 (Nat.le_refl _)
  replace k0 := cell_tr hb16 k0
  replace k1 := cell_tr hb16 k1
  clear hb16 hB15
  go_wp2_with fail
  go_call (hrj pa ca pb cb _ (hC.2.1.below hB16 (Nat.le_refl _)) (hD.2.1.below hB16 (Nat.le_refl _))) as e w17 ⟨⟨pj2, cj2, rfl, rj2⟩, hb17⟩
  have hB17 := tr hB16 hb17
  replace rj := rj.below hb17 (Nat.le_refl _)
  replace rs := rs.below hb17 (Nat.le_refl _)
  replace k0 := cell_tr hb17 k0
  replace k1 := cell_tr hb17 k1
  clear hb17 hB16
  go_wp2_with fail
  go_call (hrs pa ca pb cb _ (hC.2.1.below hB17 (Nat.le_refl _)) (hD.2.1.below hB17 (Nat.le_refl _))) as e w18 ⟨⟨ps2, cs2, rfl, rs2⟩, hb18⟩
  have hB18 := tr hB17 hb18
  replace rj := rj.below hb18 (Nat.le_refl _)
  replace rs := rs.below hb18 (Nat.le_refl _)
  replace rj2 := rj2.below hb18 (Nat.le_refl _)
  replace k0 := cell_tr hb18 k0
  replace k1 := cell_tr hb18 k1
  clear hb18 hB17
  go_wp2_with fail
  go_call (hrp pa ca pb cb _ (hC.2.1.below hB18 (Nat.le_refl _)) (hD.2.1.below hB18 (Nat.le_refl _))) as e w19 ⟨rfl, hb19⟩
  have hB19 := tr hB18 hb19
  replace rj := rj.below hb19 (Nat.le_refl _)
  replace rs := rs.below hb19 (Nat.le_refl _)
  replace rj2 := rj2.below hb19 (Nat.le_refl _)
  replace rs2 := rs2.below hb19 (Nat.le_refl _)
  replace k0 := cell_tr hb19 k0
  replace k1 := cell_tr hb19 k1
  clear hb19 hB18
  go_wp2_with fail
  have hB20 := hB19.alloc hB19.size (.cells #[.int .i64 C0, .int .i64 C1] 33)
  have hbn := below1 w19 (.cells #[.int .i64 C0, .int .i64 C1] 33)
  replace rj := rj.below hbn (Nat.le_refl _)
  replace rs := rs.below hbn (Nat.le_refl _)
  replace rj2 := rj2.below hbn (Nat.le_refl _)
  replace rs2 := rs2.below hbn (Nat.le_refl _)
  replace k0 := cell_tr hbn k0
  replace k1 := cell_tr hbn k1
  have j0 : (w19.alloc (.cells #[.int .i64 C0, .int .i64 C1] 33)).cell? ⟨w19.heap.size, 0, none⟩ = some (.int .i64 C0) := by go_simp
  have j1 : (w19.alloc (.cells #[.int .i64 C0, .int .i64 C1] 33)).cell? ⟨w19.heap.size, 1, none⟩ = some (.int .i64 C1) := by go_simp
  obtain ⟨g2, hg'⟩ : ∃ g, w19.heap.size = g := ⟨_, rfl⟩
  obtain ⟨w20, hw8⟩ : ∃ w8, w19.alloc (.cells #[.int .i64 C0, .int .i64 C1] 33) = w8 := ⟨_, rfl⟩
  rw [hw8] at hB20 rj rs rj2 rs2 k0 k1 j0 j1 ⊢
  rw [hg'] at j0 j1 ⊢
  clear hw8 hg' hB19 hbn
  go_call (oddsPairs_equal L (by omega) pj cj pj2 cj2 _ rj rj2) as e w21 ⟨rfl, hb21⟩
  have hB21 := tr hB20 hb21
  replace rs := rs.below hb21 (Nat.le_refl _)
  replace rs2 := rs2.below hb21 (Nat.le_refl _)
  replace k0 := cell_tr hb21 k0
  replace k1 := cell_tr hb21 k1
  replace j0 := cell_tr hb21 j0
  replace j1 := cell_tr hb21 j1
  clear hb21 hB20 rj rj2
  go_wp2_with fail
  go_call (oddsPairs_equal S (by omega) ps cs ps2 cs2 _ rs rs2) as e w22 ⟨rfl, hb22⟩
  have hB22 := tr hB21 hb22
  replace k0 := cell_tr hb22 k0
  replace k1 := cell_tr hb22 k1
  replace j0 := cell_tr hb22 j0
  replace j1 := cell_tr hb22 j1
  clear hb22 hB21 rs rs2
  go_wp2_with fail
  go_call (known_any _) as e w23 ⟨rfl, hb23⟩
  have hB23 := tr hB22 hb23
  replace k0 := cell_tr hb23 k0
  replace k1 := cell_tr hb23 k1
  replace j0 := cell_tr hb23 j0
  replace j1 := cell_tr hb23 j1
  clear hb23 hB22
  go_wp2
  go_returns
  exact ⟨rfl, hB23⟩

set_option maxRecDepth 100000 in
set_option maxHeartbeats 16000000 in
theorem oddsPairs_badb (pa : Option Addr) (a : List Int) (ca : Nat) (pb : Option Addr) (b : List Int) (cb : Nat) (w : World) (h1 : longB a.length = false) (h2 : longB b.length = false) (k1 : chk1 a = 0) (k2 : chk1 b ≠ 0) (hC : Came w pa a ca) (hD : Came w pb b cb) :
    Calls Try.prog 6 #[.slice pa a.length ca, .slice pb b.length cb] w fun e w' => e = .returned (.bool true) ∧ Below w.heap.size w w' := by
  have hln := longB_false h1
  have hlm := longB_false h2
  have H1 := Lib.hid h1
  have H2 := Lib.hid h2
  obtain ⟨L, S, E, F, C0, C1, J, hL, hS, hj, hrj, hs, hrs, hp, hrp⟩ := oddsPairs_specs a b (by omega) (by omega)
  have hsm := fun p c q d w (h : Reads w p a) (h' : Reads w q b) => oSame_any p a c q b d w (by omega) (by omega) h h'
  have hk1 := fun p c w (h : Reads w p a) => refCheck_any p a c w (by omega) h
  have hk2 := fun p c w (h : Reads w p b) => refCheck_any p b c w (by omega) h
  obtain ⟨x, hx⟩ : ∃ x, chk1 b = x := ⟨_, rfl⟩
  have e1 : sSame a b = (false, x) := by unfold sSame; rw [if_neg (by rw [chkL2_second k1 k2]; exact k2), chkL2_second k1 k2, hx]
  rw [e1] at hsm
  rw [k1] at hk1
  rw [hx] at hk2 k2
  have hb' : (x != 0) = true := by simpa using k2
  have hb'' : (x == 0) = false := by simpa using k2
  clear h1 h2 k1 k2 e1 hx
  go_enter Try.func6, Try.ntmps6
  go_wp2_with fail
  go_call (long_any pa a ca w) as e w1 ⟨rfl, hb1⟩
  have hB1 := hb1
  clear hb1
  rw [H1.out]
  go_wp2_with fail
  go_call (long_any pb b cb w1) as e w2 ⟨rfl, hb2⟩
  have hB2 := tr hB1 hb2
  clear hb2 hB1
  rw [H2.out]
  go_wp2_with fail
  go_call (own_any pa a ca w2 (by omega) (hC.below hB2 (Nat.le_refl _))) as e w3 ⟨⟨p1, cp1, rfl, qa⟩, hb3⟩
  have hB3 := tr hB2 hb3
  clear hb3 hB2
  go_wp2_with fail
  go_call (own_any pb b cb w3 (by omega) (hD.below hB3 (Nat.le_refl _))) as e w4 ⟨⟨p2, cp2, rfl, qb⟩, hb4⟩
  have hB4 := tr hB3 hb4
  replace qa := qa.below hb4 (Nat.le_refl _)
  clear hb4 hB3
  go_wp2_with fail
  go_call (hsm p1 cp1 p2 cp2 _ qa qb) as e w5 ⟨rfl, hb5⟩
  have hB5 := tr hB4 hb5
  clear hb5 hB4 qa qb
  go_wp2_with fail
  go_call (own_any pa a ca w5 (by omega) (hC.below hB5 (Nat.le_refl _))) as e w6 ⟨⟨p1, cp1, rfl, qa⟩, hb6⟩
  have hB6 := tr hB5 hb6
  clear hb6 hB5
  go_wp2_with fail
  go_call (own_any pb b cb w6 (by omega) (hD.below hB6 (Nat.le_refl _))) as e w7 ⟨⟨p2, cp2, rfl, qb⟩, hb7⟩
  have hB7 := tr hB6 hb7
  replace qa := qa.below hb7 (Nat.le_refl _)
  clear hb7 hB6
  go_wp2_with fail
  go_call (hj p1 cp1 p2 cp2 _ qa qb) as e w8 ⟨⟨pj, cj, rfl, rj⟩, hb8⟩
  have hB8 := tr hB7 hb8
  clear hb8 hB7 qa qb
  go_wp2_with fail
  go_call (own_any pa a ca w8 (by omega) (hC.below hB8 (Nat.le_refl _))) as e w9 ⟨⟨p1, cp1, rfl, qa⟩, hb9⟩
  have hB9 := tr hB8 hb9
  replace rj := rj.below hb9 (Nat.le_refl _)
  clear hb9 hB8
  go_wp2_with fail
  go_call (own_any pb b cb w9 (by omega) (hD.below hB9 (Nat.le_refl _))) as e w10 ⟨⟨p2, cp2, rfl, qb⟩, hb10⟩
  have hB10 := tr hB9 hb10
  replace rj := rj.below hb10 (Nat.le_refl _)
  replace qa := qa.below hb10 (Nat.le_refl _)
  clear hb10 hB9
  go_wp2_with fail
  go_call (hs p1 cp1 p2 cp2 _ qa qb) as e w11 ⟨⟨ps, cs, rfl, rs⟩, hb11⟩
  have hB11 := tr hB10 hb11
  replace rj := rj.below hb11 (Nat.le_refl _)
  clear hb11 hB10 qa qb
  go_wp2_with fail
  go_call (own_any pa a ca w11 (by omega) (hC.below hB11 (Nat.le_refl _))) as e w12 ⟨⟨p1, cp1, rfl, qa⟩, hb12⟩
  have hB12 := tr hB11 hb12
  replace rj := rj.below hb12 (Nat.le_refl _)
  replace rs := rs.below hb12 (Nat.le_refl _)
  clear hb12 hB11
  go_wp2_with fail
  go_call (own_any pb b cb w12 (by omega) (hD.below hB12 (Nat.le_refl _))) as e w13 ⟨⟨p2, cp2, rfl, qb⟩, hb13⟩
  have hB13 := tr hB12 hb13
  replace rj := rj.below hb13 (Nat.le_refl _)
  replace rs := rs.below hb13 (Nat.le_refl _)
  replace qa := qa.below hb13 (Nat.le_refl _)
  clear hb13 hB12
  go_wp2_with fail
  go_call (hp p1 cp1 p2 cp2 _ qa qb) as e w14 ⟨rfl, hb14⟩
  have hB14 := tr hB13 hb14
  replace rj := rj.below hb14 (Nat.le_refl _)
  replace rs := rs.below hb14 (Nat.le_refl _)
  clear hb14 hB13 qa qb
  go_wp2_with fail
  have hB15 := hB14.alloc hB14.size (.cells #[.int .i64 C0, .int .i64 C1] 33)
  have hbn := below1 w14 (.cells #[.int .i64 C0, .int .i64 C1] 33)
  replace rj := rj.below hbn (Nat.le_refl _)
  replace rs := rs.below hbn (Nat.le_refl _)
  have k0 : (w14.alloc (.cells #[.int .i64 C0, .int .i64 C1] 33)).cell? ⟨w14.heap.size, 0, none⟩ = some (.int .i64 C0) := by go_simp
  have k1 : (w14.alloc (.cells #[.int .i64 C0, .int .i64 C1] 33)).cell? ⟨w14.heap.size, 1, none⟩ = some (.int .i64 C1) := by go_simp
  obtain ⟨g1, hg'⟩ : ∃ g, w14.heap.size = g := ⟨_, rfl⟩
  obtain ⟨w15, hw8⟩ : ∃ w8, w14.alloc (.cells #[.int .i64 C0, .int .i64 C1] 33) = w8 := ⟨_, rfl⟩
  rw [hw8] at hB15 rj rs k0 k1 ⊢
  rw [hg'] at k0 k1 ⊢
  clear hw8 hg' hB14 hbn
  go_call (hk1 pa ca _ (hC.2.1.below hB15 (Nat.le_refl _))) as e w16 ⟨rfl, hb16⟩
  have hB16 := tr hB15 hb16
  replace rj := rj.below hb16 (Nat.le_refl _)
  replace rs := rs.below hb16 (Nat.le_refl _)
  replace k0 := cell_tr hb16 k0
  replace k1 := cell_tr hb16 k1
  clear hb16 hB15
  go_wp2_with fail
  go_call (hk2 pb cb _ (hD.2.1.below hB16 (Nat.le_refl _))) as e w17 ⟨rfl, hb17⟩
  have hB17 := tr hB16 hb17
  replace rj := rj.below hb17 (Nat.le_refl _)
  replace rs := rs.below hb17 (Nat.le_refl _)
  replace k0 := cell_tr hb17 k0
  replace k1 := cell_tr hb17 k1
  clear hb17 hB16
  go_wp2_with fail
  go_call (hrj pa ca pb cb _ (hC.2.1.below hB17 (Nat.le_refl _)) (hD.2.1.below hB17 (Nat.le_refl _))) as e w18 ⟨⟨pj2, cj2, rfl, rj2⟩, hb18⟩
  have hB18 := tr hB17 hb18
  replace rj := rj.below hb18 (Nat.le_refl _)
  replace rs := rs.below hb18 (Nat.le_refl _)
  replace k0 := cell_tr hb18 k0
  replace k1 := cell_tr hb18 k1
  clear hb18 hB17
  go_wp2_with fail
  go_call (hrs pa ca pb cb _ (hC.2.1.below hB18 (Nat.le_refl _)) (hD.2.1.below hB18 (Nat.le_refl _))) as e w19 ⟨⟨ps2, cs2, rfl, rs2⟩, hb19⟩
  have hB19 := tr hB18 hb19
  replace rj := rj.below hb19 (Nat.le_refl _)
  replace rs := rs.below hb19 (Nat.le_refl _)
  replace rj2 := rj2.below hb19 (Nat.le_refl _)
  replace k0 := cell_tr hb19 k0
  replace k1 := cell_tr hb19 k1
  clear hb19 hB18
  go_wp2_with fail
  go_call (hrp pa ca pb cb _ (hC.2.1.below hB19 (Nat.le_refl _)) (hD.2.1.below hB19 (Nat.le_refl _))) as e w20 ⟨rfl, hb20⟩
  have hB20 := tr hB19 hb20
  replace rj := rj.below hb20 (Nat.le_refl _)
  replace rs := rs.below hb20 (Nat.le_refl _)
  replace rj2 := rj2.below hb20 (Nat.le_refl _)
  replace rs2 := rs2.below hb20 (Nat.le_refl _)
  replace k0 := cell_tr hb20 k0
  replace k1 := cell_tr hb20 k1
  clear hb20 hB19
  go_wp2_with fail
  have hB21 := hB20.alloc hB20.size (.cells #[.int .i64 C0, .int .i64 C1] 33)
  have hbn := below1 w20 (.cells #[.int .i64 C0, .int .i64 C1] 33)
  replace rj := rj.below hbn (Nat.le_refl _)
  replace rs := rs.below hbn (Nat.le_refl _)
  replace rj2 := rj2.below hbn (Nat.le_refl _)
  replace rs2 := rs2.below hbn (Nat.le_refl _)
  replace k0 := cell_tr hbn k0
  replace k1 := cell_tr hbn k1
  have j0 : (w20.alloc (.cells #[.int .i64 C0, .int .i64 C1] 33)).cell? ⟨w20.heap.size, 0, none⟩ = some (.int .i64 C0) := by go_simp
  have j1 : (w20.alloc (.cells #[.int .i64 C0, .int .i64 C1] 33)).cell? ⟨w20.heap.size, 1, none⟩ = some (.int .i64 C1) := by go_simp
  obtain ⟨g2, hg'⟩ : ∃ g, w20.heap.size = g := ⟨_, rfl⟩
  obtain ⟨w21, hw8⟩ : ∃ w8, w20.alloc (.cells #[.int .i64 C0, .int .i64 C1] 33) = w8 := ⟨_, rfl⟩
  rw [hw8] at hB21 rj rs rj2 rs2 k0 k1 j0 j1 ⊢
  rw [hg'] at j0 j1 ⊢
  clear hw8 hg' hB20 hbn
  go_call (oddsPairs_equal L (by omega) pj cj pj2 cj2 _ rj rj2) as e w22 ⟨rfl, hb22⟩
  have hB22 := tr hB21 hb22
  replace rs := rs.below hb22 (Nat.le_refl _)
  replace rs2 := rs2.below hb22 (Nat.le_refl _)
  replace k0 := cell_tr hb22 k0
  replace k1 := cell_tr hb22 k1
  replace j0 := cell_tr hb22 j0
  replace j1 := cell_tr hb22 j1
  clear hb22 hB21 rj rj2
  go_wp2_with fail
  go_call (oddsPairs_equal S (by omega) ps cs ps2 cs2 _ rs rs2) as e w23 ⟨rfl, hb23⟩
  have hB23 := tr hB22 hb23
  replace k0 := cell_tr hb23 k0
  replace k1 := cell_tr hb23 k1
  replace j0 := cell_tr hb23 j0
  replace j1 := cell_tr hb23 j1
  clear hb23 hB22 rs rs2
  go_wp2_with fail
  go_call (known_any _) as e w24 ⟨rfl, hb24⟩
  have hB24 := tr hB23 hb24
  replace k0 := cell_tr hb24 k0
  replace k1 := cell_tr hb24 k1
  replace j0 := cell_tr hb24 j0
  replace j1 := cell_tr hb24 j1
  clear hb24 hB23
  go_wp2
  go_returns
  exact ⟨rfl, hB24⟩

set_option maxRecDepth 100000 in
set_option maxHeartbeats 4000000 in
theorem oddsPairs_walk (pa : Option Addr) (a : List Int) (ca : Nat) (pb : Option Addr) (b : List Int) (cb : Nat) (w : World) (hC : Came w pa a ca) (hD : Came w pb b cb) :
    Calls Try.prog 6 #[.slice pa a.length ca, .slice pb b.length cb] w fun e w' => e = .returned (.bool true) ∧ Below w.heap.size w w' := by
  by_cases h1 : longB a.length = true
  · have H1 := Lib.hid h1
    clear h1
    go_enter Try.func6, Try.ntmps6
    go_wp2_with fail
    go_call (long_any pa a ca w) as e w1 ⟨rfl, hb1⟩
    rw [H1.out]
    go_wp2_with fail
    go_call (known_any _) as e w2 ⟨rfl, hb2⟩
    go_wp2
    go_returns
    exact ⟨rfl, tr hb1 hb2⟩
  · have h1' : longB a.length = false := by simpa using h1
    by_cases h2 : longB b.length = true
    · have H1 := Lib.hid h1'
      have H2 := Lib.hid h2
      clear h1 h1' h2
      go_enter Try.func6, Try.ntmps6
      go_wp2_with fail
      go_call (long_any pa a ca w) as e w1 ⟨rfl, hb1⟩
      rw [H1.out]
      go_wp2_with fail
      go_call (long_any pb b cb w1) as e w2 ⟨rfl, hb2⟩
      rw [H2.out]
      go_wp2_with fail
      go_call (known_any _) as e w3 ⟨rfl, hb3⟩
      go_wp2
      go_returns
      exact ⟨rfl, tr hb1 (tr hb2 hb3)⟩
    · have h2' : longB b.length = false := by simpa using h2
      by_cases k1 : chk1 a = 0
      · by_cases k2 : chk1 b = 0
        · exact oddsPairs_ok pa a ca pb b cb w h1' h2' k1 k2 hC hD
        · exact oddsPairs_badb pa a ca pb b cb w h1' h2' k1 k2 hC hD
      · exact oddsPairs_bada pa a ca pb b cb w h1' h2' k1 hC hD

theorem oddsPairs_own : ownKnob Try.prog.godebug = none := by kernel_rfl
theorem oddsPairs_laidOut : laidOutB Try.prog = true := by kernel_rfl

set_option maxRecDepth 100000 in
theorem oddsPairs_lifted (os : Os) (started : os.Started) (H : Type) (enc : TypeId × Value → H) :
    ReturnsInHanded {} Try.checked os 6 .any (Rows.oddsPairsSpec.pre6 enc Try.prog Try.f6 Rows.oddsPairsRow.domain false) (Rows.oddsPairsSpec.post enc Try.prog Try.f6 false true false false) := by
  refine returnsInHanded_of_change (C := Try.checked) oddsPairs_own started (by kernel_rfl) Try.func6
    (ChangeSpec.witness6 (enc := enc) (C := Try.checked) false ⟨#[], #[.slice none 0 0, .slice none 0 0], []⟩ 8 (by kernel_rfl) (by kernel_rfl) (by kernel_rfl) (by kernel_rfl)) ?_
  intro W base args ds gs before hval0 hW hcnd _
  have hval : ∀ (j : Nat) t v, Try.f6.params[j]? = some t → args[j]? = some v → Value.okWide Try.prog W .any base t v := hval0
  have hW' := hW
  obtain ⟨p, q, hA0, hV, rfl, hfz, hnd⟩ := hW
  have hA : DataW.TrodAll enc Try.prog W 0 (fun _ => true) true Try.f6.params.toList args.toList ds p := hA0
  rw [Try.params6] at hA hval
  obtain ⟨v0, v1, d0, d1, p0, p1, rfl, rfl, rfl, h0, h1⟩ := trodAll_two hA
  obtain ⟨rfl, rfl⟩ := trodVars_none hV
  have lt0 : ∀ x ∈ p0, x.block < W.heap.size := by obtain ⟨m, hm⟩ := h0; exact DataW.trod_lt m _ _ _ hm
  have lt1 : ∀ x ∈ p1, x.block < W.heap.size := by obtain ⟨m, hm⟩ := h1; exact DataW.trod_lt m _ _ _ hm
  obtain ⟨a0, xs0, c0, rfl, hC0, _⟩ := came_open (hval 0 22 v0 rfl rfl) h0
  obtain ⟨a1, xs1, c1, rfl, hC1, _⟩ := came_open (hval 1 22 v1 rfl rfl) h1
  clear hA0 hval0
  refine (oddsPairs_walk a0 xs0 c0 a1 xs1 c1 W hC0 hC1).mono fun e W' ⟨he, bel⟩ => ?_
  subst he
  exact ⟨_, rfl, _, _, _, [], _, [], hW', trodAll_mk1 (shut_bool Try.underlying4 _), (trodAll_cons_mk (Below.trod oddsPairs_laidOut (by kernel_rfl) (of_decide_eq_true (by kernel_rfl)) h0 bel lt0) (trodAll_cons_mk (Below.trod oddsPairs_laidOut (by kernel_rfl) (of_decide_eq_true (by kernel_rfl)) h1 bel lt1) trodAll_mk0)), rfl, bel.frame _, fun h => by cases h⟩

theorem oddsPairs_holds : Rows.OddsPairsSaid :=
  OpenClaim.holds_of_wide 6 Try.f6 rfl rfl rfl rfl rfl rfl rfl ⟨rfl, rfl, rfl, rfl, rfl⟩ rfl rfl rfl rfl rfl (by kernel_rfl) Try.func6 (by kernel_rfl)
    (of_decide_eq_true (by kernel_rfl)) (by unfold Func.isWrapper; first | (rw [if_pos (by decide +kernel)]; kernel_rfl) | (rw [if_neg (by decide +kernel)]; exact ⟨rfl, rfl⟩))
    (fun os started H enc _ => oddsPairs_lifted os started H enc)
end Go.Proofs.Ytagodfaclohkmaa
