/-
  OddsLists: for every list of weights and every list of outcomes, the function returns true and leaves both lists as they are. Nothing is asked of the input.
-/
import Derived.Test.YtagodfaclohkmaaZa
import Derived.Test.YtagodfaclohkmaaVi
import Derived.WalkKit
import Derived.ProofKit
import Derived.OpenShut
import Derived.ChangeOld
import Derived.Below
namespace Go.Proofs.Ytagodfaclohkmaa
open Go.ChangeShapes Go.WideShapes Go.ChangeAt Go.RowKit
set_option linter.unusedVariables false

theorem onlyL_length (xs os : List Int) : (onlyL xs os).length = xs.length := onlyTo_length _ _ _
theorem sGiven_length {xs os : List Int} (hl : xs.length ≤ 4096 ∨ chk1 xs ≠ 0) : (sGiven xs os).1.length ≤ 4096 := by
  unfold sGiven
  split
  · simp
  · rename_i h
    split
    · simp
    · have := (chk1_ok (chkS_ok (by simpa using h)).1).1
      simp only [onlyL_length]
      exact this

theorem equal_le (L : List Int) (hL : L.length ≤ 1000000) (pa : Option Addr) (ca : Nat) (pb : Option Addr) (cb : Nat) (w : World) (hRa : Reads w pa L) (hRb : Reads w pb L) :
    Calls Try.prog 24 #[.slice pa L.length ca, .slice pb L.length cb] w fun e w' => e = .returned (.bool true) ∧ Below w.heap.size w w' := by
  have h := equal_any pa L ca pb L cb w (by omega) (by omega) hRa hRb
  rwa [eqL_self] at h

set_option maxRecDepth 100000 in
set_option maxHeartbeats 8000000 in
theorem oddsLists_bad (p : Option Addr) (xs : List Int) (c : Nat) (po : Option Addr) (os : List Int) (co : Nat) (w : World) (h1 : longB xs.length = false) (h2 : ¬ 400 < os.length) (h0 : chk1 xs ≠ 0) (hC : Came w p xs c) (hCo : Came w po os co) :
    Calls Try.prog 3 #[.slice p xs.length c, .slice po os.length co] w fun e w' => e = .returned (.bool true) ∧ Below w.heap.size w w' := by
  have hln := longB_false h1
  have H1 := Lib.hid h1
  obtain ⟨G, K, hGl, hg, hrg⟩ : ∃ (G : List Int) (K : Int), G.length ≤ 4096 ∧
      (∀ p c po co w, Reads w p xs → Reads w po os → Calls Try.prog 22 #[.slice p xs.length c, .slice po os.length co] w fun e w' => (∃ p' c', e = .returned (.tuple #[.slice p' G.length c', .int .i64 K]) ∧ Reads w' p' G) ∧ Below w.heap.size w w') ∧
      (∀ p c po co w, Reads w p xs → Reads w po os → Calls Try.prog 26 #[.slice p xs.length c, .slice po os.length co] w fun e w' => (∃ p' c', e = .returned (.tuple #[.slice p' G.length c', .int .i64 K]) ∧ Reads w' p' G) ∧ Below w.heap.size w w') :=
    ⟨_, _, sGiven_length (Or.inr h0), fun p c po co w h h' => oGiven_any p xs c po os co w (by omega) (by omega) h h', fun p c po co w h h' => refGiven_any p xs c po os co w (by omega) (by omega) h h'⟩
  obtain ⟨C0, C1, J, ho, hro⟩ : ∃ (C0 C1 J : Int),
      (∀ p c po co w, Reads w p xs → Reads w po os → Calls Try.prog 21 #[.slice p xs.length c, .slice po os.length co] w fun e w' => e = .returned (.tuple #[.agg #[.int .i64 C0, .int .i64 C1], .int .i64 J]) ∧ Below w.heap.size w w') ∧
      (∀ p c po co w, Reads w p xs → Reads w po os → Calls Try.prog 25 #[.slice p xs.length c, .slice po os.length co] w fun e w' => e = .returned (.tuple #[.agg #[.int .i64 C0, .int .i64 C1], .int .i64 J]) ∧ Below w.heap.size w w') :=
    ⟨_, _, _, fun p c po co w h h' => of_any p xs c po os co w (by omega) (by omega) h h', fun p c po co w h h' => refOf_any p xs c po os co w (by omega) (by omega) h h'⟩
  obtain ⟨x, hx⟩ : ∃ x, chk1 xs = x := ⟨_, rfl⟩
  have ht := fun p c w (h : Reads w p xs) => oTotal_any p xs c w (by omega) h
  have hw := fun p c w (h : Reads w p xs) => oLowest_any p xs c w (by omega) h
  have hk := fun p c w (h : Reads w p xs) => oCheck_any p xs c w (by omega) h
  have hrk := fun p c w (h : Reads w p xs) => refCheck_any p xs c w (by omega) h
  have s1 : sTotal xs = (0, x) := by unfold sTotal; rw [if_neg h0, hx]
  have s2 : sLow xs = ([], x) := by unfold sLow; rw [if_neg h0, hx]
  rw [s1] at ht
  rw [s2] at hw
  rw [hx] at hk hrk h0
  have hb' : (x != 0) = true := by simpa using h0
  clear hx h1 s1 s2 h0
  go_enter Try.func3, Try.ntmps3
  go_wp2_with fail
  go_call (long_any p xs c w) as e w1 ⟨rfl, hb1⟩
  have hB1 := hb1
  clear hb1
  rw [H1.out]
  go_wp2_with fail
  go_call (own_any p xs c w1 (by omega) (hC.below hB1 (Nat.le_refl _))) as e w2 ⟨⟨p1, cp1, rfl, r1⟩, hb2⟩
  have hB2 := tr hB1 hb2
  clear hb2 hB1
  go_wp2_with fail
  go_call (hk p1 cp1 _ r1) as e w3 ⟨rfl, hb3⟩
  have hB3 := tr hB2 hb3
  replace r1 := r1.below hb3 (Nat.le_refl _)
  clear hb3 hB2
  go_wp2_with fail
  go_call (ht p1 cp1 _ r1) as e w4 ⟨rfl, hb4⟩
  have hB4 := tr hB3 hb4
  replace r1 := r1.below hb4 (Nat.le_refl _)
  clear hb4 hB3
  go_wp2_with fail
  go_call (hw p1 cp1 _ r1) as e w5 ⟨⟨pl, cl, rfl, rl⟩, hb5⟩
  have hB5 := tr hB4 hb5
  replace r1 := r1.below hb5 (Nat.le_refl _)
  clear hb5 hB4
  clear rl
  go_wp2_with fail
  go_call (own_any po os co w5 (by omega) (hCo.below hB5 (Nat.le_refl _))) as e w6 ⟨⟨pa, cpa, rfl, ra⟩, hb6⟩
  have hB6 := tr hB5 hb6
  replace r1 := r1.below hb6 (Nat.le_refl _)
  clear hb6 hB5
  go_wp2_with fail
  go_call (ho p1 cp1 pa cpa _ r1 ra) as e w7 ⟨rfl, hb7⟩
  have hB7 := tr hB6 hb7
  replace r1 := r1.below hb7 (Nat.le_refl _)
  clear hb7 hB6 ra
  go_wp2_with fail
  have hB8 := hB7.alloc hB7.size (.cells #[.int .i64 C0, .int .i64 C1] 33)
  have hbn := below1 w7 (.cells #[.int .i64 C0, .int .i64 C1] 33)
  replace r1 := r1.below hbn (Nat.le_refl _)
  have k0 : (w7.alloc (.cells #[.int .i64 C0, .int .i64 C1] 33)).cell? ⟨w7.heap.size, 0, none⟩ = some (.int .i64 C0) := by go_simp
  have k1 : (w7.alloc (.cells #[.int .i64 C0, .int .i64 C1] 33)).cell? ⟨w7.heap.size, 1, none⟩ = some (.int .i64 C1) := by go_simp
  obtain ⟨g1, hg'⟩ : ∃ g, w7.heap.size = g := ⟨_, rfl⟩
  obtain ⟨w8, hw8⟩ : ∃ w8, w7.alloc (.cells #[.int .i64 C0, .int .i64 C1] 33) = w8 := ⟨_, rfl⟩
  rw [hw8] at hB8 r1 k0 k1 ⊢
  rw [hg'] at k0 k1 ⊢
  clear hw8 hg' hB7 hbn
  go_call (own_any po os co w8 (by omega) (hCo.below hB8 (Nat.le_refl _))) as e w9 ⟨⟨pb, cb, rfl, rb⟩, hb9⟩
  have hB9 := tr hB8 hb9
  replace r1 := r1.below hb9 (Nat.le_refl _)
  replace k0 := cell_tr hb9 k0
  replace k1 := cell_tr hb9 k1
  clear hb9 hB8
  go_wp2_with fail
  go_call (hg p1 cp1 pb cb _ r1 rb) as e w10 ⟨⟨pg, cg, rfl, rg⟩, hb10⟩
  have hB10 := tr hB9 hb10
  replace r1 := r1.below hb10 (Nat.le_refl _)
  replace k0 := cell_tr hb10 k0
  replace k1 := cell_tr hb10 k1
  clear hb10 hB9 rb
  go_wp2_with fail
  go_call (hrk p c _ (hC.2.1.below hB10 (Nat.le_refl _))) as e w11 ⟨rfl, hb11⟩
  have hB11 := tr hB10 hb11
  replace r1 := r1.below hb11 (Nat.le_refl _)
  replace rg := rg.below hb11 (Nat.le_refl _)
  replace k0 := cell_tr hb11 k0
  replace k1 := cell_tr hb11 k1
  clear hb11 hB10
  go_wp2_with fail
  go_call (equal_le xs (by omega) p1 cp1 p c _ r1 (hC.2.1.below hB11 (Nat.le_refl _))) as e w12 ⟨rfl, hb12⟩
  have hB12 := tr hB11 hb12
  replace rg := rg.below hb12 (Nat.le_refl _)
  replace k0 := cell_tr hb12 k0
  replace k1 := cell_tr hb12 k1
  clear hb12 hB11 r1
  go_wp2_with fail
  go_call (hro p c po co _ (hC.2.1.below hB12 (Nat.le_refl _)) (hCo.2.1.below hB12 (Nat.le_refl _))) as e w13 ⟨rfl, hb13⟩
  have hB13 := tr hB12 hb13
  replace rg := rg.below hb13 (Nat.le_refl _)
  replace k0 := cell_tr hb13 k0
  replace k1 := cell_tr hb13 k1
  clear hb13 hB12
  go_wp2_with fail
  have hB14 := hB13.alloc hB13.size (.cells #[.int .i64 C0, .int .i64 C1] 33)
  have hbn := below1 w13 (.cells #[.int .i64 C0, .int .i64 C1] 33)
  replace rg := rg.below hbn (Nat.le_refl _)
  replace k0 := cell_tr hbn k0
  replace k1 := cell_tr hbn k1
  have j0 : (w13.alloc (.cells #[.int .i64 C0, .int .i64 C1] 33)).cell? ⟨w13.heap.size, 0, none⟩ = some (.int .i64 C0) := by go_simp
  have j1 : (w13.alloc (.cells #[.int .i64 C0, .int .i64 C1] 33)).cell? ⟨w13.heap.size, 1, none⟩ = some (.int .i64 C1) := by go_simp
  obtain ⟨g2, hg'⟩ : ∃ g, w13.heap.size = g := ⟨_, rfl⟩
  obtain ⟨w14, hw8⟩ : ∃ w8, w13.alloc (.cells #[.int .i64 C0, .int .i64 C1] 33) = w8 := ⟨_, rfl⟩
  rw [hw8] at hB14 rg k0 k1 j0 j1 ⊢
  rw [hg'] at j0 j1 ⊢
  clear hw8 hg' hB13 hbn
  go_call (hrg p c po co _ (hC.2.1.below hB14 (Nat.le_refl _)) (hCo.2.1.below hB14 (Nat.le_refl _))) as e w15 ⟨⟨pq, cq, rfl, rq⟩, hb15⟩
  have hB15 := tr hB14 hb15
  replace rg := rg.below hb15 (Nat.le_refl _)
  replace k0 := cell_tr hb15 k0
  replace k1 := cell_tr hb15 k1
  replace j0 := cell_tr hb15 j0
  replace j1 := cell_tr hb15 j1
  clear hb15 hB14
  go_wp2_with fail
  go_call (equal_le G (by omega) pg cg pq cq _ rg rq) as e w16 ⟨rfl, hb16⟩
  have hB16 := tr hB15 hb16
  replace k0 := cell_tr hb16 k0
  replace k1 := cell_tr hb16 k1
  replace j0 := cell_tr hb16 j0
  replace j1 := cell_tr hb16 j1
  clear hb16 hB15 rg rq
  clear k0 k1 j0 j1
  go_wp2_with fail
  go_call (known_any _) as e w17 ⟨rfl, hb17⟩
  have hB17 := tr hB16 hb17
  clear hb17 hB16
  go_wp2
  go_returns
  exact ⟨rfl, hB17⟩

set_option maxRecDepth 100000 in
set_option maxHeartbeats 8000000 in
theorem oddsLists_ok (p : Option Addr) (xs : List Int) (c : Nat) (po : Option Addr) (os : List Int) (co : Nat) (w : World) (h1 : longB xs.length = false) (h2 : ¬ 400 < os.length) (h0 : chk1 xs = 0) (hC : Came w p xs c) (hCo : Came w po os co) :
    Calls Try.prog 3 #[.slice p xs.length c, .slice po os.length co] w fun e w' => e = .returned (.bool true) ∧ Below w.heap.size w w' := by
  have hln := longB_false h1
  have H1 := Lib.hid h1
  obtain ⟨G, K, hGl, hg, hrg⟩ : ∃ (G : List Int) (K : Int), G.length ≤ 4096 ∧
      (∀ p c po co w, Reads w p xs → Reads w po os → Calls Try.prog 22 #[.slice p xs.length c, .slice po os.length co] w fun e w' => (∃ p' c', e = .returned (.tuple #[.slice p' G.length c', .int .i64 K]) ∧ Reads w' p' G) ∧ Below w.heap.size w w') ∧
      (∀ p c po co w, Reads w p xs → Reads w po os → Calls Try.prog 26 #[.slice p xs.length c, .slice po os.length co] w fun e w' => (∃ p' c', e = .returned (.tuple #[.slice p' G.length c', .int .i64 K]) ∧ Reads w' p' G) ∧ Below w.heap.size w w') :=
    ⟨_, _, sGiven_length (Or.inl (chk1_ok h0).1), fun p c po co w h h' => oGiven_any p xs c po os co w (by omega) (by omega) h h', fun p c po co w h h' => refGiven_any p xs c po os co w (by omega) (by omega) h h'⟩
  obtain ⟨C0, C1, J, ho, hro⟩ : ∃ (C0 C1 J : Int),
      (∀ p c po co w, Reads w p xs → Reads w po os → Calls Try.prog 21 #[.slice p xs.length c, .slice po os.length co] w fun e w' => e = .returned (.tuple #[.agg #[.int .i64 C0, .int .i64 C1], .int .i64 J]) ∧ Below w.heap.size w w') ∧
      (∀ p c po co w, Reads w p xs → Reads w po os → Calls Try.prog 25 #[.slice p xs.length c, .slice po os.length co] w fun e w' => e = .returned (.tuple #[.agg #[.int .i64 C0, .int .i64 C1], .int .i64 J]) ∧ Below w.heap.size w w') :=
    ⟨_, _, _, fun p c po co w h h' => of_any p xs c po os co w (by omega) (by omega) h h', fun p c po co w h h' => refOf_any p xs c po os co w (by omega) (by omega) h h'⟩
  obtain ⟨a1, a2, a3, a4⟩ := chk1_ok h0
  obtain ⟨g1, g2, g3, g4⟩ := low_facts a2 a3
  have ht := fun p c w (h : Reads w p xs) => oTotal_any p xs c w (by omega) h
  have hw := fun p c w (h : Reads w p xs) => oLowest_any p xs c w (by omega) h
  have hk := fun p c w (h : Reads w p xs) => oCheck_any p xs c w (by omega) h
  have hrk := fun p c w (h : Reads w p xs) => refCheck_any p xs c w (by omega) h
  have s1 : sTotal xs = (lsum xs, 0) := by unfold sTotal; rw [if_pos h0]
  have s2 : sLow xs = (low xs, 0) := by unfold sLow; rw [if_pos h0]
  rw [s1] at ht
  rw [s2] at hw
  rw [h0] at hk hrk
  obtain ⟨L, hL⟩ : ∃ L, low xs = L := ⟨_, rfl⟩
  have hLl : L.length = xs.length := by rw [← hL, low_length]
  have hrl := fun p c w (h : Reads w p xs) => refLowest_any p xs c w a1 a2 g1 h
  rw [hL] at hw hrl
  dsimp only at hw ht
  have heL := fun pa ca pb cb w (h : Reads w pa L) (h' : Reads w pb L) => equal_le L (by omega) pa ca pb cb w h h'
  clear hLl
  have hrt := fun p c w (h : Reads w p xs) => refTotal_any p xs c w a1 a2 h
  obtain ⟨N, hN⟩ : ∃ N, lsum xs = N := ⟨_, rfl⟩
  rw [hN] at ht hrt
  clear h1 s1 s2 h0 hL g1 g2 g3 g4 a3 a4 hN
  go_enter Try.func3, Try.ntmps3
  go_wp2_with fail
  go_call (long_any p xs c w) as e w1 ⟨rfl, hb1⟩
  have hB1 := hb1
  clear hb1
  rw [H1.out]
  go_wp2_with fail
  go_call (own_any p xs c w1 (by omega) (hC.below hB1 (Nat.le_refl _))) as e w2 ⟨⟨p1, cp1, rfl, r1⟩, hb2⟩
  have hB2 := tr hB1 hb2
  clear hb2 hB1
  go_wp2_with fail
  go_call (hk p1 cp1 _ r1) as e w3 ⟨rfl, hb3⟩
  have hB3 := tr hB2 hb3
  replace r1 := r1.below hb3 (Nat.le_refl _)
  clear hb3 hB2
  go_wp2_with fail
  go_call (ht p1 cp1 _ r1) as e w4 ⟨rfl, hb4⟩
  have hB4 := tr hB3 hb4
  replace r1 := r1.below hb4 (Nat.le_refl _)
  clear hb4 hB3
  go_wp2_with fail
  go_call (hw p1 cp1 _ r1) as e w5 ⟨⟨pl, cl, rfl, rl⟩, hb5⟩
  have hB5 := tr hB4 hb5
  replace r1 := r1.below hb5 (Nat.le_refl _)
  clear hb5 hB4
  go_wp2_with fail
  go_call (own_any po os co w5 (by omega) (hCo.below hB5 (Nat.le_refl _))) as e w6 ⟨⟨pa, cpa, rfl, ra⟩, hb6⟩
  have hB6 := tr hB5 hb6
  replace r1 := r1.below hb6 (Nat.le_refl _)
  replace rl := rl.below hb6 (Nat.le_refl _)
  clear hb6 hB5
  go_wp2_with fail
  go_call (ho p1 cp1 pa cpa _ r1 ra) as e w7 ⟨rfl, hb7⟩
  have hB7 := tr hB6 hb7
  replace r1 := r1.below hb7 (Nat.le_refl _)
  replace rl := rl.below hb7 (Nat.le_refl _)
  clear hb7 hB6 ra
  go_wp2_with fail
  have hB8 := hB7.alloc hB7.size (.cells #[.int .i64 C0, .int .i64 C1] 33)
  have hbn := below1 w7 (.cells #[.int .i64 C0, .int .i64 C1] 33)
  replace r1 := r1.below hbn (Nat.le_refl _)
  replace rl := rl.below hbn (Nat.le_refl _)
  have k0 : (w7.alloc (.cells #[.int .i64 C0, .int .i64 C1] 33)).cell? ⟨w7.heap.size, 0, none⟩ = some (.int .i64 C0) := by go_simp
  have k1 : (w7.alloc (.cells #[.int .i64 C0, .int .i64 C1] 33)).cell? ⟨w7.heap.size, 1, none⟩ = some (.int .i64 C1) := by go_simp
  obtain ⟨g1, hg'⟩ : ∃ g, w7.heap.size = g := ⟨_, rfl⟩
  obtain ⟨w8, hw8⟩ : ∃ w8, w7.alloc (.cells #[.int .i64 C0, .int .i64 C1] 33) = w8 := ⟨_, rfl⟩
  rw [hw8] at hB8 r1 rl k0 k1 ⊢
  rw [hg'] at k0 k1 ⊢
  clear hw8 hg' hB7 hbn
  go_call (own_any po os co w8 (by omega) (hCo.below hB8 (Nat.le_refl _))) as e w9 ⟨⟨pb, cb, rfl, rb⟩, hb9⟩
  have hB9 := tr hB8 hb9
  replace r1 := r1.below hb9 (Nat.le_refl _)
  replace rl := rl.below hb9 (Nat.le_refl _)
  replace k0 := cell_tr hb9 k0
  replace k1 := cell_tr hb9 k1
  clear hb9 hB8
  go_wp2_with fail
  go_call (hg p1 cp1 pb cb _ r1 rb) as e w10 ⟨⟨pg, cg, rfl, rg⟩, hb10⟩
  have hB10 := tr hB9 hb10
  replace r1 := r1.below hb10 (Nat.le_refl _)
  replace rl := rl.below hb10 (Nat.le_refl _)
  replace k0 := cell_tr hb10 k0
  replace k1 := cell_tr hb10 k1
  clear hb10 hB9 rb
  go_wp2_with fail
  go_call (hrk p c _ (hC.2.1.below hB10 (Nat.le_refl _))) as e w11 ⟨rfl, hb11⟩
  have hB11 := tr hB10 hb11
  replace r1 := r1.below hb11 (Nat.le_refl _)
  replace rl := rl.below hb11 (Nat.le_refl _)
  replace rg := rg.below hb11 (Nat.le_refl _)
  replace k0 := cell_tr hb11 k0
  replace k1 := cell_tr hb11 k1
  clear hb11 hB10
  go_wp2_with fail
  go_call (equal_le xs (by omega) p1 cp1 p c _ r1 (hC.2.1.below hB11 (Nat.le_refl _))) as e w12 ⟨rfl, hb12⟩
  have hB12 := tr hB11 hb12
  replace rl := rl.below hb12 (Nat.le_refl _)
  replace rg := rg.below hb12 (Nat.le_refl _)
  replace k0 := cell_tr hb12 k0
  replace k1 := cell_tr hb12 k1
  clear hb12 hB11 r1
  go_wp2_with fail
  go_call (hro p c po co _ (hC.2.1.below hB12 (Nat.le_refl _)) (hCo.2.1.below hB12 (Nat.le_refl _))) as e w13 ⟨rfl, hb13⟩
  have hB13 := tr hB12 hb13
  replace rl := rl.below hb13 (Nat.le_refl _)
  replace rg := rg.below hb13 (Nat.le_refl _)
  replace k0 := cell_tr hb13 k0
  replace k1 := cell_tr hb13 k1
  clear hb13 hB12
  go_wp2_with fail
  have hB14 := hB13.alloc hB13.size (.cells #[.int .i64 C0, .int .i64 C1] 33)
  have hbn := below1 w13 (.cells #[.int .i64 C0, .int .i64 C1] 33)
  replace rl := rl.below hbn (Nat.le_refl _)
  replace rg := rg.below hbn (Nat.le_refl _)
  replace k0 := cell_tr hbn k0
  replace k1 := cell_tr hbn k1
  have j0 : (w13.alloc (.cells #[.int .i64 C0, .int .i64 C1] 33)).cell? ⟨w13.heap.size, 0, none⟩ = some (.int .i64 C0) := by go_simp
  have j1 : (w13.alloc (.cells #[.int .i64 C0, .int .i64 C1] 33)).cell? ⟨w13.heap.size, 1, none⟩ = some (.int .i64 C1) := by go_simp
  obtain ⟨g2, hg'⟩ : ∃ g, w13.heap.size = g := ⟨_, rfl⟩
  obtain ⟨w14, hw8⟩ : ∃ w8, w13.alloc (.cells #[.int .i64 C0, .int .i64 C1] 33) = w8 := ⟨_, rfl⟩
  rw [hw8] at hB14 rl rg k0 k1 j0 j1 ⊢
  rw [hg'] at j0 j1 ⊢
  clear hw8 hg' hB13 hbn
  go_call (hrg p c po co _ (hC.2.1.below hB14 (Nat.le_refl _)) (hCo.2.1.below hB14 (Nat.le_refl _))) as e w15 ⟨⟨pq, cq, rfl, rq⟩, hb15⟩
  have hB15 := tr hB14 hb15
  replace rl := rl.below hb15 (Nat.le_refl _)
  replace rg := rg.below hb15 (Nat.le_refl _)
  replace k0 := cell_tr hb15 k0
  replace k1 := cell_tr hb15 k1
  replace j0 := cell_tr hb15 j0
  replace j1 := cell_tr hb15 j1
  clear hb15 hB14
  go_wp2_with fail
  go_call (equal_le G (by omega) pg cg pq cq _ rg rq) as e w16 ⟨rfl, hb16⟩
  have hB16 := tr hB15 hb16
  replace rl := rl.below hb16 (Nat.le_refl _)
  replace k0 := cell_tr hb16 k0
  replace k1 := cell_tr hb16 k1
  replace j0 := cell_tr hb16 j0
  replace j1 := cell_tr hb16 j1
  clear hb16 hB15 rg rq
  clear k0 k1 j0 j1
  go_wp2_with fail
  go_call (hrt p c _ (hC.2.1.below hB16 (Nat.le_refl _))) as e w17 ⟨rfl, hb17⟩
  have hB17 := tr hB16 hb17
  replace rl := rl.below hb17 (Nat.le_refl _)
  clear hb17 hB16
  go_wp2_with fail
  go_call (hrl p c _ (hC.2.1.below hB17 (Nat.le_refl _))) as e w18 ⟨⟨px, cx, rfl, rx⟩, hb18⟩
  have hB18 := tr hB17 hb18
  replace rl := rl.below hb18 (Nat.le_refl _)
  clear hb18 hB17
  go_wp2_with fail
  go_call (heL pl cl px cx _ rl rx) as e w19 ⟨rfl, hb19⟩
  have hB19 := tr hB18 hb19
  clear hb19 hB18 rl rx
  go_wp2_with fail
  go_call (known_any _) as e w20 ⟨rfl, hb20⟩
  have hB20 := tr hB19 hb20
  clear hb20 hB19
  go_wp2
  go_returns
  exact ⟨rfl, hB20⟩

set_option maxRecDepth 100000 in
set_option maxHeartbeats 8000000 in
theorem oddsLists_walk (p : Option Addr) (xs : List Int) (c : Nat) (po : Option Addr) (os : List Int) (co : Nat) (w : World) (hC : Came w p xs c) (hCo : Came w po os co) :
    Calls Try.prog 3 #[.slice p xs.length c, .slice po os.length co] w fun e w' => e = .returned (.bool true) ∧ Below w.heap.size w w' := by
  by_cases h1 : longB xs.length = true
  · have H1 := Lib.hid h1
    clear h1
    go_enter Try.func3, Try.ntmps3
    go_wp2_with fail
    go_call (long_any p xs c w) as e w1 ⟨rfl, hb1⟩
    rw [H1.out]
    go_wp2_with fail
    go_call (known_any _) as e w2 ⟨rfl, hb2⟩
    go_wp2
    go_returns
    exact ⟨rfl, tr hb1 hb2⟩
  · have h1' : longB xs.length = false := by simpa using h1
    by_cases h2 : 400 < os.length
    · have H1 := Lib.hid h1'
      clear h1 h1'
      go_enter Try.func3, Try.ntmps3
      go_wp2_with fail
      go_call (long_any p xs c w) as e w1 ⟨rfl, hb1⟩
      rw [H1.out]
      go_wp2_with fail
      go_call (known_any _) as e w2 ⟨rfl, hb2⟩
      go_wp2
      go_returns
      exact ⟨rfl, tr hb1 hb2⟩
    · by_cases h0 : chk1 xs = 0
      · exact oddsLists_ok p xs c po os co w h1' h2 h0 hC hCo
      · exact oddsLists_bad p xs c po os co w h1' h2 h0 hC hCo

theorem oddsLists_own : ownKnob Try.prog.godebug = none := by kernel_rfl
theorem oddsLists_laidOut : laidOutB Try.prog = true := by kernel_rfl

set_option maxRecDepth 100000 in
theorem oddsLists_lifted (os : Os) (started : os.Started) (H : Type) (enc : TypeId × Value → H) :
    ReturnsInHanded {} Try.checked os 3 .any (Rows.oddsListsSpec.pre6 enc Try.prog Try.f3 Rows.oddsListsRow.domain false) (Rows.oddsListsSpec.post enc Try.prog Try.f3 false true false false) := by
  refine returnsInHanded_of_change (C := Try.checked) oddsLists_own started (by kernel_rfl) Try.func3
    (ChangeSpec.witness6 (enc := enc) (C := Try.checked) false ⟨#[], #[.slice none 0 0, .slice none 0 0], []⟩ 8 (by kernel_rfl) (by kernel_rfl) (by kernel_rfl) (by kernel_rfl)) ?_
  intro W base args ds gs before hval0 hW hcnd _
  have hval : ∀ (j : Nat) t v, Try.f3.params[j]? = some t → args[j]? = some v → Value.okWide Try.prog W .any base t v := hval0
  have hW' := hW
  obtain ⟨p, q, hA0, hV, rfl, hfz, hnd⟩ := hW
  have hA : DataW.TrodAll enc Try.prog W 0 (fun _ => true) true Try.f3.params.toList args.toList ds p := hA0
  rw [Try.params3] at hA hval
  obtain ⟨v0, v1, d0, d1, p0, p1, rfl, rfl, rfl, h0, h1⟩ := trodAll_two hA
  obtain ⟨rfl, rfl⟩ := trodVars_none hV
  have lt0 : ∀ x ∈ p0, x.block < W.heap.size := by obtain ⟨m, hm⟩ := h0; exact DataW.trod_lt m _ _ _ hm
  have lt1 : ∀ x ∈ p1, x.block < W.heap.size := by obtain ⟨m, hm⟩ := h1; exact DataW.trod_lt m _ _ _ hm
  obtain ⟨a0, xs0, c0, rfl, hC0, _⟩ := came_open (hval 0 22 v0 rfl rfl) h0
  obtain ⟨a1, xs1, c1, rfl, hC1, _⟩ := came_open (hval 1 22 v1 rfl rfl) h1
  clear hA0 hval0
  refine (oddsLists_walk a0 xs0 c0 a1 xs1 c1 W hC0 hC1).mono fun e W' ⟨he, bel⟩ => ?_
  subst he
  exact ⟨_, rfl, _, _, _, [], _, [], hW', trodAll_mk1 (shut_bool Try.underlying4 _), (trodAll_cons_mk (Below.trod oddsLists_laidOut (by kernel_rfl) (of_decide_eq_true (by kernel_rfl)) h0 bel lt0) (trodAll_cons_mk (Below.trod oddsLists_laidOut (by kernel_rfl) (of_decide_eq_true (by kernel_rfl)) h1 bel lt1) trodAll_mk0)), rfl, bel.frame _, fun h => by cases h⟩

theorem oddsLists_holds : Rows.OddsListsSaid :=
  OpenClaim.holds_of_wide 3 Try.f3 rfl rfl rfl rfl rfl rfl rfl ⟨rfl, rfl, rfl, rfl, rfl⟩ rfl rfl rfl rfl rfl (by kernel_rfl) Try.func3 (by kernel_rfl)
    (of_decide_eq_true (by kernel_rfl)) (by unfold Func.isWrapper; first | (rw [if_pos (by decide +kernel)]; kernel_rfl) | (rw [if_neg (by decide +kernel)]; exact ⟨rfl, rfl⟩))
    (fun os started H enc _ => oddsLists_lifted os started H enc)
end Go.Proofs.Ytagodfaclohkmaa
