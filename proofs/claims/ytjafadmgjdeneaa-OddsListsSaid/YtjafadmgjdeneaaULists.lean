/-
  OddsLists: for every list of weights and every list of outcomes, the function returns true and leaves both lists as they are. Nothing is asked of the input.
-/
import Derived.Test.YtjafadmgjdeneaaZa
import Derived.Test.YtjafadmgjdeneaaVi
import Derived.WalkKit
import Derived.ProofKit
import Derived.OpenShut
import Derived.ChangeOld
import Derived.Below
namespace Go.Proofs.Ytjafadmgjdeneaa
open Go.ChangeShapes Go.WideShapes Go.ChangeAt Go.RowKit
set_option linter.unusedVariables false

theorem onlyL_length (xs os : List Int) : (onlyL xs os).length = xs.length := onlyTo_length _ _ _
theorem sGiven_length {xs os : List Int} (hl : xs.length ≤ 4096 ∨ chk1 xs ≠ 0) : (sGiven xs os).1.length ≤ 4096 := by
  unfold sGiven
  split
  · simp
  · rename_i h
    split
    · simp
    · have := (chk1_ok (chkS_ok (by simpa using h)).1).1
      simp only [onlyL_length]
      exact this

theorem equal_le (L : List Int) (hL : L.length ≤ 1000000) (pa : Option Addr) (ca : Nat) (pb : Option Addr) (cb : Nat) (w : World) (hRa : Reads w pa L) (hRb : Reads w pb L) :
    Calls Try.prog 24 #[.slice pa L.length ca, .slice pb L.length cb] w fun e w' => e = .returned (.bool true) ∧ Below w.heap.size w w' := by
  have h := equal_any pa L ca pb L cb w (by omega) (by omega) hRa hRb
  rwa [eqL_self] at h

set_option maxRecDepth 100000 in
set_option maxHeartbeats 8000000 in
theorem oddsLists_bad (p : Option Addr) (xs : List Int) (c : Nat) (po : Option Addr) (os : List Int) (co : Nat) (w : World) (h1 : longB xs.length = false) (h2 : ¬ 400 < os.length) (h0 : chk1 xs ≠ 0) (hC : Came w p xs c) (hCo : Came w po os co) :
    Calls Try.prog 3 #[.slice p xs.length c, .slice po os.length co] w fun e w' => e = .returned (.bool true) ∧ Below w.heap.size w w' := by
  have hln := longB_false h1
  have H1 := Lib.hid h1
  obtain ⟨G, K, hGl, hg, hrg⟩ : ∃ (G : List Int) (K : Int), G.length ≤ 4096 ∧
      (∀ p c po co w, Reads w p xs → Reads w po os → Calls Try.prog 22 #[.slice p xs.length c, .slice po os.length co] w fun e w' => (∃ p' c', e = .returned (.tuple #[.slice p' G.length c', .int .i64 K]) ∧ Reads w' p' G) ∧ Below w.heap.size w w') ∧
      (∀ p c po co w, Reads w p xs → Reads w po os → Calls Try.prog 26 #[.slice p xs.length c, .slice po os.length co] w fun e w' => (∃ p' c', e = .returned (.tuple #[.slice p' G.length c', .int .i64 K]) ∧ Reads w' p' G) ∧ Below w.heap.size w w') :=
    ⟨_, _, sGiven_length (Or.inr h0), fun p c po co w h h' => oGiven_any p xs c po os co w (by omega) (by omega) h h', fun p c po co w h h' => refGiven_any p xs c po os co w (by omega) (by omega) h h'⟩
  obtain ⟨C0, C1, J, ho, hro⟩ : ∃ (C0 C1 J : Int),
      (∀ p c po co w, Reads w p xs → Reads w po os → Calls Try.prog 21 #[.slice p xs.length c, .slice po os.length co] w fun e w' => e = .returned (.tuple #[.agg #[.int .i64 C0, .int .i64 C1], .int .i64 J]) ∧ Below w.heap.size w w') ∧
      (∀ p c po co w, Reads w p xs → Reads w po os → Calls Try.prog 25 #[.slice p xs.length c, .slice po os.length co] w fun e w' => e = .returned (.tuple #[.agg #[.int .i64 C0, .int .i64 C1], .int .i64 J]) ∧ Below w.heap.size w w') :=
    ⟨_, _, _, fun p c po co w h h' => of_any p xs c po os co w (by omega) (by omega) h h', fun p c po co w h h' => refOf_any p xs c po os co w (by omega) (by omega) h h'⟩
  obtain ⟨x, hx⟩ : ∃ x, chk1 xs = x := ⟨_, rfl⟩
  have ht := fun p c w (h : Reads w p xs) => oTotal_any p xs c w (by omega) h
  have hw := fun p c w (h : Reads w p xs) => oLowest_any p xs c w (by omega) h
  have hk := fun p c w (h : Reads w p xs) => oCheck_any p xs c w (by omega) h
  have hrk := fun p c w (h : Reads w p xs) => refCheck_any p xs c w (by omega) h
  have s1 : sTotal xs = (0, x) := by unfold sTotal; rw [if_neg h0, hx]
  have s2 : sLow xs = ([], x) := by unfold sLow; rw [if_neg h0, hx]
  rw [s1] at ht
  rw [s2] at hw
  rw [hx] at hk hrk h0
  have hb' : (x != 0) = true := by simpa using h0
  clear hx h1 s1 s2 h0
  go_enter Try.func3, Try.ntmps3
  go_wp2_with fail
  go_call (long_any p xs c w) as e w1 ⟨rfl, hB1⟩
  rw [H1.out]
  go_wp2_with fail
  go_call (own_any p xs c w1 (by omega) (hC.below hB1 (Nat.le_refl _))) as e w2 ⟨⟨p1, c1, rfl, hr2⟩, hb2⟩
  have hB2 := tr hB1 hb2
  clear hB1 hb2
  go_wp2_with fail
  go_call (hk p1 c1 _ hr2) as e w3 ⟨rfl, hb3⟩
  have hB3 := tr hB2 hb3
  have hr3 := hr2.below hb3 (Nat.le_refl _)
  clear hB2 hb3 hr2
  go_wp2_with fail
  go_call (ht p1 c1 _ hr3) as e w4 ⟨rfl, hb4⟩
  have hB4 := tr hB3 hb4
  have hr4 := hr3.below hb4 (Nat.le_refl _)
  clear hB3 hb4 hr3
  go_wp2_with fail
  go_call (hw p1 c1 _ hr4) as e w5 ⟨⟨pl, cl, rfl, hrl⟩, hb5⟩
  have hB5 := tr hB4 hb5
  have hr5 := hr4.below hb5 (Nat.le_refl _)
  clear hB4 hb5 hr4 hrl
  go_wp2_with fail
  go_call (own_any po os co w5 (by omega) (hCo.below hB5 (Nat.le_refl _))) as e w6 ⟨⟨pa, ca, rfl, hra⟩, hb6⟩
  have hB6 := tr hB5 hb6
  have hr6 := hr5.below hb6 (Nat.le_refl _)
  clear hB5 hb6 hr5
  go_wp2_with fail
  go_call (ho p1 c1 pa ca _ hr6 hra) as e w7 ⟨rfl, hb7⟩
  have hB7 := tr hB6 hb7
  have hr7 := hr6.below hb7 (Nat.le_refl _)
  clear hB6 hb7 hr6 hra
  go_wp2_with fail
  have hB8 := hB7.alloc hB7.size (.cells #[.int .i64 C0, .int .i64 C1] 33)
  have hr8 := hr7.below (below1 w7 (.cells #[.int .i64 C0, .int .i64 C1] 33)) (Nat.le_refl _)
  have k0 : (w7.alloc (.cells #[.int .i64 C0, .int .i64 C1] 33)).cell? ⟨w7.heap.size, 0, none⟩ = some (.int .i64 C0) := by go_simp
  have k1 : (w7.alloc (.cells #[.int .i64 C0, .int .i64 C1] 33)).cell? ⟨w7.heap.size, 1, none⟩ = some (.int .i64 C1) := by go_simp
  obtain ⟨g, hg'⟩ : ∃ g, w7.heap.size = g := ⟨_, rfl⟩
  obtain ⟨w8, hw8⟩ : ∃ w8, w7.alloc (.cells #[.int .i64 C0, .int .i64 C1] 33) = w8 := ⟨_, rfl⟩
  rw [hw8] at hB8 hr8 k0 k1 ⊢
  rw [hg'] at k0 k1 ⊢
  clear hw8 hg' hB7 hr7
  go_call (own_any po os co w8 (by omega) (hCo.below hB8 (Nat.le_refl _))) as e w9 ⟨⟨pb, cb, rfl, hrb⟩, hb9⟩
  have hB9 := tr hB8 hb9
  have hr9 := hr8.below hb9 (Nat.le_refl _)
  have k0 := cell_tr hb9 k0
  have k1 := cell_tr hb9 k1
  clear hB8 hb9 hr8
  go_wp2_with fail
  go_call (hg p1 c1 pb cb _ hr9 hrb) as e w10 ⟨⟨pg, cg, rfl, hrg10⟩, hb10⟩
  have hB10 := tr hB9 hb10
  have hr10 := hr9.below hb10 (Nat.le_refl _)
  have k0 := cell_tr hb10 k0
  have k1 := cell_tr hb10 k1
  clear hB9 hb10 hr9 hrb
  go_wp2_with fail
  go_call (hrk p c _ (hC.2.1.below hB10 (Nat.le_refl _))) as e w11 ⟨rfl, hb11⟩
  have hB11 := tr hB10 hb11
  have hr11 := hr10.below hb11 (Nat.le_refl _)
  have hrg11 := hrg10.below hb11 (Nat.le_refl _)
  have k0 := cell_tr hb11 k0
  have k1 := cell_tr hb11 k1
  clear hB10 hb11 hr10 hrg10
  go_wp2_with fail
  go_call (equal_le xs (by omega) p1 c1 p c _ hr11 (hC.2.1.below hB11 (Nat.le_refl _))) as e w12 ⟨rfl, hb12⟩
  have hB12 := tr hB11 hb12
  have hrg12 := hrg11.below hb12 (Nat.le_refl _)
  have k0 := cell_tr hb12 k0
  have k1 := cell_tr hb12 k1
  clear hB11 hb12 hr11 hrg11
  go_wp2_with fail
  go_call (hro p c po co _ (hC.2.1.below hB12 (Nat.le_refl _)) (hCo.2.1.below hB12 (Nat.le_refl _))) as e w13 ⟨rfl, hb13⟩
  have hB13 := tr hB12 hb13
  have hrg13 := hrg12.below hb13 (Nat.le_refl _)
  have k0 := cell_tr hb13 k0
  have k1 := cell_tr hb13 k1
  clear hB12 hb13 hrg12
  go_wp2_with fail
  have hB14 := hB13.alloc hB13.size (.cells #[.int .i64 C0, .int .i64 C1] 33)
  have hbn := below1 w13 (.cells #[.int .i64 C0, .int .i64 C1] 33)
  have hrg14 := hrg13.below hbn (Nat.le_refl _)
  have k0 := cell_tr hbn k0
  have k1 := cell_tr hbn k1
  have j0 : (w13.alloc (.cells #[.int .i64 C0, .int .i64 C1] 33)).cell? ⟨w13.heap.size, 0, none⟩ = some (.int .i64 C0) := by go_simp
  have j1 : (w13.alloc (.cells #[.int .i64 C0, .int .i64 C1] 33)).cell? ⟨w13.heap.size, 1, none⟩ = some (.int .i64 C1) := by go_simp
  obtain ⟨g2, hg'⟩ : ∃ g, w13.heap.size = g := ⟨_, rfl⟩
  obtain ⟨w14, hw8⟩ : ∃ w8, w13.alloc (.cells #[.int .i64 C0, .int .i64 C1] 33) = w8 := ⟨_, rfl⟩
  rw [hw8] at hB14 hrg14 k0 k1 j0 j1 ⊢
  rw [hg'] at j0 j1 ⊢
  clear hw8 hg' hB13 hrg13 hbn
  go_call (hrg p c po co _ (hC.2.1.below hB14 (Nat.le_refl _)) (hCo.2.1.below hB14 (Nat.le_refl _))) as e w15 ⟨⟨pq, cq, rfl, hrq⟩, hb15⟩
  have hB15 := tr hB14 hb15
  have hrg15 := hrg14.below hb15 (Nat.le_refl _)
  have k0 := cell_tr hb15 k0
  have k1 := cell_tr hb15 k1
  have j0 := cell_tr hb15 j0
  have j1 := cell_tr hb15 j1
  clear hB14 hb15 hrg14
  go_wp2_with fail
  go_call (equal_le G (by omega) pg cg pq cq _ hrg15 hrq) as e w16 ⟨rfl, hb16⟩
  have hB16 := tr hB15 hb16
  clear hB15 hb16 hrg15 hrq k0 k1 j0 j1
  go_wp2_with fail
  go_call (known_any _) as e w17 ⟨rfl, hb17⟩
  go_wp2
  go_returns
  exact ⟨rfl, tr hB16 hb17⟩
set_option maxRecDepth 100000 in
set_option maxHeartbeats 8000000 in
theorem oddsLists_ok (p : Option Addr) (xs : List Int) (c : Nat) (po : Option Addr) (os : List Int) (co : Nat) (w : World) (h1 : longB xs.length = false) (h2 : ¬ 400 < os.length) (h0 : chk1 xs = 0) (hC : Came w p xs c) (hCo : Came w po os co) :
    Calls Try.prog 3 #[.slice p xs.length c, .slice po os.length co] w fun e w' => e = .returned (.bool true) ∧ Below w.heap.size w w' := by
  have hln := longB_false h1
  have H1 := Lib.hid h1
  obtain ⟨G, K, hGl, hg, hrg⟩ : ∃ (G : List Int) (K : Int), G.length ≤ 4096 ∧
      (∀ p c po co w, Reads w p xs → Reads w po os → Calls Try.prog 22 #[.slice p xs.length c, .slice po os.length co] w fun e w' => (∃ p' c', e = .returned (.tuple #[.slice p' G.length c', .int .i64 K]) ∧ Reads w' p' G) ∧ Below w.heap.size w w') ∧
      (∀ p c po co w, Reads w p xs → Reads w po os → Calls Try.prog 26 #[.slice p xs.length c, .slice po os.length co] w fun e w' => (∃ p' c', e = .returned (.tuple #[.slice p' G.length c', .int .i64 K]) ∧ Reads w' p' G) ∧ Below w.heap.size w w') :=
    ⟨_, _, sGiven_length (Or.inl (chk1_ok h0).1), fun p c po co w h h' => oGiven_any p xs c po os co w (by omega) (by omega) h h', fun p c po co w h h' => refGiven_any p xs c po os co w (by omega) (by omega) h h'⟩
  obtain ⟨C0, C1, J, ho, hro⟩ : ∃ (C0 C1 J : Int),
      (∀ p c po co w, Reads w p xs → Reads w po os → Calls Try.prog 21 #[.slice p xs.length c, .slice po os.length co] w fun e w' => e = .returned (.tuple #[.agg #[.int .i64 C0, .int .i64 C1], .int .i64 J]) ∧ Below w.heap.size w w') ∧
      (∀ p c po co w, Reads w p xs → Reads w po os → Calls Try.prog 25 #[.slice p xs.length c, .slice po os.length co] w fun e w' => e = .returned (.tuple #[.agg #[.int .i64 C0, .int .i64 C1], .int .i64 J]) ∧ Below w.heap.size w w') :=
    ⟨_, _, _, fun p c po co w h h' => of_any p xs c po os co w (by omega) (by omega) h h', fun p c po co w h h' => refOf_any p xs c po os co w (by omega) (by omega) h h'⟩
  obtain ⟨a1, a2, a3, a4⟩ := chk1_ok h0
  obtain ⟨g1, g2, g3, g4⟩ := low_facts a2 a3
  have ht := fun p c w (h : Reads w p xs) => oTotal_any p xs c w (by omega) h
  have hw := fun p c w (h : Reads w p xs) => oLowest_any p xs c w (by omega) h
  have hk := fun p c w (h : Reads w p xs) => oCheck_any p xs c w (by omega) h
  have hrk := fun p c w (h : Reads w p xs) => refCheck_any p xs c w (by omega) h
  have s1 : sTotal xs = (lsum xs, 0) := by unfold sTotal; rw [if_pos h0]
  have s2 : sLow xs = (low xs, 0) := by unfold sLow; rw [if_pos h0]
  rw [s1] at ht
  rw [s2] at hw
  rw [h0] at hk hrk
  obtain ⟨L, hL⟩ : ∃ L, low xs = L := ⟨_, rfl⟩
  have hLl : L.length = xs.length := by rw [← hL, low_length]
  have hrl := fun p c w (h : Reads w p xs) => refLowest_any p xs c w a1 a2 g1 h
  rw [hL] at hw hrl
  clear h1 s1 s2 h0 hL g1 g2 g3 g4
  go_enter Try.func3, Try.ntmps3
  go_wp2_with fail
  go_call (long_any p xs c w) as e w1 ⟨rfl, hB1⟩
  rw [H1.out]
  go_wp2_with fail
  go_call (own_any p xs c w1 (by omega) (hC.below hB1 (Nat.le_refl _))) as e w2 ⟨⟨p1, c1, rfl, hr2⟩, hb2⟩
  have hB2 := tr hB1 hb2
  clear hB1 hb2
  go_wp2_with fail
  go_call (hk p1 c1 _ hr2) as e w3 ⟨rfl, hb3⟩
  have hB3 := tr hB2 hb3
  have hr3 := hr2.below hb3 (Nat.le_refl _)
  clear hB2 hb3 hr2
  go_wp2_with fail
  go_call (ht p1 c1 _ hr3) as e w4 ⟨rfl, hb4⟩
  have hB4 := tr hB3 hb4
  have hr4 := hr3.below hb4 (Nat.le_refl _)
  clear hB3 hb4 hr3
  go_wp2_with fail
  go_call (hw p1 c1 _ hr4) as e w5 ⟨⟨pl, cl, rfl, hl5⟩, hb5⟩
  have hB5 := tr hB4 hb5
  have hr5 := hr4.below hb5 (Nat.le_refl _)
  clear hB4 hb5 hr4
  go_wp2_with fail
  go_call (own_any po os co w5 (by omega) (hCo.below hB5 (Nat.le_refl _))) as e w6 ⟨⟨pa, ca, rfl, hra⟩, hb6⟩
  have hB6 := tr hB5 hb6
  have hr6 := hr5.below hb6 (Nat.le_refl _)
  have hl5 := hl5.below hb6 (Nat.le_refl _)
  clear hB5 hb6 hr5
  go_wp2_with fail
  go_call (ho p1 c1 pa ca _ hr6 hra) as e w7 ⟨rfl, hb7⟩
  have hB7 := tr hB6 hb7
  have hr7 := hr6.below hb7 (Nat.le_refl _)
  have hl5 := hl5.below hb7 (Nat.le_refl _)
  clear hB6 hb7 hr6 hra
  go_wp2_with fail
  have hB8 := hB7.alloc hB7.size (.cells #[.int .i64 C0, .int .i64 C1] 33)
  have hr8 := hr7.below (below1 w7 (.cells #[.int .i64 C0, .int .i64 C1] 33)) (Nat.le_refl _)
  have hl5 := hl5.below (below1 w7 (.cells #[.int .i64 C0, .int .i64 C1] 33)) (Nat.le_refl _)
  have k0 : (w7.alloc (.cells #[.int .i64 C0, .int .i64 C1] 33)).cell? ⟨w7.heap.size, 0, none⟩ = some (.int .i64 C0) := by go_simp
  have k1 : (w7.alloc (.cells #[.int .i64 C0, .int .i64 C1] 33)).cell? ⟨w7.heap.size, 1, none⟩ = some (.int .i64 C1) := by go_simp
  obtain ⟨g, hg'⟩ : ∃ g, w7.heap.size = g := ⟨_, rfl⟩
  obtain ⟨w8, hw8⟩ : ∃ w8, w7.alloc (.cells #[.int .i64 C0, .int .i64 C1] 33) = w8 := ⟨_, rfl⟩
  rw [hw8] at hB8 hr8 k0 k1 hl5 ⊢
  rw [hg'] at k0 k1 ⊢
  clear hw8 hg' hB7 hr7
  go_call (own_any po os co w8 (by omega) (hCo.below hB8 (Nat.le_refl _))) as e w9 ⟨⟨pb, cb, rfl, hrb⟩, hb9⟩
  have hl5 := hl5.below hb9 (Nat.le_refl _)
  have hB9 := tr hB8 hb9
  have hr9 := hr8.below hb9 (Nat.le_refl _)
  have k0 := cell_tr hb9 k0
  have k1 := cell_tr hb9 k1
  clear hB8 hb9 hr8
  go_wp2_with fail
  go_call (hg p1 c1 pb cb _ hr9 hrb) as e w10 ⟨⟨pg, cg, rfl, hrg10⟩, hb10⟩
  have hl5 := hl5.below hb10 (Nat.le_refl _)
  have hB10 := tr hB9 hb10
  have hr10 := hr9.below hb10 (Nat.le_refl _)
  have k0 := cell_tr hb10 k0
  have k1 := cell_tr hb10 k1
  clear hB9 hb10 hr9 hrb
  go_wp2_with fail
  go_call (hrk p c _ (hC.2.1.below hB10 (Nat.le_refl _))) as e w11 ⟨rfl, hb11⟩
  have hl5 := hl5.below hb11 (Nat.le_refl _)
  have hB11 := tr hB10 hb11
  have hr11 := hr10.below hb11 (Nat.le_refl _)
  have hrg11 := hrg10.below hb11 (Nat.le_refl _)
  have k0 := cell_tr hb11 k0
  have k1 := cell_tr hb11 k1
  clear hB10 hb11 hr10 hrg10
  go_wp2_with fail
  go_call (equal_le xs (by omega) p1 c1 p c _ hr11 (hC.2.1.below hB11 (Nat.le_refl _))) as e w12 ⟨rfl, hb12⟩
  have hl5 := hl5.below hb12 (Nat.le_refl _)
  have hB12 := tr hB11 hb12
  have hrg12 := hrg11.below hb12 (Nat.le_refl _)
  have k0 := cell_tr hb12 k0
  have k1 := cell_tr hb12 k1
  clear hB11 hb12 hr11 hrg11
  go_wp2_with fail
  go_call (hro p c po co _ (hC.2.1.below hB12 (Nat.le_refl _)) (hCo.2.1.below hB12 (Nat.le_refl _))) as e w13 ⟨rfl, hb13⟩
  have hl5 := hl5.below hb13 (Nat.le_refl _)
  have hB13 := tr hB12 hb13
  have hrg13 := hrg12.below hb13 (Nat.le_refl _)
  have k0 := cell_tr hb13 k0
  have k1 := cell_tr hb13 k1
  clear hB12 hb13 hrg12
  go_wp2_with fail
  have hB14 := hB13.alloc hB13.size (.cells #[.int .i64 C0, .int .i64 C1] 33)
  have hbn := below1 w13 (.cells #[.int .i64 C0, .int .i64 C1] 33)
  have hrg14 := hrg13.below hbn (Nat.le_refl _)
  have hl5 := hl5.below hbn (Nat.le_refl _)
  have k0 := cell_tr hbn k0
  have k1 := cell_tr hbn k1
  have j0 : (w13.alloc (.cells #[.int .i64 C0, .int .i64 C1] 33)).cell? ⟨w13.heap.size, 0, none⟩ = some (.int .i64 C0) := by go_simp
  have j1 : (w13.alloc (.cells #[.int .i64 C0, .int .i64 C1] 33)).cell? ⟨w13.heap.size, 1, none⟩ = some (.int .i64 C1) := by go_simp
  obtain ⟨g2, hg'⟩ : ∃ g, w13.heap.size = g := ⟨_, rfl⟩
  obtain ⟨w14, hw8⟩ : ∃ w8, w13.alloc (.cells #[.int .i64 C0, .int .i64 C1] 33) = w8 := ⟨_, rfl⟩
  rw [hw8] at hB14 hrg14 k0 k1 j0 j1 hl5 ⊢
  rw [hg'] at j0 j1 ⊢
  clear hw8 hg' hB13 hrg13 hbn
  go_call (hrg p c po co _ (hC.2.1.below hB14 (Nat.le_refl _)) (hCo.2.1.below hB14 (Nat.le_refl _))) as e w15 ⟨⟨pq, cq, rfl, hrq⟩, hb15⟩
  have hl5 := hl5.below hb15 (Nat.le_refl _)
  have hB15 := tr hB14 hb15
  have hrg15 := hrg14.below hb15 (Nat.le_refl _)
  have k0 := cell_tr hb15 k0
  have k1 := cell_tr hb15 k1
  have j0 := cell_tr hb15 j0
  have j1 := cell_tr hb15 j1
  clear hB14 hb15 hrg14
  go_wp2_with fail
  go_call (equal_le G (by omega) pg cg pq cq _ hrg15 hrq) as e w16 ⟨rfl, hb16⟩
  have hl5 := hl5.below hb16 (Nat.le_refl _)
  have hB16 := tr hB15 hb16
  clear hB15 hb16 hrg15 hrq k0 k1 j0 j1
  go_wp2_with fail
  go_call (refTotal_any p xs c _ a1 a2 (hC.2.1.below hB16 (Nat.le_refl _))) as e w17 ⟨rfl, hb17⟩
  have hl5 := hl5.below hb17 (Nat.le_refl _)
  have hB17 := tr hB16 hb17
  clear hB16 hb17
  go_wp2_with fail
  go_call (hrl p c _ (hC.2.1.below hB17 (Nat.le_refl _))) as e w18 ⟨⟨px, cx, rfl, hl18⟩, hb18⟩
  have hl5 := hl5.below hb18 (Nat.le_refl _)
  have hB18 := tr hB17 hb18
  clear hB17 hb18
  go_wp2_with fail
  go_call (equal_le L (by omega) pl cl px cx _ hl5 hl18) as e w19 ⟨rfl, hb19⟩
  have hB19 := tr hB18 hb19
  clear hB18 hb19 hl5 hl18
  go_wp2_with fail
  go_call (known_any _) as e w20 ⟨rfl, hb20⟩
  go_wp2
  go_returns
  exact ⟨rfl, tr hB19 hb20⟩

set_option maxRecDepth 100000 in
set_option maxHeartbeats 8000000 in
theorem oddsLists_walk (p : Option Addr) (xs : List Int) (c : Nat) (po : Option Addr) (os : List Int) (co : Nat) (w : World) (hC : Came w p xs c) (hCo : Came w po os co) :
    Calls Try.prog 3 #[.slice p xs.length c, .slice po os.length co] w fun e w' => e = .returned (.bool true) ∧ Below w.heap.size w w' := by
  by_cases h1 : longB xs.length = true
  · have H1 := Lib.hid h1
    clear h1
    go_enter Try.func3, Try.ntmps3
    go_wp2_with fail
    go_call (long_any p xs c w) as e w1 ⟨rfl, hb1⟩
    rw [H1.out]
    go_wp2_with fail
    go_call (known_any _) as e w2 ⟨rfl, hb2⟩
    go_wp2
    go_returns
    exact ⟨rfl, tr hb1 hb2⟩
  · have h1' : longB xs.length = false := by simpa using h1
    by_cases h2 : 400 < os.length
    · have H1 := Lib.hid h1'
      clear h1 h1'
      go_enter Try.func3, Try.ntmps3
      go_wp2_with fail
      go_call (long_any p xs c w) as e w1 ⟨rfl, hb1⟩
      rw [H1.out]
      go_wp2_with fail
      go_call (known_any _) as e w2 ⟨rfl, hb2⟩
      go_wp2
      go_returns
      exact ⟨rfl, tr hb1 hb2⟩
    · by_cases h0 : chk1 xs = 0
      · exact oddsLists_ok p xs c po os co w h1' h2 h0 hC hCo
      · exact oddsLists_bad p xs c po os co w h1' h2 h0 hC hCo

theorem oddsLists_own : ownKnob Try.prog.godebug = none := by kernel_rfl
theorem oddsLists_laidOut : laidOutB Try.prog = true := by kernel_rfl

set_option maxRecDepth 100000 in
theorem oddsLists_lifted (os : Os) (started : os.Started) (H : Type) (enc : TypeId × Value → H) :
    ReturnsInHanded {} Try.checked os 3 .any (Rows.oddsListsSpec.pre6 enc Try.prog Try.f3 Rows.oddsListsRow.domain false) (Rows.oddsListsSpec.post enc Try.prog Try.f3 false true false false) := by
  refine returnsInHanded_of_change (C := Try.checked) oddsLists_own started (by kernel_rfl) Try.func3
    (ChangeSpec.witness6 (enc := enc) (C := Try.checked) false ⟨#[], #[.slice none 0 0, .slice none 0 0], []⟩ 8 (by kernel_rfl) (by kernel_rfl) (by kernel_rfl) (by kernel_rfl)) ?_
  intro W base args ds gs before hval0 hW hcnd _
  have hval : ∀ (j : Nat) t v, Try.f3.params[j]? = some t → args[j]? = some v → Value.okWide Try.prog W .any base t v := hval0
  have hW' := hW
  obtain ⟨p, q, hA0, hV, rfl, hfz, hnd⟩ := hW
  have hA : DataW.TrodAll enc Try.prog W 0 (fun _ => true) true Try.f3.params.toList args.toList ds p := hA0
  rw [Try.params3] at hA hval
  obtain ⟨v0, v1, d0, d1, p0, p1, rfl, rfl, rfl, h0, h1⟩ := trodAll_two hA
  obtain ⟨rfl, rfl⟩ := trodVars_none hV
  have lt0 : ∀ x ∈ p0, x.block < W.heap.size := by obtain ⟨m, hm⟩ := h0; exact DataW.trod_lt m _ _ _ hm
  have lt1 : ∀ x ∈ p1, x.block < W.heap.size := by obtain ⟨m, hm⟩ := h1; exact DataW.trod_lt m _ _ _ hm
  obtain ⟨a0, xs0, c0, rfl, hC0, _⟩ := came_open (hval 0 22 v0 rfl rfl) h0
  obtain ⟨a1, xs1, c1, rfl, hC1, _⟩ := came_open (hval 1 22 v1 rfl rfl) h1
  clear hA0 hval0
  refine (oddsLists_walk a0 xs0 c0 a1 xs1 c1 W hC0 hC1).mono fun e W' ⟨he, bel⟩ => ?_
  subst he
  exact ⟨_, rfl, _, _, _, [], _, [], hW', trodAll_mk1 (shut_bool Try.underlying4 _), (trodAll_cons_mk (Below.trod oddsLists_laidOut (by kernel_rfl) (of_decide_eq_true (by kernel_rfl)) h0 bel lt0) (trodAll_cons_mk (Below.trod oddsLists_laidOut (by kernel_rfl) (of_decide_eq_true (by kernel_rfl)) h1 bel lt1) trodAll_mk0)), rfl, bel.frame _, fun h => by cases h⟩

theorem oddsLists_holds : Rows.OddsListsSaid :=
  OpenClaim.holds_of_wide 3 Try.f3 rfl rfl rfl rfl rfl rfl rfl ⟨rfl, rfl, rfl, rfl, rfl⟩ rfl rfl rfl rfl rfl (by kernel_rfl) Try.func3 (by kernel_rfl)
    (of_decide_eq_true (by kernel_rfl)) (by unfold Func.isWrapper; first | (rw [if_pos (by decide +kernel)]; kernel_rfl) | (rw [if_neg (by decide +kernel)]; exact ⟨rfl, rfl⟩))
    (fun os started H enc _ => oddsLists_lifted os started H enc)
end Go.Proofs.Ytjafadmgjdeneaa
