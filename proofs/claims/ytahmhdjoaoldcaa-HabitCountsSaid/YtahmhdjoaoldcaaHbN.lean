/-
  HabitCounts: the law's walk.
-/
import Derived.Test.YtahmhdjoaoldcaaHbL
namespace Go.Proofs.Ytahmhdjoaoldcaa
open Go Go.RowKit
set_option linter.unusedVariables false
set_option linter.unusedSimpArgs false

set_option maxRecDepth 100000 in
set_option maxHeartbeats 8000000 in
theorem counts_long (p : Option Addr) (n c : Nat) (h : 410 < n) (N a : Int) (w : World) :
    Calls Try.prog 3 #[.slice p n c, .int .i64 N, .int .i64 a] w fun e w' => e = .returned (.bool true) ∧ Below w.heap.size w w' := by
  have h' : (410 : Int) < (n : Int) := by omega
  go_enter Try.func3, Try.ntmps3
  go_wp2_with fail
  refine (known_any _).mono ?_
  rintro e w1 ⟨rfl, hb⟩
  go_wp2
  go_ret
  exact ⟨rfl, hb⟩
set_option maxRecDepth 100000 in
set_option maxHeartbeats 8000000 in
theorem counts_sN (p : Option Addr) (xs : List Int) (n c : Nat) (hx : Hid (xs.length = n)) (hn : n ≤ 400) (hnc : n ≤ c) (N : Int) (HN : Hid (outB 1 32 N = true)) (a : Int) (w : World) (hC : Came w p xs c) :
    Calls Try.prog 3 #[.slice p n c, .int .i64 N, .int .i64 a] w fun e w' => e = .returned (.bool true) ∧ Below w.heap.size w w' := by
  have hn4 : (n : Int) ≤ 400 := by omega
  have hn41 : (n : Int) ≤ 410 := by omega
  have hn1 : n ≤ 1000 := by omega
  have hR := hC.2.1
  go_enter Try.func3, Try.ntmps3
  go_wp2_with fail
  have HI := ints_any p xs c w hC (by rw [hx.out]; omega)
  rw [hx.out] at HI
  refine HI.mono ?_
  rintro e w1 ⟨⟨q, c', rfl, hRq, hqc, hqc2⟩, hb1⟩
  clear HI
  have hR1 := hR.below hb1 (Nat.le_refl _)
  have hB1 := hb1
  clear hb1 hR
  go_wp2_with fail
  refine (tally_range q n c' N HN _).mono ?_
  rintro e w2 ⟨rfl, hb2⟩
  have hRq2 := hRq.below hb2 (Nat.le_refl _)
  have hR2 := hR1.below hb2 (Nat.le_refl _)
  have hB2 := tr hB1 hb2
  clear hb2 hB1 hRq hR1
  go_wp2_with fail
  refine (need_range q n c' N a (.inl HN.out) _).mono ?_
  rintro e w3 ⟨rfl, hb3⟩
  have hRq3 := hRq2.below hb3 (Nat.le_refl _)
  have hR3 := hR2.below hb3 (Nat.le_refl _)
  have hB3 := tr hB2 hb3
  clear hb3 hB2 hRq2 hR2
  go_wp2_with fail
  refine (longest_any q xs n c' hx hn _ hRq3).mono ?_
  rintro e w4 ⟨rfl, rfl⟩
  obtain ⟨S, hS⟩ : ∃ S : Nat, (bestTo xs n n).1 = S := ⟨_, rfl⟩
  obtain ⟨M, hM⟩ : ∃ M : Nat, (bestTo xs n n).2 = M := ⟨_, rfl⟩
  obtain ⟨R, hRr⟩ : ∃ R : Nat, runsTo xs n = R := ⟨_, rfl⟩
  rw [hS, hM, hRr]
  have HS := Lib.hid hS
  have HM := Lib.hid hM
  have HRr := Lib.hid hRr
  clear hS hM hRr
  go_wp2_with fail
  refine (same9_refl q xs n c' p c _ hx (by omega) hRq3 hR3).mono ?_
  rintro e w5 ⟨rfl, hb5⟩
  have hR5 := hR3.below hb5 (Nat.le_refl _)
  have hB5 := tr hB3 hb5
  clear hb5 hB3 hRq3 hR3
  go_wp2_with fail
  refine (refLongest_any p xs n c hx hn _ hR5).mono ?_
  rintro e w6 ⟨rfl, hb6⟩
  have hR6 := hR5.below hb6 (Nat.le_refl _)
  have hB6 := tr hB5 hb6
  clear hb6 hB5 hR5
  rw [HS.out, HM.out, HRr.out]
  have hNo := HN.out
  simp [outB] at hNo
  by_cases hN0 : N < 1
  · clear hNo
    go_wp2_with fail
    refine (known_any _).mono ?_
    rintro e w9 ⟨rfl, hb9⟩
    have hB9 := tr hB6 hb9
    go_wp2
    go_ret
    exact ⟨rfl, hB9⟩
  · have hN32 : 32 < N := by omega
    have hN01 : 1 ≤ N := by omega
    clear hNo hN0
    go_wp2_with fail
    refine (known_any _).mono ?_
    rintro e w9 ⟨rfl, hb9⟩
    have hB9 := tr hB6 hb9
    go_wp2
    go_ret
    exact ⟨rfl, hB9⟩
set_option maxRecDepth 100000 in
set_option maxHeartbeats 8000000 in
theorem counts_lN (p : Option Addr) (xs : List Int) (n c : Nat) (hx : Hid (xs.length = n)) (hn : 400 < n ∧ n ≤ 410) (hnc : n ≤ c) (N : Int) (HN : Hid (outB 1 32 N = true)) (a : Int) (w : World) (hC : Came w p xs c) :
    Calls Try.prog 3 #[.slice p n c, .int .i64 N, .int .i64 a] w fun e w' => e = .returned (.bool true) ∧ Below w.heap.size w w' := by
  obtain ⟨hn0, hn9⟩ := hn
  have hn4 : (400 : Int) < (n : Int) := by omega
  have hn41 : (n : Int) ≤ 410 := by omega
  have hn1 : n ≤ 1000 := by omega
  have hR := hC.2.1
  go_enter Try.func3, Try.ntmps3
  go_wp2_with fail
  have HI := ints_any p xs c w hC (by rw [hx.out]; omega)
  rw [hx.out] at HI
  refine HI.mono ?_
  rintro e w1 ⟨⟨q, c', rfl, hRq, hqc, hqc2⟩, hb1⟩
  clear HI
  have hR1 := hR.below hb1 (Nat.le_refl _)
  have hB1 := hb1
  clear hb1 hR
  go_wp2_with fail
  refine (tally_range q n c' N HN _).mono ?_
  rintro e w2 ⟨rfl, hb2⟩
  have hRq2 := hRq.below hb2 (Nat.le_refl _)
  have hR2 := hR1.below hb2 (Nat.le_refl _)
  have hB2 := tr hB1 hb2
  clear hb2 hB1 hRq hR1
  go_wp2_with fail
  refine (need_range q n c' N a (.inl HN.out) _).mono ?_
  rintro e w3 ⟨rfl, hb3⟩
  have hRq3 := hRq2.below hb3 (Nat.le_refl _)
  have hR3 := hR2.below hb3 (Nat.le_refl _)
  have hB3 := tr hB2 hb3
  clear hb3 hB2 hRq2 hR2
  go_wp2_with fail
  refine (longest_long q n c' hn1 hn0 _).mono ?_
  rintro e w4 ⟨rfl, rfl⟩
  go_wp2_with fail
  refine (same9_refl q xs n c' p c _ hx (by omega) hRq3 hR3).mono ?_
  rintro e w5 ⟨rfl, hb5⟩
  have hR5 := hR3.below hb5 (Nat.le_refl _)
  have hB5 := tr hB3 hb5
  clear hb5 hB3 hRq3 hR3
  have hNo := HN.out
  simp [outB] at hNo
  by_cases hN0 : N < 1
  · clear hNo
    go_wp2_with fail
    refine (known_any _).mono ?_
    rintro e w9 ⟨rfl, hb9⟩
    have hB9 := tr hB5 hb9
    go_wp2
    go_ret
    exact ⟨rfl, hB9⟩
  · have hN32 : 32 < N := by omega
    have hN01 : 1 ≤ N := by omega
    clear hNo hN0
    go_wp2_with fail
    refine (known_any _).mono ?_
    rintro e w9 ⟨rfl, hb9⟩
    have hB9 := tr hB5 hb9
    go_wp2
    go_ret
    exact ⟨rfl, hB9⟩
set_option maxRecDepth 100000 in
set_option maxHeartbeats 8000000 in
theorem counts_sae (p : Option Addr) (xs : List Int) (n c : Nat) (hx : Hid (xs.length = n)) (hn : n ≤ 400) (hnc : n ≤ c) (N : Nat) (hN1 : 1 ≤ N) (hN2 : N ≤ 32) (a : Int) (HA : Hid (outB 1 400 a = true)) (E : Int) (hE : Hid (regE xs N = E)) (hE0 : E ≠ 0) (w : World) (hC : Came w p xs c) :
    Calls Try.prog 3 #[.slice p n c, .int .i64 (N : Int), .int .i64 a] w fun e w' => e = .returned (.bool true) ∧ Below w.heap.size w w' := by
  have hn4 : (n : Int) ≤ 400 := by omega
  have hn41 : (n : Int) ≤ 410 := by omega
  have hn1 : n ≤ 1000 := by omega
  have hNa : (1 : Int) ≤ (N : Int) := by omega
  have hNb : (N : Int) ≤ 32 := by omega
  have hR := hC.2.1
  go_enter Try.func3, Try.ntmps3
  go_wp2_with fail
  have HI := ints_any p xs c w hC (by rw [hx.out]; omega)
  rw [hx.out] at HI
  refine HI.mono ?_
  rintro e w1 ⟨⟨q, c', rfl, hRq, hqc, hqc2⟩, hb1⟩
  clear HI
  have hR1 := hR.below hb1 (Nat.le_refl _)
  have hB1 := hb1
  clear hb1 hR
  go_wp2_with fail
  refine (tally_bad q xs n c' hx hn1 N hN1 hN2 E hE hE0 _ hRq).mono ?_
  rintro e w2 ⟨rfl, hb2⟩
  have hRq2 := hRq.below hb2 (Nat.le_refl _)
  have hR2 := hR1.below hb2 (Nat.le_refl _)
  have hB2 := tr hB1 hb2
  clear hb2 hB1 hRq hR1
  go_wp2_with fail
  refine (need_range q n c' (N : Int) a (.inr HA.out) _).mono ?_
  rintro e w3 ⟨rfl, hb3⟩
  have hRq3 := hRq2.below hb3 (Nat.le_refl _)
  have hR3 := hR2.below hb3 (Nat.le_refl _)
  have hB3 := tr hB2 hb3
  clear hb3 hB2 hRq2 hR2
  go_wp2_with fail
  refine (longest_any q xs n c' hx hn _ hRq3).mono ?_
  rintro e w4 ⟨rfl, rfl⟩
  obtain ⟨S, hS⟩ : ∃ S : Nat, (bestTo xs n n).1 = S := ⟨_, rfl⟩
  obtain ⟨M, hM⟩ : ∃ M : Nat, (bestTo xs n n).2 = M := ⟨_, rfl⟩
  obtain ⟨R, hRr⟩ : ∃ R : Nat, runsTo xs n = R := ⟨_, rfl⟩
  rw [hS, hM, hRr]
  have HS := Lib.hid hS
  have HM := Lib.hid hM
  have HRr := Lib.hid hRr
  clear hS hM hRr
  go_wp2_with fail
  refine (same9_refl q xs n c' p c _ hx (by omega) hRq3 hR3).mono ?_
  rintro e w5 ⟨rfl, hb5⟩
  have hR5 := hR3.below hb5 (Nat.le_refl _)
  have hB5 := tr hB3 hb5
  clear hb5 hB3 hRq3 hR3
  go_wp2_with fail
  refine (refLongest_any p xs n c hx hn _ hR5).mono ?_
  rintro e w6 ⟨rfl, hb6⟩
  have hR6 := hR5.below hb6 (Nat.le_refl _)
  have hB6 := tr hB5 hb6
  clear hb6 hB5 hR5
  rw [HS.out, HM.out, HRr.out]
  go_wp2_with fail
  refine (refNumbers_any p xs n c hx (by omega) N ⟨by omega, by omega⟩ _ hR6).mono ?_
  rintro e w7 ⟨rfl, rfl⟩
  rw [hE.out]
  have hq : (E == 0) = false := by simp [hE0]
  have hq2 : (E != 0) = true := by simp [hE0]
  clear hE0
  have hao := HA.out
  simp [outB] at hao
  by_cases ha0 : a < 1
  · clear hao
    go_wp2_with fail
    refine (known_any _).mono ?_
    rintro e w9 ⟨rfl, hb9⟩
    have hB9 := tr hB6 hb9
    go_wp2
    go_ret
    exact ⟨rfl, hB9⟩
  · have ha4 : 400 < a := by omega
    have ha01 : 1 ≤ a := by omega
    clear hao ha0
    go_wp2_with fail
    refine (known_any _).mono ?_
    rintro e w9 ⟨rfl, hb9⟩
    have hB9 := tr hB6 hb9
    go_wp2
    go_ret
    exact ⟨rfl, hB9⟩
set_option maxRecDepth 100000 in
set_option maxHeartbeats 8000000 in
theorem counts_sa0 (p : Option Addr) (xs : List Int) (n c : Nat) (hx : Hid (xs.length = n)) (hn : n ≤ 400) (hnc : n ≤ c) (N : Nat) (hN1 : 1 ≤ N) (hN2 : N ≤ 32) (a : Int) (HA : Hid (outB 1 400 a = true)) (hE : Hid (regE xs N = 0)) (w : World) (hC : Came w p xs c) :
    Calls Try.prog 3 #[.slice p n c, .int .i64 (N : Int), .int .i64 a] w fun e w' => e = .returned (.bool true) ∧ Below w.heap.size w w' := by
  have hn4 : (n : Int) ≤ 400 := by omega
  have hn41 : (n : Int) ≤ 410 := by omega
  have hn1 : n ≤ 1000 := by omega
  have hNa : (1 : Int) ≤ (N : Int) := by omega
  have hNb : (N : Int) ≤ 32 := by omega
  have hR := hC.2.1
  go_enter Try.func3, Try.ntmps3
  go_wp2_with fail
  have HI := ints_any p xs c w hC (by rw [hx.out]; omega)
  rw [hx.out] at HI
  refine HI.mono ?_
  rintro e w1 ⟨⟨q, c', rfl, hRq, hqc, hqc2⟩, hb1⟩
  clear HI
  have hR1 := hR.below hb1 (Nat.le_refl _)
  have hB1 := hb1
  clear hb1 hR
  go_wp2_with fail
  refine (tally_ok q xs n c' hx hn1 N hN1 hN2 hE _ hRq).mono ?_
  rintro e w2 ⟨⟨pc, cc, pp, cp, rfl, hrc, hrp⟩, hb2⟩
  have hRq2 := hRq.below hb2 (Nat.le_refl _)
  have hR2 := hR1.below hb2 (Nat.le_refl _)
  have hB2 := tr hB1 hb2
  clear hb2 hB1 hRq hR1
  go_wp2_with fail
  refine (need_range q n c' (N : Int) a (.inr HA.out) _).mono ?_
  rintro e w3 ⟨rfl, hb3⟩
  have hRq3 := hRq2.below hb3 (Nat.le_refl _)
  have hR3 := hR2.below hb3 (Nat.le_refl _)
  have hB3 := tr hB2 hb3
  have hrc3 := hrc.below hb3 (Nat.le_refl _)
  have hrp3 := hrp.below hb3 (Nat.le_refl _)
  clear hrc hrp
  clear hb3 hB2 hRq2 hR2
  go_wp2_with fail
  refine (longest_any q xs n c' hx hn _ hRq3).mono ?_
  rintro e w4 ⟨rfl, rfl⟩
  obtain ⟨S, hS⟩ : ∃ S : Nat, (bestTo xs n n).1 = S := ⟨_, rfl⟩
  obtain ⟨M, hM⟩ : ∃ M : Nat, (bestTo xs n n).2 = M := ⟨_, rfl⟩
  obtain ⟨R, hRr⟩ : ∃ R : Nat, runsTo xs n = R := ⟨_, rfl⟩
  rw [hS, hM, hRr]
  have HS := Lib.hid hS
  have HM := Lib.hid hM
  have HRr := Lib.hid hRr
  clear hS hM hRr
  go_wp2_with fail
  refine (same9_refl q xs n c' p c _ hx (by omega) hRq3 hR3).mono ?_
  rintro e w5 ⟨rfl, hb5⟩
  have hR5 := hR3.below hb5 (Nat.le_refl _)
  have hB5 := tr hB3 hb5
  have hrc5 := hrc3.below hb5 (Nat.le_refl _)
  have hrp5 := hrp3.below hb5 (Nat.le_refl _)
  clear hrc3 hrp3
  clear hb5 hB3 hRq3 hR3
  go_wp2_with fail
  refine (refLongest_any p xs n c hx hn _ hR5).mono ?_
  rintro e w6 ⟨rfl, hb6⟩
  have hR6 := hR5.below hb6 (Nat.le_refl _)
  have hB6 := tr hB5 hb6
  have hrc6 := hrc5.below hb6 (Nat.le_refl _)
  have hrp6 := hrp5.below hb6 (Nat.le_refl _)
  clear hb6 hB5 hR5 hrc5 hrp5
  rw [HS.out, HM.out, HRr.out]
  go_wp2_with fail
  refine (refNumbers_any p xs n c hx (by omega) N ⟨by omega, by omega⟩ _ hR6).mono ?_
  rintro e w7 ⟨rfl, rfl⟩
  rw [hE.out]
  have hao := HA.out
  simp [outB] at hao
  by_cases ha0 : a < 1
  · clear hao
    go_wp2_with fail
    refine (refTally_any p xs n c hx hn1 N hN2 (Lib.hid (inReg_of hE.out).1) _ hR6).mono ?_
    rintro e w12 ⟨⟨g1, g5, rfl, hrow1, hrow5⟩, hb12⟩
    have hB12 := tr hB6 hb12
    have hrc12 := hrc6.below hb12 (Nat.le_refl _)
    have hrp12 := hrp6.below hb12 (Nat.le_refl _)
    have hr1 := hrow1.reads
    have hr5 := hrow5.reads
    have hcl := cntTo_len xs N n
    have hpl := pairTo_len xs N n
    have hNN : N * N ≤ 1024 := Nat.le_trans (Nat.mul_le_mul hN2 hN2) (by decide)
    go_wp2_with fail
    refine (same9_refl pc (cntTo xs N n) N cc _ N _ (Lib.hid hcl) (by omega) hrc12 hr1).mono ?_
    rintro e w13 ⟨rfl, hb13⟩
    have hB13 := tr hB12 hb13
    have hrp13 := hrp12.below hb13 (Nat.le_refl _)
    have hr513 := hr5.below hb13 (Nat.le_refl _)
    go_wp2_with fail
    refine (same9_refl pp (pairTo xs N n) (N * N) cp _ (N * N) _ (Lib.hid hpl) (by omega) hrp13 hr513).mono ?_
    rintro e w14 ⟨rfl, hb14⟩
    have hB14 := tr hB13 hb14
    clear hb12 hb13 hb14 hB12 hB13 hrow1 hrow5 hr1 hr5 hcl hpl hrp13 hr513 hrc12 hrp12
    go_wp2_with fail
    refine (known_any _).mono ?_
    rintro e w9 ⟨rfl, hb9⟩
    have hB9 := tr hB14 hb9
    go_wp2
    go_ret
    exact ⟨rfl, hB9⟩
  · have ha4 : 400 < a := by omega
    have ha01 : 1 ≤ a := by omega
    clear hao ha0
    go_wp2_with fail
    refine (refTally_any p xs n c hx hn1 N hN2 (Lib.hid (inReg_of hE.out).1) _ hR6).mono ?_
    rintro e w12 ⟨⟨g1, g5, rfl, hrow1, hrow5⟩, hb12⟩
    have hB12 := tr hB6 hb12
    have hrc12 := hrc6.below hb12 (Nat.le_refl _)
    have hrp12 := hrp6.below hb12 (Nat.le_refl _)
    have hr1 := hrow1.reads
    have hr5 := hrow5.reads
    have hcl := cntTo_len xs N n
    have hpl := pairTo_len xs N n
    have hNN : N * N ≤ 1024 := Nat.le_trans (Nat.mul_le_mul hN2 hN2) (by decide)
    go_wp2_with fail
    refine (same9_refl pc (cntTo xs N n) N cc _ N _ (Lib.hid hcl) (by omega) hrc12 hr1).mono ?_
    rintro e w13 ⟨rfl, hb13⟩
    have hB13 := tr hB12 hb13
    have hrp13 := hrp12.below hb13 (Nat.le_refl _)
    have hr513 := hr5.below hb13 (Nat.le_refl _)
    go_wp2_with fail
    refine (same9_refl pp (pairTo xs N n) (N * N) cp _ (N * N) _ (Lib.hid hpl) (by omega) hrp13 hr513).mono ?_
    rintro e w14 ⟨rfl, hb14⟩
    have hB14 := tr hB13 hb14
    clear hb12 hb13 hb14 hB12 hB13 hrow1 hrow5 hr1 hr5 hcl hpl hrp13 hr513 hrc12 hrp12
    go_wp2_with fail
    refine (known_any _).mono ?_
    rintro e w9 ⟨rfl, hb9⟩
    have hB9 := tr hB14 hb9
    go_wp2
    go_ret
    exact ⟨rfl, hB9⟩
set_option maxRecDepth 100000 in
set_option maxHeartbeats 8000000 in
theorem counts_sve (p : Option Addr) (xs : List Int) (n c : Nat) (hx : Hid (xs.length = n)) (hn : n ≤ 400) (hnc : n ≤ c) (N : Nat) (hN1 : 1 ≤ N) (hN2 : N ≤ 32) (a : Nat) (ha1 : 1 ≤ a) (ha2 : a ≤ 400) (E : Int) (hE : Hid (regE xs N = E)) (hE0 : E ≠ 0) (w : World) (hC : Came w p xs c) :
    Calls Try.prog 3 #[.slice p n c, .int .i64 (N : Int), .int .i64 (a : Int)] w fun e w' => e = .returned (.bool true) ∧ Below w.heap.size w w' := by
  have hn4 : (n : Int) ≤ 400 := by omega
  have hn41 : (n : Int) ≤ 410 := by omega
  have hn1 : n ≤ 1000 := by omega
  have hNa : (1 : Int) ≤ (N : Int) := by omega
  have hNb : (N : Int) ≤ 32 := by omega
  have haa : (1 : Int) ≤ (a : Int) := by omega
  have hab : (a : Int) ≤ 400 := by omega
  have hR := hC.2.1
  go_enter Try.func3, Try.ntmps3
  go_wp2_with fail
  have HI := ints_any p xs c w hC (by rw [hx.out]; omega)
  rw [hx.out] at HI
  refine HI.mono ?_
  rintro e w1 ⟨⟨q, c', rfl, hRq, hqc, hqc2⟩, hb1⟩
  clear HI
  have hR1 := hR.below hb1 (Nat.le_refl _)
  have hB1 := hb1
  clear hb1 hR
  go_wp2_with fail
  refine (tally_bad q xs n c' hx hn1 N hN1 hN2 E hE hE0 _ hRq).mono ?_
  rintro e w2 ⟨rfl, hb2⟩
  have hRq2 := hRq.below hb2 (Nat.le_refl _)
  have hR2 := hR1.below hb2 (Nat.le_refl _)
  have hB2 := tr hB1 hb2
  clear hb2 hB1 hRq hR1
  go_wp2_with fail
  have hqp : ∃ q0 o0, q = some ⟨q0, o0, none⟩ ∨ n = 0 := by
    by_cases h0 : n = 0
    · exact ⟨0, 0, .inr h0⟩
    · obtain ⟨q0, o0, h1, _⟩ := hRq2 0 (by rw [hx.out]; omega)
      exact ⟨q0, o0, .inl h1⟩
  obtain ⟨q0, o0, hqp⟩ := hqp
  refine (need_bad3_any q q0 o0 xs n c' hx hn1 hqc hqp N a hN1 hN2 ha1 ha2 E hE hE0 _ hRq2).mono ?_
  rintro e w3 ⟨rfl, hb3⟩
  have hRq3 := hRq2.below hb3 (Nat.le_refl _)
  have hR3 := hR2.below hb3 (Nat.le_refl _)
  have hB3 := tr hB2 hb3
  clear hb3 hB2 hRq2 hR2
  go_wp2_with fail
  refine (longest_any q xs n c' hx hn _ hRq3).mono ?_
  rintro e w4 ⟨rfl, rfl⟩
  obtain ⟨S, hS⟩ : ∃ S : Nat, (bestTo xs n n).1 = S := ⟨_, rfl⟩
  obtain ⟨M, hM⟩ : ∃ M : Nat, (bestTo xs n n).2 = M := ⟨_, rfl⟩
  obtain ⟨R, hRr⟩ : ∃ R : Nat, runsTo xs n = R := ⟨_, rfl⟩
  rw [hS, hM, hRr]
  have HS := Lib.hid hS
  have HM := Lib.hid hM
  have HRr := Lib.hid hRr
  clear hS hM hRr
  go_wp2_with fail
  refine (same9_refl q xs n c' p c _ hx (by omega) hRq3 hR3).mono ?_
  rintro e w5 ⟨rfl, hb5⟩
  have hR5 := hR3.below hb5 (Nat.le_refl _)
  have hB5 := tr hB3 hb5
  clear hb5 hB3 hRq3 hR3
  go_wp2_with fail
  refine (refLongest_any p xs n c hx hn _ hR5).mono ?_
  rintro e w6 ⟨rfl, hb6⟩
  have hR6 := hR5.below hb6 (Nat.le_refl _)
  have hB6 := tr hB5 hb6
  clear hb6 hB5 hR5
  rw [HS.out, HM.out, HRr.out]
  go_wp2_with fail
  refine (refNumbers_any p xs n c hx (by omega) N ⟨by omega, by omega⟩ _ hR6).mono ?_
  rintro e w7 ⟨rfl, rfl⟩
  rw [hE.out]
  have hq : (E == 0) = false := by simp [hE0]
  have hq2 : (E != 0) = true := by simp [hE0]
  clear hE0
  go_wp2_with fail
  refine (known_any _).mono ?_
  rintro e w9 ⟨rfl, hb9⟩
  have hB9 := tr hB6 hb9
  go_wp2
  go_ret
  exact ⟨rfl, hB9⟩
set_option maxRecDepth 100000 in
set_option maxHeartbeats 8000000 in
theorem counts_sv0 (p : Option Addr) (xs : List Int) (n c : Nat) (hx : Hid (xs.length = n)) (hn : n ≤ 400) (hnc : n ≤ c) (N : Nat) (hN1 : 1 ≤ N) (hN2 : N ≤ 32) (a : Nat) (ha1 : 1 ≤ a) (ha2 : a ≤ 400) (hE : Hid (regE xs N = 0)) (w : World) (hC : Came w p xs c) :
    Calls Try.prog 3 #[.slice p n c, .int .i64 (N : Int), .int .i64 (a : Int)] w fun e w' => e = .returned (.bool true) ∧ Below w.heap.size w w' := by
  have hn4 : (n : Int) ≤ 400 := by omega
  have hn41 : (n : Int) ≤ 410 := by omega
  have hn1 : n ≤ 1000 := by omega
  have hNa : (1 : Int) ≤ (N : Int) := by omega
  have hNb : (N : Int) ≤ 32 := by omega
  have haa : (1 : Int) ≤ (a : Int) := by omega
  have hab : (a : Int) ≤ 400 := by omega
  have hR := hC.2.1
  go_enter Try.func3, Try.ntmps3
  go_wp2_with fail
  have HI := ints_any p xs c w hC (by rw [hx.out]; omega)
  rw [hx.out] at HI
  refine HI.mono ?_
  rintro e w1 ⟨⟨q, c', rfl, hRq, hqc, hqc2⟩, hb1⟩
  clear HI
  have hR1 := hR.below hb1 (Nat.le_refl _)
  have hB1 := hb1
  clear hb1 hR
  go_wp2_with fail
  refine (tally_ok q xs n c' hx hn1 N hN1 hN2 hE _ hRq).mono ?_
  rintro e w2 ⟨⟨pc, cc, pp, cp, rfl, hrc, hrp⟩, hb2⟩
  have hRq2 := hRq.below hb2 (Nat.le_refl _)
  have hR2 := hR1.below hb2 (Nat.le_refl _)
  have hB2 := tr hB1 hb2
  clear hb2 hB1 hRq hR1
  go_wp2_with fail
  have hqp : ∃ q0 o0, q = some ⟨q0, o0, none⟩ ∨ n = 0 := by
    by_cases h0 : n = 0
    · exact ⟨0, 0, .inr h0⟩
    · obtain ⟨q0, o0, h1, _⟩ := hRq2 0 (by rw [hx.out]; omega)
      exact ⟨q0, o0, .inl h1⟩
  obtain ⟨q0, o0, hqp⟩ := hqp
  refine (need_ok_any q q0 o0 xs n c' hx hn1 hqc hqp N a hN1 hN2 ha1 ha2 hE _ hRq2).mono ?_
  rintro e w3 ⟨⟨pn, cn, rfl, hrn⟩, hb3⟩
  have hRq3 := hRq2.below hb3 (Nat.le_refl _)
  have hR3 := hR2.below hb3 (Nat.le_refl _)
  have hB3 := tr hB2 hb3
  have hrc3 := hrc.below hb3 (Nat.le_refl _)
  have hrp3 := hrp.below hb3 (Nat.le_refl _)
  clear hrc hrp
  have hrn3 := hrn
  clear hrn
  clear hb3 hB2 hRq2 hR2
  go_wp2_with fail
  refine (longest_any q xs n c' hx hn _ hRq3).mono ?_
  rintro e w4 ⟨rfl, rfl⟩
  obtain ⟨S, hS⟩ : ∃ S : Nat, (bestTo xs n n).1 = S := ⟨_, rfl⟩
  obtain ⟨M, hM⟩ : ∃ M : Nat, (bestTo xs n n).2 = M := ⟨_, rfl⟩
  obtain ⟨R, hRr⟩ : ∃ R : Nat, runsTo xs n = R := ⟨_, rfl⟩
  rw [hS, hM, hRr]
  have HS := Lib.hid hS
  have HM := Lib.hid hM
  have HRr := Lib.hid hRr
  clear hS hM hRr
  go_wp2_with fail
  refine (same9_refl q xs n c' p c _ hx (by omega) hRq3 hR3).mono ?_
  rintro e w5 ⟨rfl, hb5⟩
  have hR5 := hR3.below hb5 (Nat.le_refl _)
  have hB5 := tr hB3 hb5
  have hrc5 := hrc3.below hb5 (Nat.le_refl _)
  have hrp5 := hrp3.below hb5 (Nat.le_refl _)
  have hrn5 := hrn3.below hb5 (Nat.le_refl _)
  clear hrc3 hrp3 hrn3
  clear hb5 hB3 hRq3 hR3
  go_wp2_with fail
  refine (refLongest_any p xs n c hx hn _ hR5).mono ?_
  rintro e w6 ⟨rfl, hb6⟩
  have hR6 := hR5.below hb6 (Nat.le_refl _)
  have hB6 := tr hB5 hb6
  have hrc6 := hrc5.below hb6 (Nat.le_refl _)
  have hrp6 := hrp5.below hb6 (Nat.le_refl _)
  have hrn6 := hrn5.below hb6 (Nat.le_refl _)
  clear hb6 hB5 hR5 hrc5 hrp5 hrn5
  rw [HS.out, HM.out, HRr.out]
  go_wp2_with fail
  refine (refNumbers_any p xs n c hx (by omega) N ⟨by omega, by omega⟩ _ hR6).mono ?_
  rintro e w7 ⟨rfl, rfl⟩
  rw [hE.out]
  go_wp2_with fail
  refine (refNeed_any p xs n c hx hn1 hnc N a hN2 ha1 ha2 (Lib.hid (inReg_of hE.out).1) _ hR6).mono ?_
  rintro e w10 ⟨⟨pm, cm, rfl, hrm⟩, hb10⟩
  have hR10 := hR6.below hb10 (Nat.le_refl _)
  have hB10 := tr hB6 hb10
  have hrc10 := hrc6.below hb10 (Nat.le_refl _)
  have hrp10 := hrp6.below hb10 (Nat.le_refl _)
  have hrn10 := hrn6.below hb10 (Nat.le_refl _)
  clear hb10 hB6 hR6 hrc6 hrp6 hrn6
  have hnl := needTo_len xs N a (manyP n a)
  go_wp2_with fail
  refine (same9_refl pn (needTo xs N a (manyP n a)) N cn pm cm _ (Lib.hid hnl) (by omega) hrn10 hrm).mono ?_
  rintro e w11 ⟨rfl, hb11⟩
  have hR11 := hR10.below hb11 (Nat.le_refl _)
  have hB11 := tr hB10 hb11
  have hrc11 := hrc10.below hb11 (Nat.le_refl _)
  have hrp11 := hrp10.below hb11 (Nat.le_refl _)
  clear hb11 hB10 hR10 hrc10 hrp10 hrn10 hrm hnl
  go_wp2_with fail
  refine (refTally_any p xs n c hx hn1 N hN2 (Lib.hid (inReg_of hE.out).1) _ hR11).mono ?_
  rintro e w12 ⟨⟨g1, g5, rfl, hrow1, hrow5⟩, hb12⟩
  have hB12 := tr hB11 hb12
  have hrc12 := hrc11.below hb12 (Nat.le_refl _)
  have hrp12 := hrp11.below hb12 (Nat.le_refl _)
  have hr1 := hrow1.reads
  have hr5 := hrow5.reads
  have hcl := cntTo_len xs N n
  have hpl := pairTo_len xs N n
  have hNN : N * N ≤ 1024 := Nat.le_trans (Nat.mul_le_mul hN2 hN2) (by decide)
  go_wp2_with fail
  refine (same9_refl pc (cntTo xs N n) N cc _ N _ (Lib.hid hcl) (by omega) hrc12 hr1).mono ?_
  rintro e w13 ⟨rfl, hb13⟩
  have hB13 := tr hB12 hb13
  have hrp13 := hrp12.below hb13 (Nat.le_refl _)
  have hr513 := hr5.below hb13 (Nat.le_refl _)
  go_wp2_with fail
  refine (same9_refl pp (pairTo xs N n) (N * N) cp _ (N * N) _ (Lib.hid hpl) (by omega) hrp13 hr513).mono ?_
  rintro e w14 ⟨rfl, hb14⟩
  have hB14 := tr hB13 hb14
  clear hb12 hb13 hb14 hB12 hB13 hrow1 hrow5 hr1 hr5 hcl hpl hrp13 hr513 hrc12 hrp12
  go_wp2_with fail
  refine (known_any _).mono ?_
  rintro e w9 ⟨rfl, hb9⟩
  have hB9 := tr hB14 hb9
  go_wp2
  go_ret
  exact ⟨rfl, hB9⟩
set_option maxRecDepth 100000 in
set_option maxHeartbeats 8000000 in
theorem counts_lae (p : Option Addr) (xs : List Int) (n c : Nat) (hx : Hid (xs.length = n)) (hn : 400 < n ∧ n ≤ 410) (hnc : n ≤ c) (N : Nat) (hN1 : 1 ≤ N) (hN2 : N ≤ 32) (a : Int) (HA : Hid (outB 1 400 a = true)) (E : Int) (hE : Hid (regE xs N = E)) (hE0 : E ≠ 0) (w : World) (hC : Came w p xs c) :
    Calls Try.prog 3 #[.slice p n c, .int .i64 (N : Int), .int .i64 a] w fun e w' => e = .returned (.bool true) ∧ Below w.heap.size w w' := by
  obtain ⟨hn0, hn9⟩ := hn
  have hn4 : (400 : Int) < (n : Int) := by omega
  have hn41 : (n : Int) ≤ 410 := by omega
  have hn1 : n ≤ 1000 := by omega
  have hNa : (1 : Int) ≤ (N : Int) := by omega
  have hNb : (N : Int) ≤ 32 := by omega
  have hR := hC.2.1
  go_enter Try.func3, Try.ntmps3
  go_wp2_with fail
  have HI := ints_any p xs c w hC (by rw [hx.out]; omega)
  rw [hx.out] at HI
  refine HI.mono ?_
  rintro e w1 ⟨⟨q, c', rfl, hRq, hqc, hqc2⟩, hb1⟩
  clear HI
  have hR1 := hR.below hb1 (Nat.le_refl _)
  have hB1 := hb1
  clear hb1 hR
  go_wp2_with fail
  refine (tally_bad q xs n c' hx hn1 N hN1 hN2 E hE hE0 _ hRq).mono ?_
  rintro e w2 ⟨rfl, hb2⟩
  have hRq2 := hRq.below hb2 (Nat.le_refl _)
  have hR2 := hR1.below hb2 (Nat.le_refl _)
  have hB2 := tr hB1 hb2
  clear hb2 hB1 hRq hR1
  go_wp2_with fail
  refine (need_range q n c' (N : Int) a (.inr HA.out) _).mono ?_
  rintro e w3 ⟨rfl, hb3⟩
  have hRq3 := hRq2.below hb3 (Nat.le_refl _)
  have hR3 := hR2.below hb3 (Nat.le_refl _)
  have hB3 := tr hB2 hb3
  clear hb3 hB2 hRq2 hR2
  go_wp2_with fail
  refine (longest_long q n c' hn1 hn0 _).mono ?_
  rintro e w4 ⟨rfl, rfl⟩
  go_wp2_with fail
  refine (same9_refl q xs n c' p c _ hx (by omega) hRq3 hR3).mono ?_
  rintro e w5 ⟨rfl, hb5⟩
  have hR5 := hR3.below hb5 (Nat.le_refl _)
  have hB5 := tr hB3 hb5
  clear hb5 hB3 hRq3 hR3
  go_wp2_with fail
  refine (refNumbers_any p xs n c hx (by omega) N ⟨by omega, by omega⟩ _ hR5).mono ?_
  rintro e w7 ⟨rfl, rfl⟩
  rw [hE.out]
  have hq : (E == 0) = false := by simp [hE0]
  have hq2 : (E != 0) = true := by simp [hE0]
  clear hE0
  have hao := HA.out
  simp [outB] at hao
  by_cases ha0 : a < 1
  · clear hao
    go_wp2_with fail
    refine (known_any _).mono ?_
    rintro e w9 ⟨rfl, hb9⟩
    have hB9 := tr hB5 hb9
    go_wp2
    go_ret
    exact ⟨rfl, hB9⟩
  · have ha4 : 400 < a := by omega
    have ha01 : 1 ≤ a := by omega
    clear hao ha0
    go_wp2_with fail
    refine (known_any _).mono ?_
    rintro e w9 ⟨rfl, hb9⟩
    have hB9 := tr hB5 hb9
    go_wp2
    go_ret
    exact ⟨rfl, hB9⟩
set_option maxRecDepth 100000 in
set_option maxHeartbeats 8000000 in
theorem counts_lve (p : Option Addr) (xs : List Int) (n c : Nat) (hx : Hid (xs.length = n)) (hn : 400 < n ∧ n ≤ 410) (hnc : n ≤ c) (N : Nat) (hN1 : 1 ≤ N) (hN2 : N ≤ 32) (a : Nat) (ha1 : 1 ≤ a) (ha2 : a ≤ 400) (E : Int) (hE : Hid (regE xs N = E)) (hE0 : E ≠ 0) (w : World) (hC : Came w p xs c) :
    Calls Try.prog 3 #[.slice p n c, .int .i64 (N : Int), .int .i64 (a : Int)] w fun e w' => e = .returned (.bool true) ∧ Below w.heap.size w w' := by
  obtain ⟨hn0, hn9⟩ := hn
  have hn4 : (400 : Int) < (n : Int) := by omega
  have hn41 : (n : Int) ≤ 410 := by omega
  have hn1 : n ≤ 1000 := by omega
  have hNa : (1 : Int) ≤ (N : Int) := by omega
  have hNb : (N : Int) ≤ 32 := by omega
  have haa : (1 : Int) ≤ (a : Int) := by omega
  have hab : (a : Int) ≤ 400 := by omega
  have hR := hC.2.1
  go_enter Try.func3, Try.ntmps3
  go_wp2_with fail
  have HI := ints_any p xs c w hC (by rw [hx.out]; omega)
  rw [hx.out] at HI
  refine HI.mono ?_
  rintro e w1 ⟨⟨q, c', rfl, hRq, hqc, hqc2⟩, hb1⟩
  clear HI
  have hR1 := hR.below hb1 (Nat.le_refl _)
  have hB1 := hb1
  clear hb1 hR
  go_wp2_with fail
  refine (tally_bad q xs n c' hx hn1 N hN1 hN2 E hE hE0 _ hRq).mono ?_
  rintro e w2 ⟨rfl, hb2⟩
  have hRq2 := hRq.below hb2 (Nat.le_refl _)
  have hR2 := hR1.below hb2 (Nat.le_refl _)
  have hB2 := tr hB1 hb2
  clear hb2 hB1 hRq hR1
  go_wp2_with fail
  have hqp : ∃ q0 o0, q = some ⟨q0, o0, none⟩ ∨ n = 0 := by
    by_cases h0 : n = 0
    · exact ⟨0, 0, .inr h0⟩
    · obtain ⟨q0, o0, h1, _⟩ := hRq2 0 (by rw [hx.out]; omega)
      exact ⟨q0, o0, .inl h1⟩
  obtain ⟨q0, o0, hqp⟩ := hqp
  refine (need_bad3_any q q0 o0 xs n c' hx hn1 hqc hqp N a hN1 hN2 ha1 ha2 E hE hE0 _ hRq2).mono ?_
  rintro e w3 ⟨rfl, hb3⟩
  have hRq3 := hRq2.below hb3 (Nat.le_refl _)
  have hR3 := hR2.below hb3 (Nat.le_refl _)
  have hB3 := tr hB2 hb3
  clear hb3 hB2 hRq2 hR2
  go_wp2_with fail
  refine (longest_long q n c' hn1 hn0 _).mono ?_
  rintro e w4 ⟨rfl, rfl⟩
  go_wp2_with fail
  refine (same9_refl q xs n c' p c _ hx (by omega) hRq3 hR3).mono ?_
  rintro e w5 ⟨rfl, hb5⟩
  have hR5 := hR3.below hb5 (Nat.le_refl _)
  have hB5 := tr hB3 hb5
  clear hb5 hB3 hRq3 hR3
  go_wp2_with fail
  refine (refNumbers_any p xs n c hx (by omega) N ⟨by omega, by omega⟩ _ hR5).mono ?_
  rintro e w7 ⟨rfl, rfl⟩
  rw [hE.out]
  have hq : (E == 0) = false := by simp [hE0]
  have hq2 : (E != 0) = true := by simp [hE0]
  clear hE0
  go_wp2_with fail
  refine (known_any _).mono ?_
  rintro e w9 ⟨rfl, hb9⟩
  have hB9 := tr hB5 hb9
  go_wp2
  go_ret
  exact ⟨rfl, hB9⟩
end Go.Proofs.Ytahmhdjoaoldcaa
