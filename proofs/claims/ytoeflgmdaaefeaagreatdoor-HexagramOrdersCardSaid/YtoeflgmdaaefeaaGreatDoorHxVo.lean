/-
  HexagramOrders: the walk of the law.
-/
import Derived.Test.YtoeflgmdaaefeaaGreatDoorHxVr
import Derived.Test.YtoeflgmdaaefeaaGreatDoorHxCi
import Derived.Test.YtoeflgmdaaefeaaGreatDoorHxW
namespace Go.Proofs.YtoeflgmdaaefeaaGreatDoor
open Go Go.RowKit
set_option linter.unusedVariables false

theorem same_self (p : Option Addr) (xs : List Int) (n c : Nat) (q : Option Addr) (d : Nat) (w : World) (hx : Hid (xs.length = n)) (hl : n ≤ 1000000) (hX : Reads w p xs) (hY : Reads w q xs) :
    Calls Tryz.prog 10 #[.slice p n c, .slice q n d] w fun e w' => e = .returned (.bool true) ∧ Below w.heap.size w w' :=
  (same_any p xs n c q xs n d w hx hx hl hX hY).mono fun e w' ⟨he, r, hw⟩ => ⟨by rw [he, decide_eq_true rfl], hw ▸ below_drewN (Below.refl _ _) r⟩

set_option maxRecDepth 100000 in
set_option maxHeartbeats 1000000 in
theorem orders_many (p : Option Addr) (n c : Nat) (r : Int) (w : World) (h70 : 70 < n) (hs : Src w) (hf : Fst w) :
    Calls Tryz.prog 3 #[.slice p n c, .int .i64 r] w fun e w' => e = .returned (.bool true) ∧ Below w.heap.size w w' := by
  have h70i : (70 : Int) < (n : Int) := by omega
  go_enter Tryz.func3, Tryz.ntmps3
  go_wp2_with fail
  refine (known_any _ hs hf).mono ?_
  rintro e w1 ⟨rfl, hb⟩
  go_wp2
  go_ret
  exact ⟨rfl, hb⟩

set_option maxRecDepth 100000 in
set_option maxHeartbeats 2000000 in
theorem orders_bad (p : Option Addr) (xs : List Int) (n c : Nat) (r : Int) (w : World) (hn : Hid (xs.length = n)) (h70 : n ≤ 70) (hC : Hid (Came w p xs c)) (ho : Hid (ordB xs = false)) (hs : Src w) (hf : Fst w) :
    Calls Tryz.prog 3 #[.slice p n c, .int .i64 r] w fun e w' => e = .returned (.bool true) ∧ Below w.heap.size w w' := by
  have h70i : (n : Int) ≤ 70 := by omega
  have I := fun (V : World) (hV : Came V p xs c) => ints_any p xs c V hV (by have := hn.out; omega)
  rw [hn.out] at I
  go_enter Tryz.func3, Tryz.ntmps3
  go_wp2_with fail
  refine (I _ hC.out).mono ?_
  rintro e w1 ⟨⟨q1, c1, rfl, hr1, hc1, hc1'⟩, hb1⟩
  clear I
  go_wp2_with fail
  refine (broken_bad q1 xs n c1 r _ hn (by omega) ho hr1).mono ?_
  rintro e w2 ⟨rfl, hb2⟩
  have hr2 := hr1.below hb2 (Nat.le_refl _)
  have hb3 := tr hb1 hb2
  clear hr1 hb1 hb2
  go_wp2_with fail
  refine (same_self q1 xs n c1 p c _ hn (by omega) hr2 (hC.out.below hb3 (Nat.le_refl _)).2.1).mono ?_
  rintro e w4 ⟨rfl, hb4⟩
  have hb5 := tr hb3 hb4
  clear hr2 hb3 hb4
  go_wp2_with fail
  refine (refOrder_any p xs n c _ hn (by omega) (hC.out.below hb5 (Nat.le_refl _)).2.1).mono ?_
  rintro e w5 ⟨rfl, rfl⟩
  rw [ho.out]
  go_wp2_with fail
  refine (known_any _ (hs.below hb5 (Nat.le_refl _)) (hf.below hb5 (Nat.le_refl _))).mono ?_
  rintro e w9 ⟨rfl, hb9⟩
  go_wp2
  go_ret
  exact ⟨rfl, tr hb5 hb9⟩

set_option maxRecDepth 100000 in
set_option maxHeartbeats 2000000 in
theorem orders_low (p : Option Addr) (xs : List Int) (n c : Nat) (r : Int) (w : World) (hn : Hid (xs.length = n)) (h70 : n ≤ 70) (hC : Hid (Came w p xs c)) (ho : Hid (ordB xs = true)) (h1 : r < 1) (hs : Src w) (hf : Fst w) :
    Calls Tryz.prog 3 #[.slice p n c, .int .i64 r] w fun e w' => e = .returned (.bool true) ∧ Below w.heap.size w w' := by
  have h70i : (n : Int) ≤ 70 := by omega
  have I := fun (V : World) (hV : Came V p xs c) => ints_any p xs c V hV (by have := hn.out; omega)
  rw [hn.out] at I
  have n1 : ¬ r = 1 := by omega
  have n2 : ¬ r = 2 := by omega
  have n3 : ¬ r = 3 := by omega
  go_enter Tryz.func3, Tryz.ntmps3
  go_wp2_with fail
  refine (I _ hC.out).mono ?_
  rintro e w1 ⟨⟨q1, c1, rfl, hr1, hc1, hc1'⟩, hb1⟩
  clear I
  go_wp2_with fail
  refine (broken_none q1 xs n c1 r n1 n2 n3 _ hn (by omega) ho hr1).mono ?_
  rintro e w2 ⟨rfl, hb2⟩
  have hr2 := hr1.below hb2 (Nat.le_refl _)
  have hb3 := tr hb1 hb2
  clear hr1 hb1 hb2
  go_wp2_with fail
  refine (same_self q1 xs n c1 p c _ hn (by omega) hr2 (hC.out.below hb3 (Nat.le_refl _)).2.1).mono ?_
  rintro e w4 ⟨rfl, hb4⟩
  have hb5 := tr hb3 hb4
  clear hr2 hb3 hb4
  go_wp2_with fail
  refine (refOrder_any p xs n c _ hn (by omega) (hC.out.below hb5 (Nat.le_refl _)).2.1).mono ?_
  rintro e w5 ⟨rfl, rfl⟩
  rw [ho.out]
  go_wp2_with fail
  refine (known_any _ (hs.below hb5 (Nat.le_refl _)) (hf.below hb5 (Nat.le_refl _))).mono ?_
  rintro e w9 ⟨rfl, hb9⟩
  go_wp2
  go_ret
  exact ⟨rfl, tr hb5 hb9⟩

set_option maxRecDepth 100000 in
set_option maxHeartbeats 2000000 in
theorem orders_high (p : Option Addr) (xs : List Int) (n c : Nat) (r : Int) (w : World) (hn : Hid (xs.length = n)) (h70 : n ≤ 70) (hC : Hid (Came w p xs c)) (ho : Hid (ordB xs = true)) (h1 : 1 ≤ r) (h3 : 3 < r) (hs : Src w) (hf : Fst w) :
    Calls Tryz.prog 3 #[.slice p n c, .int .i64 r] w fun e w' => e = .returned (.bool true) ∧ Below w.heap.size w w' := by
  have h70i : (n : Int) ≤ 70 := by omega
  have I := fun (V : World) (hV : Came V p xs c) => ints_any p xs c V hV (by have := hn.out; omega)
  rw [hn.out] at I
  have n1 : ¬ r = 1 := by omega
  have n2 : ¬ r = 2 := by omega
  have n3 : ¬ r = 3 := by omega
  go_enter Tryz.func3, Tryz.ntmps3
  go_wp2_with fail
  refine (I _ hC.out).mono ?_
  rintro e w1 ⟨⟨q1, c1, rfl, hr1, hc1, hc1'⟩, hb1⟩
  clear I
  go_wp2_with fail
  refine (broken_none q1 xs n c1 r n1 n2 n3 _ hn (by omega) ho hr1).mono ?_
  rintro e w2 ⟨rfl, hb2⟩
  have hr2 := hr1.below hb2 (Nat.le_refl _)
  have hb3 := tr hb1 hb2
  clear hr1 hb1 hb2
  go_wp2_with fail
  refine (same_self q1 xs n c1 p c _ hn (by omega) hr2 (hC.out.below hb3 (Nat.le_refl _)).2.1).mono ?_
  rintro e w4 ⟨rfl, hb4⟩
  have hb5 := tr hb3 hb4
  clear hr2 hb3 hb4
  go_wp2_with fail
  refine (refOrder_any p xs n c _ hn (by omega) (hC.out.below hb5 (Nat.le_refl _)).2.1).mono ?_
  rintro e w5 ⟨rfl, rfl⟩
  rw [ho.out]
  go_wp2_with fail
  refine (known_any _ (hs.below hb5 (Nat.le_refl _)) (hf.below hb5 (Nat.le_refl _))).mono ?_
  rintro e w9 ⟨rfl, hb9⟩
  go_wp2
  go_ret
  exact ⟨rfl, tr hb5 hb9⟩

set_option maxRecDepth 100000 in
set_option maxHeartbeats 2000000 in
theorem orders_1 (p : Option Addr) (xs : List Int) (c : Nat) (w : World) (hC : Hid (Came w p xs c)) (ho : Hid (ordB xs = true)) (hs : Src w) (hf : Fst w) :
    Calls Tryz.prog 3 #[.slice p 64 c, .int .i64 1] w fun e w' => e = .returned (.bool true) ∧ Below w.heap.size w w' := by
  have hn := Lib.hid (ord_hex ho.out).1
  have I := fun (V : World) (hV : Came V p xs c) => ints_any p xs c V hV (by have := hn.out; omega)
  rw [hn.out] at I
  obtain ⟨K, hK⟩ : ∃ K, brkTo (keep1 xs) 64 = K := ⟨_, rfl⟩
  have BB := fun (V : World) (q : Option Addr) (d : Nat) (h : Reads V q xs) (h1 : Src V) => broken_1 q xs d V ho h h1
  have RB := fun (V : World) (h : Reads V p xs) => refBroken_1 p xs c V ho h
  rw [hK] at BB RB
  clear hK
  go_enter Tryz.func3, Tryz.ntmps3
  go_wp2_with fail
  refine (I _ hC.out).mono ?_
  rintro e w1 ⟨⟨q1, c1, rfl, hr1, hc1, hc1'⟩, hb1⟩
  clear I
  go_wp2_with fail
  refine (BB _ q1 c1 hr1 (hs.below hb1 (Nat.le_refl _))).mono ?_
  rintro e w2 ⟨rfl, hb2⟩
  have hr2 := hr1.below hb2 (Nat.le_refl _)
  have hb3 := tr hb1 hb2
  clear hr1 hb1 hb2
  go_wp2_with fail
  refine (same_self q1 xs 64 c1 p c _ hn (by omega) hr2 (hC.out.below hb3 (Nat.le_refl _)).2.1).mono ?_
  rintro e w4 ⟨rfl, hb4⟩
  have hb5 := tr hb3 hb4
  clear hr2 hb3 hb4
  go_wp2_with fail
  refine (refOrder_any p xs 64 c _ hn (by omega) (hC.out.below hb5 (Nat.le_refl _)).2.1).mono ?_
  rintro e w5 ⟨rfl, rfl⟩
  rw [ho.out]
  go_wp2_with fail
  refine (RB _ (hC.out.below hb5 (Nat.le_refl _)).2.1).mono ?_
  rintro e w6 ⟨rfl, hb6⟩
  have hb7 := tr hb5 hb6
  clear RB BB
  go_wp2_with fail
  refine (known_any _ (hs.below hb7 (Nat.le_refl _)) (hf.below hb7 (Nat.le_refl _))).mono ?_
  rintro e w9 ⟨rfl, hb9⟩
  go_wp2
  go_ret
  exact ⟨rfl, tr hb7 hb9⟩

set_option maxRecDepth 100000 in
set_option maxHeartbeats 2000000 in
theorem orders_2 (p : Option Addr) (xs : List Int) (c : Nat) (w : World) (hC : Hid (Came w p xs c)) (ho : Hid (ordB xs = true)) (hs : Src w) (hf : Fst w) :
    Calls Tryz.prog 3 #[.slice p 64 c, .int .i64 2] w fun e w' => e = .returned (.bool true) ∧ Below w.heap.size w w' := by
  have hn := Lib.hid (ord_hex ho.out).1
  have I := fun (V : World) (hV : Came V p xs c) => ints_any p xs c V hV (by have := hn.out; omega)
  rw [hn.out] at I
  obtain ⟨K, hK⟩ : ∃ K, brkTo (keep2 xs) 64 = K := ⟨_, rfl⟩
  have BB := fun (V : World) (q : Option Addr) (d : Nat) (h : Reads V q xs) (h1 : Src V) => broken_2 q xs d V ho h h1
  have RB := fun (V : World) (h : Reads V p xs) => refBroken_2 p xs c V ho h
  rw [hK] at BB RB
  clear hK
  go_enter Tryz.func3, Tryz.ntmps3
  go_wp2_with fail
  refine (I _ hC.out).mono ?_
  rintro e w1 ⟨⟨q1, c1, rfl, hr1, hc1, hc1'⟩, hb1⟩
  clear I
  go_wp2_with fail
  refine (BB _ q1 c1 hr1 (hs.below hb1 (Nat.le_refl _))).mono ?_
  rintro e w2 ⟨rfl, hb2⟩
  have hr2 := hr1.below hb2 (Nat.le_refl _)
  have hb3 := tr hb1 hb2
  clear hr1 hb1 hb2
  go_wp2_with fail
  refine (same_self q1 xs 64 c1 p c _ hn (by omega) hr2 (hC.out.below hb3 (Nat.le_refl _)).2.1).mono ?_
  rintro e w4 ⟨rfl, hb4⟩
  have hb5 := tr hb3 hb4
  clear hr2 hb3 hb4
  go_wp2_with fail
  refine (refOrder_any p xs 64 c _ hn (by omega) (hC.out.below hb5 (Nat.le_refl _)).2.1).mono ?_
  rintro e w5 ⟨rfl, rfl⟩
  rw [ho.out]
  go_wp2_with fail
  refine (RB _ (hC.out.below hb5 (Nat.le_refl _)).2.1).mono ?_
  rintro e w6 ⟨rfl, hb6⟩
  have hb7 := tr hb5 hb6
  clear RB BB
  go_wp2_with fail
  refine (known_any _ (hs.below hb7 (Nat.le_refl _)) (hf.below hb7 (Nat.le_refl _))).mono ?_
  rintro e w9 ⟨rfl, hb9⟩
  go_wp2
  go_ret
  exact ⟨rfl, tr hb7 hb9⟩

set_option maxRecDepth 100000 in
set_option maxHeartbeats 2000000 in
theorem orders_3 (p : Option Addr) (xs : List Int) (c : Nat) (w : World) (hC : Hid (Came w p xs c)) (ho : Hid (ordB xs = true)) (hs : Src w) (hf : Fst w) (ht : Trn w) :
    Calls Tryz.prog 3 #[.slice p 64 c, .int .i64 3] w fun e w' => e = .returned (.bool true) ∧ Below w.heap.size w w' := by
  have hn := Lib.hid (ord_hex ho.out).1
  have I := fun (V : World) (hV : Came V p xs c) => ints_any p xs c V hV (by have := hn.out; omega)
  rw [hn.out] at I
  obtain ⟨K, hK⟩ : ∃ K, brkTo (keep3 xs) 64 = K := ⟨_, rfl⟩
  have BB := fun (V : World) (q : Option Addr) (d : Nat) (h : Reads V q xs) (h1 : Src V) (h2 : Trn V) => broken_3 q xs d V ho h h1 h2
  have RB := fun (V : World) (h : Reads V p xs) => refBroken_3 p xs c V ho h
  rw [hK] at BB RB
  clear hK
  go_enter Tryz.func3, Tryz.ntmps3
  go_wp2_with fail
  refine (I _ hC.out).mono ?_
  rintro e w1 ⟨⟨q1, c1, rfl, hr1, hc1, hc1'⟩, hb1⟩
  clear I
  go_wp2_with fail
  refine (BB _ q1 c1 hr1 (hs.below hb1 (Nat.le_refl _)) (ht.below hb1 (Nat.le_refl _))).mono ?_
  rintro e w2 ⟨rfl, hb2⟩
  have hr2 := hr1.below hb2 (Nat.le_refl _)
  have hb3 := tr hb1 hb2
  clear hr1 hb1 hb2
  go_wp2_with fail
  refine (same_self q1 xs 64 c1 p c _ hn (by omega) hr2 (hC.out.below hb3 (Nat.le_refl _)).2.1).mono ?_
  rintro e w4 ⟨rfl, hb4⟩
  have hb5 := tr hb3 hb4
  clear hr2 hb3 hb4
  go_wp2_with fail
  refine (refOrder_any p xs 64 c _ hn (by omega) (hC.out.below hb5 (Nat.le_refl _)).2.1).mono ?_
  rintro e w5 ⟨rfl, rfl⟩
  rw [ho.out]
  go_wp2_with fail
  refine (RB _ (hC.out.below hb5 (Nat.le_refl _)).2.1).mono ?_
  rintro e w6 ⟨rfl, hb6⟩
  have hb7 := tr hb5 hb6
  clear RB BB
  go_wp2_with fail
  refine (known_any _ (hs.below hb7 (Nat.le_refl _)) (hf.below hb7 (Nat.le_refl _))).mono ?_
  rintro e w9 ⟨rfl, hb9⟩
  go_wp2
  go_ret
  exact ⟨rfl, tr hb7 hb9⟩

theorem orders_law (p : Option Addr) (xs : List Int) (n c : Nat) (r : Int) (w : World) (hn : Hid (xs.length = n)) (hC : Hid (Came w p xs c)) (hs : Src w) (hf : Fst w) (ht : Trn w) :
    Calls Tryz.prog 3 #[.slice p n c, .int .i64 r] w fun e w' => e = .returned (.bool true) ∧ Below w.heap.size w w' := by
  by_cases h70 : 70 < n
  · exact orders_many p n c r w h70 hs hf
  cases ho : ordB xs
  · exact orders_bad p xs n c r w hn (by omega) hC (Lib.hid ho) hs hf
  have h64 := (ord_hex ho).1
  rw [hn.out] at h64
  subst h64
  by_cases h1 : r = 1
  · subst h1; exact orders_1 p xs c w hC (Lib.hid ho) hs hf
  by_cases h2 : r = 2
  · subst h2; exact orders_2 p xs c w hC (Lib.hid ho) hs hf
  by_cases h3 : r = 3
  · subst h3; exact orders_3 p xs c w hC (Lib.hid ho) hs hf ht
  by_cases hl : r < 1
  · exact orders_low p xs 64 c r w hn (by omega) hC (Lib.hid ho) hl hs hf
  · exact orders_high p xs 64 c r w hn (by omega) hC (Lib.hid ho) (by omega) (by omega) hs hf
end Go.Proofs.YtoeflgmdaaefeaaGreatDoor
