/-
  Package hexagram: the first place at which a list breaks a rule.
-/
import Derived.Test.YtoeflgmdaaefeaaGreatDoorHxVm
import Derived.Test.YtoeflgmdaaefeaaGreatDoorHxVk
namespace Go.Proofs.YtoeflgmdaaefeaaGreatDoor
open Go Go.RowKit
set_option linter.unusedVariables false

theorem run_equalIn_func {P : Program} (w : World) (d : Nat) (t : TypeId) (ps qs : Array TypeId) (v : Bool) (f : Fn) (xs ys : Array Value) (h : P.underlying t = some (.func ps qs v)) : (Op.equalIn (d + 1) t (.func f xs ys) .nilFunc).run P w = .ok false w := by
  simp [Op.equalIn, run_underlying h]
theorem run_equal_func {P : Program} (w : World) (t : TypeId) (ps qs : Array TypeId) (v : Bool) (f : Fn) (xs ys : Array Value) (h : P.underlying t = some (.func ps qs v)) : (Op.equal t (.func f xs ys) .nilFunc).run P w = .ok false w := run_equalIn_func w 9999 t ps qs v f xs ys h
theorem run_equalIn_nilFunc {P : Program} (w : World) (d : Nat) (t : TypeId) (ps qs : Array TypeId) (v : Bool) (h : P.underlying t = some (.func ps qs v)) : (Op.equalIn (d + 1) t .nilFunc .nilFunc).run P w = .ok true w := by
  simp [Op.equalIn, run_underlying h]
theorem run_equal_nilFunc {P : Program} (w : World) (t : TypeId) (ps qs : Array TypeId) (v : Bool) (h : P.underlying t = some (.func ps qs v)) : (Op.equal t .nilFunc .nilFunc).run P w = .ok true w := run_equalIn_nilFunc w 9999 t ps qs v h
theorem eq_func (f : Fn) (xs ys : Array Value) (w : World) : (binOp .eql 65 (.func f xs ys) .nilFunc).run Tryz.prog w = .ok (.bool false) w := by
  simp only [binOp]
  simp [run_equal_func w 65 _ _ _ f xs ys Tryz.underlying65]
theorem eq_nil (w : World) : (binOp .eql 65 .nilFunc .nilFunc).run Tryz.prog w = .ok (.bool true) w := by
  simp only [binOp]
  simp [run_equal_nilFunc w 65 _ _ _ Tryz.underlying65]

/-- The first of n places at which a condition fails, or -1. -/
def brkTo (f : Nat → Bool) : Nat → Int
  | 0 => -1
  | n + 1 => if brkTo f n = -1 ∧ f n = false then n else brkTo f n
theorem brkTo_none {f : Nat → Bool} {n : Nat} (h : ∀ j, j < n → f j = true) : brkTo f n = -1 := by
  induction n with
  | zero => rfl
  | succ n ih =>
    unfold brkTo
    rw [ih fun j hj => h j (by omega), h n (by omega)]
    simp
theorem brkTo_at {f : Nat → Bool} {n k : Nat} (hk : k < n) (h : ∀ j, j < k → f j = true) (h1 : f k = false) : brkTo f n = k := by
  induction n with
  | zero => omega
  | succ n ih =>
    unfold brkTo
    by_cases e : k = n
    · subst e
      rw [brkTo_none h, h1]
      simp
    · rw [ih (by omega)]
      rw [if_neg (by omega)]
theorem brkTo_congr {f g : Nat → Bool} {n : Nat} (h : ∀ j, j < n → f j = g j) : brkTo f n = brkTo g n := by
  induction n with
  | zero => rfl
  | succ n ih => unfold brkTo; rw [ih fun j hj => h j (by omega), h n (by omega)]

theorem keep1_any (k B c : Nat) (p : Option Addr) (xs : List Int) (hk : k < 64) (hlen : Hid (xs.length = 64)) (hx : Hid (∀ k, k < 64 → Hex (nth xs k))) (w : World) (hc : w.cell? ⟨B, 0, none⟩ = some (.slice p 64 c)) (hR : Reads w p xs) (hs : Src w) :
    Calls Tryz.prog 67 #[.int .i64 k, .pointer (some ⟨B, 0, none⟩)] w fun e w' => e = .returned (.bool (keep1 xs k)) ∧ Below w.heap.size w w' := by
  by_cases h1 : k % 2 = 1
  · exact keep1_odd k B c p xs hk h1 w hc
  · exact keep1_even k B c p xs hk (by omega) hlen hx w hc hR hs
theorem ord_hex {xs : List Int} (h : ordB xs = true) : xs.length = 64 ∧ ∀ k, k < 64 → Hex (nth xs k) := by
  unfold ordB at h
  rw [Bool.and_eq_true, decide_eq_true_iff, decide_eq_true_iff] at h
  have := (ord_complete h.1).1 h.2
  exact ⟨h.1, fun k hk => this.1 k (by omega)⟩

set_option maxHeartbeats 1000000 in
theorem broken_bad (p : Option Addr) (xs : List Int) (m c : Nat) (r : Int) (w : World) (hlen : Hid (xs.length = m)) (hm : m ≤ 1000000) (ho : Hid (ordB xs = false)) (hR : Reads w p xs) :
    Calls Tryz.prog 9 #[.slice p m c, .int .i64 r] w fun e w' => e = .returned (.tuple #[.int .i64 0, .int .i64 2]) ∧ Below w.heap.size w w' := by
  go_enter Tryz.func9, Tryz.ntmps9
  go_wp2_with fail
  refine (complete_any p xs m c w hlen hm hR).mono ?_
  rintro e w1 ⟨rfl, hb1⟩
  rw [ho.out]
  go_wp2
  go_ret2
  exact ⟨rfl, hb1⟩

set_option maxHeartbeats 1000000 in
theorem keeping_none (p : Option Addr) (m c : Nat) (r : Int) (h1 : ¬ r = 1) (h2 : ¬ r = 2) (h3 : ¬ r = 3) (w : World) :
    Calls Tryz.prog 31 #[.slice p m c, .int .i64 r] w fun e w' => e = .returned Value.nilFunc ∧ Below w.heap.size w w' := by
  go_enter Tryz.func31, Tryz.ntmps31
  go_wp2
  go_ret
  exact ⟨rfl, below1 _ _⟩
set_option maxHeartbeats 1000000 in
theorem broken_none (p : Option Addr) (xs : List Int) (m c : Nat) (r : Int) (h1 : ¬ r = 1) (h2 : ¬ r = 2) (h3 : ¬ r = 3) (w : World) (hlen : Hid (xs.length = m)) (hm : m ≤ 1000000) (ho : Hid (ordB xs = true)) (hR : Reads w p xs) :
    Calls Tryz.prog 9 #[.slice p m c, .int .i64 r] w fun e w' => e = .returned (.tuple #[.int .i64 0, .int .i64 7]) ∧ Below w.heap.size w w' := by
  go_enter Tryz.func9, Tryz.ntmps9
  go_wp2_with fail
  refine (complete_any p xs m c w hlen hm hR).mono ?_
  rintro e w1 ⟨rfl, hb1⟩
  rw [ho.out]
  go_wp2_with fail
  refine (keeping_none p m c r h1 h2 h3 _).mono ?_
  rintro e w2 ⟨rfl, hb2⟩
  have hq := eq_nil w2
  go_wp2
  go_ret2
  exact ⟨rfl, tr hb1 hb2⟩

set_option maxHeartbeats 1000000 in
theorem keeping_1 (p : Option Addr) (m c : Nat) (w : World) :
    Calls Tryz.prog 31 #[.slice p m c, .int .i64 1] w fun e w' => e = .returned (.func (.func 67) #[] #[.pointer (some ⟨w.heap.size, 0, none⟩)]) ∧ w.alloc (.cells #[.slice p m c] 22) = w' := by
  go_enter Tryz.func31, Tryz.ntmps31
  go_wp2
  go_ret
  exact ⟨rfl, rfl⟩
set_option maxRecDepth 100000 in
set_option maxHeartbeats 2000000 in
theorem broken_1 (p : Option Addr) (xs : List Int) (c : Nat) (w : World) (ho : Hid (ordB xs = true)) (hR : Reads w p xs) (hs : Src w) :
    Calls Tryz.prog 9 #[.slice p 64 c, .int .i64 1] w fun e w' => e = .returned (.tuple #[.int .i64 (brkTo (keep1 xs) 64), .int .i64 0]) ∧ Below w.heap.size w w' := by
  obtain ⟨h1, h2⟩ := ord_hex ho.out
  have hlen := Lib.hid h1
  have hx := Lib.hid h2
  clear h1 h2
  obtain ⟨R, hRR⟩ : ∃ R, brkTo (keep1 xs) 64 = R := ⟨_, rfl⟩
  have HA := Lib.hid (show ∀ k, k < 64 → (∀ j, j < k → keep1 xs j = true) → keep1 xs k = false → R = k from fun k hk h h1 => hRR ▸ brkTo_at hk h h1)
  have HN := Lib.hid (show (∀ j, j < 64 → keep1 xs j = true) → R = -1 from fun h => hRR ▸ brkTo_none h)
  rw [hRR]
  clear hRR
  go_enter Tryz.func9, Tryz.ntmps9
  go_wp2_with fail
  refine (complete_any p xs 64 c w hlen (by omega) hR).mono ?_
  rintro e w1 ⟨rfl, hb1⟩
  rw [ho.out]
  go_wp2_with fail
  refine (keeping_1 p 64 c w1).mono ?_
  rintro e w2 ⟨rfl, hw2⟩
  have hc2 : w2.cell? ⟨w1.heap.size, 0, none⟩ = some (.slice p 64 c) := by rw [← hw2, World.cell?_alloc_at _ _ _ _ rfl]; rfl
  have hb3 := tr hb1 (hw2 ▸ below1 _ _)
  clear hw2
  obtain ⟨B, hB⟩ : ∃ B, w1.heap.size = B := ⟨_, rfl⟩
  rw [hB] at hc2 ⊢
  clear hB hb1
  have hq := eq_func (.func 67) #[] #[.pointer (some ⟨B, 0, none⟩)] w2
  go_wp2
  go_loopw [18] (fun i wr => ∃ k : Nat, k ≤ 64 ∧ i = .int .i64 k ∧ Hid (∀ j, j < k → keep1 xs j = true) ∧ Below w2.heap.size w2 wr) (fun i _ => 64 - (intOf i).toNat)
  case atStart => exact ⟨0, by omega, rfl, fun j hj => by omega, Below.refl _ _⟩
  case round =>
    obtain ⟨k, hk, rfl, HK, hb⟩ := hrel
    by_cases hlt : k < 64
    · have hbr := tr hb3 hb
      have hki : (k : Int) < 64 := by omega
      have C := keep1_any k B c p xs hlt hlen hx wr (cell_tr hb hc2) (hR.below hbr (Nat.le_refl _)) (hs.below hbr (Nat.le_refl _))
      cases hv : keep1 xs k
      · rw [hv] at C
        have E := Lib.hid (HA.out k hlt HK.out hv)
        clear hv
        go_wp2_with fail
        refine C.mono ?_
        rintro e w4 ⟨rfl, hb4⟩
        clear C
        go_wp2
        go_ret2
        exact ⟨by rw [E.out]; rfl, tr hbr hb4⟩
      · rw [hv] at C
        have HK' := Lib.hid (show ∀ j, j < k + 1 → keep1 xs j = true from fun j hj => by
          by_cases e : j = k
          · subst e; exact hv
          · exact HK.out j (by omega))
        clear hv
        go_wp2_with fail
        refine C.mono ?_
        rintro e w4 ⟨rfl, hb4⟩
        clear C
        go_wp2
        go_roundw
        case rel => exact ⟨k + 1, by omega, by go_num, HK', tr hb hb4⟩
        case measure => simp [intOf]; omega
    · obtain rfl : k = 64 := by omega
      have E := Lib.hid (HN.out HK.out)
      go_wp2
      go_ret2
      exact ⟨by rw [E.out]; rfl, tr hb3 hb⟩

set_option maxHeartbeats 1000000 in
theorem keeping_2 (p : Option Addr) (m c : Nat) (w : World) :
    Calls Tryz.prog 31 #[.slice p m c, .int .i64 2] w fun e w' => e = .returned (.func (.func 69) #[] #[.pointer (some ⟨w.heap.size, 0, none⟩)]) ∧ w.alloc (.cells #[.slice p m c] 22) = w' := by
  go_enter Tryz.func31, Tryz.ntmps31
  go_wp2
  go_ret
  exact ⟨rfl, rfl⟩
set_option maxRecDepth 100000 in
set_option maxHeartbeats 2000000 in
theorem broken_2 (p : Option Addr) (xs : List Int) (c : Nat) (w : World) (ho : Hid (ordB xs = true)) (hR : Reads w p xs) (hs : Src w) :
    Calls Tryz.prog 9 #[.slice p 64 c, .int .i64 2] w fun e w' => e = .returned (.tuple #[.int .i64 (brkTo (keep2 xs) 64), .int .i64 0]) ∧ Below w.heap.size w w' := by
  obtain ⟨h1, h2⟩ := ord_hex ho.out
  have hlen := Lib.hid h1
  have hx := Lib.hid h2
  clear h1 h2
  obtain ⟨R, hRR⟩ : ∃ R, brkTo (keep2 xs) 64 = R := ⟨_, rfl⟩
  have HA := Lib.hid (show ∀ k, k < 64 → (∀ j, j < k → keep2 xs j = true) → keep2 xs k = false → R = k from fun k hk h h1 => hRR ▸ brkTo_at hk h h1)
  have HN := Lib.hid (show (∀ j, j < 64 → keep2 xs j = true) → R = -1 from fun h => hRR ▸ brkTo_none h)
  rw [hRR]
  clear hRR
  go_enter Tryz.func9, Tryz.ntmps9
  go_wp2_with fail
  refine (complete_any p xs 64 c w hlen (by omega) hR).mono ?_
  rintro e w1 ⟨rfl, hb1⟩
  rw [ho.out]
  go_wp2_with fail
  refine (keeping_2 p 64 c w1).mono ?_
  rintro e w2 ⟨rfl, hw2⟩
  have hc2 : w2.cell? ⟨w1.heap.size, 0, none⟩ = some (.slice p 64 c) := by rw [← hw2, World.cell?_alloc_at _ _ _ _ rfl]; rfl
  have hb3 := tr hb1 (hw2 ▸ below1 _ _)
  clear hw2
  obtain ⟨B, hB⟩ : ∃ B, w1.heap.size = B := ⟨_, rfl⟩
  rw [hB] at hc2 ⊢
  clear hB hb1
  have hq := eq_func (.func 69) #[] #[.pointer (some ⟨B, 0, none⟩)] w2
  go_wp2
  go_loopw [18] (fun i wr => ∃ k : Nat, k ≤ 64 ∧ i = .int .i64 k ∧ Hid (∀ j, j < k → keep2 xs j = true) ∧ Below w2.heap.size w2 wr) (fun i _ => 64 - (intOf i).toNat)
  case atStart => exact ⟨0, by omega, rfl, fun j hj => by omega, Below.refl _ _⟩
  case round =>
    obtain ⟨k, hk, rfl, HK, hb⟩ := hrel
    by_cases hlt : k < 64
    · have hbr := tr hb3 hb
      have hki : (k : Int) < 64 := by omega
      have C := keep2_any k B c p xs hlt hlen hx wr (cell_tr hb hc2) (hR.below hbr (Nat.le_refl _)) (hs.below hbr (Nat.le_refl _))
      cases hv : keep2 xs k
      · rw [hv] at C
        have E := Lib.hid (HA.out k hlt HK.out hv)
        clear hv
        go_wp2_with fail
        refine C.mono ?_
        rintro e w4 ⟨rfl, hb4⟩
        clear C
        go_wp2
        go_ret2
        exact ⟨by rw [E.out]; rfl, tr hbr hb4⟩
      · rw [hv] at C
        have HK' := Lib.hid (show ∀ j, j < k + 1 → keep2 xs j = true from fun j hj => by
          by_cases e : j = k
          · subst e; exact hv
          · exact HK.out j (by omega))
        clear hv
        go_wp2_with fail
        refine C.mono ?_
        rintro e w4 ⟨rfl, hb4⟩
        clear C
        go_wp2
        go_roundw
        case rel => exact ⟨k + 1, by omega, by go_num, HK', tr hb hb4⟩
        case measure => simp [intOf]; omega
    · obtain rfl : k = 64 := by omega
      have E := Lib.hid (HN.out HK.out)
      go_wp2
      go_ret2
      exact ⟨by rw [E.out]; rfl, tr hb3 hb⟩

set_option maxHeartbeats 1000000 in
theorem keeping_3 (p : Option Addr) (m c : Nat) (w : World) :
    Calls Tryz.prog 31 #[.slice p m c, .int .i64 3] w fun e w' => e = .returned (.func (.func 70) #[] #[.pointer (some ⟨w.heap.size, 0, none⟩)]) ∧ w.alloc (.cells #[.slice p m c] 22) = w' := by
  go_enter Tryz.func31, Tryz.ntmps31
  go_wp2
  go_ret
  exact ⟨rfl, rfl⟩
set_option maxRecDepth 100000 in
set_option maxHeartbeats 2000000 in
theorem broken_3 (p : Option Addr) (xs : List Int) (c : Nat) (w : World) (ho : Hid (ordB xs = true)) (hR : Reads w p xs) (hs : Src w) (ht : Trn w) :
    Calls Tryz.prog 9 #[.slice p 64 c, .int .i64 3] w fun e w' => e = .returned (.tuple #[.int .i64 (brkTo (keep3 xs) 64), .int .i64 0]) ∧ Below w.heap.size w w' := by
  obtain ⟨h1, h2⟩ := ord_hex ho.out
  have hlen := Lib.hid h1
  have hx := Lib.hid h2
  clear h1 h2
  obtain ⟨R, hRR⟩ : ∃ R, brkTo (keep3 xs) 64 = R := ⟨_, rfl⟩
  have HA := Lib.hid (show ∀ k, k < 64 → (∀ j, j < k → keep3 xs j = true) → keep3 xs k = false → R = k from fun k hk h h1 => hRR ▸ brkTo_at hk h h1)
  have HN := Lib.hid (show (∀ j, j < 64 → keep3 xs j = true) → R = -1 from fun h => hRR ▸ brkTo_none h)
  rw [hRR]
  clear hRR
  go_enter Tryz.func9, Tryz.ntmps9
  go_wp2_with fail
  refine (complete_any p xs 64 c w hlen (by omega) hR).mono ?_
  rintro e w1 ⟨rfl, hb1⟩
  rw [ho.out]
  go_wp2_with fail
  refine (keeping_3 p 64 c w1).mono ?_
  rintro e w2 ⟨rfl, hw2⟩
  have hc2 : w2.cell? ⟨w1.heap.size, 0, none⟩ = some (.slice p 64 c) := by rw [← hw2, World.cell?_alloc_at _ _ _ _ rfl]; rfl
  have hb3 := tr hb1 (hw2 ▸ below1 _ _)
  clear hw2
  obtain ⟨B, hB⟩ : ∃ B, w1.heap.size = B := ⟨_, rfl⟩
  rw [hB] at hc2 ⊢
  clear hB hb1
  have hq := eq_func (.func 70) #[] #[.pointer (some ⟨B, 0, none⟩)] w2
  go_wp2
  go_loopw [18] (fun i wr => ∃ k : Nat, k ≤ 64 ∧ i = .int .i64 k ∧ Hid (∀ j, j < k → keep3 xs j = true) ∧ Below w2.heap.size w2 wr) (fun i _ => 64 - (intOf i).toNat)
  case atStart => exact ⟨0, by omega, rfl, fun j hj => by omega, Below.refl _ _⟩
  case round =>
    obtain ⟨k, hk, rfl, HK, hb⟩ := hrel
    by_cases hlt : k < 64
    · have hbr := tr hb3 hb
      have hki : (k : Int) < 64 := by omega
      have C := keep3_any k B c p xs hlt hlen hx wr (cell_tr hb hc2) (hR.below hbr (Nat.le_refl _)) (hs.below hbr (Nat.le_refl _)) (ht.below hbr (Nat.le_refl _))
      cases hv : keep3 xs k
      · rw [hv] at C
        have E := Lib.hid (HA.out k hlt HK.out hv)
        clear hv
        go_wp2_with fail
        refine C.mono ?_
        rintro e w4 ⟨rfl, hb4⟩
        clear C
        go_wp2
        go_ret2
        exact ⟨by rw [E.out]; rfl, tr hbr hb4⟩
      · rw [hv] at C
        have HK' := Lib.hid (show ∀ j, j < k + 1 → keep3 xs j = true from fun j hj => by
          by_cases e : j = k
          · subst e; exact hv
          · exact HK.out j (by omega))
        clear hv
        go_wp2_with fail
        refine C.mono ?_
        rintro e w4 ⟨rfl, hb4⟩
        clear C
        go_wp2
        go_roundw
        case rel => exact ⟨k + 1, by omega, by go_num, HK', tr hb hb4⟩
        case measure => simp [intOf]; omega
    · obtain rfl : k = 64 := by omega
      have E := Lib.hid (HN.out HK.out)
      go_wp2
      go_ret2
      exact ⟨by rw [E.out]; rfl, tr hb3 hb⟩
end Go.Proofs.YtoeflgmdaaefeaaGreatDoor
