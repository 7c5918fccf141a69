/-
  The reference of chapter 4: the first place at which an order breaks a rule.
-/
import Derived.Test.YtoeflgmdaaefeaaGreatDoorHxVj
import Derived.Test.YtoeflgmdaaefeaaGreatDoorHxRd
import Derived.Test.YtoeflgmdaaefeaaGreatDoorHxRp
import Derived.Deep.RegionHeld3
namespace Go.Proofs.YtoeflgmdaaefeaaGreatDoor
open Go Go.RowKit
set_option linter.unusedVariables false

theorem head_six {h : Int} (hh : Hex h) : headB h = (nth (sixL h) 0 == nth (sixL h) 3 && nth (sixL h) 1 == nth (sixL h) 4 && nth (sixL h) 2 == nth (sixL h) 5) :=
  hex_all (P := fun h => headB h = (nth (sixL h) 0 == nth (sixL h) 3 && nth (sixL h) 1 == nth (sixL h) 4 && nth (sixL h) 2 == nth (sixL h) 5)) (by decide +kernel) hh
theorem mem_xor {h : Int} (hh : Hex h) {s : Nat} (hs : s < 8) : memN h (turnT s) = memV h s := by
  have := hex_all (P := fun h => ∀ s : Fin 8, memN h (turnT s.val) = memV h s.val) (by decide +kernel) hh
  exact this ⟨s, hs⟩
theorem keepE {w W W' : World} {a1 : Addr} {v1 : Value} (h : W.cell? a1 = some v1 ∧ Below w.heap.size w W) (hb : Below W.heap.size W W') : W'.cell? a1 = some v1 ∧ Below w.heap.size w W' := ⟨cell_tr hb h.1, tr h.2 hb⟩

set_option maxRecDepth 100000 in
set_option maxHeartbeats 4000000 in
theorem refBroken_1 (p : Option Addr) (xs : List Int) (c : Nat) (w : World) (ho : Hid (ordB xs = true)) (hR : Reads w p xs) :
    Calls Tryz.prog 12 #[.slice p 64 c, .int .i64 1] w fun e w' => e = .returned (.int .i64 (brkTo (keep1 xs) 64)) ∧ Below w.heap.size w w' := by
  obtain ⟨h1, h2⟩ := ord_hex ho.out
  have hlen := Lib.hid h1
  have hx := Lib.hid h2
  clear h1 h2
  obtain ⟨R, hRR⟩ : ∃ R, brkTo (keep1 xs) 64 = R := ⟨_, rfl⟩
  have HA := Lib.hid (show ∀ k, k < 64 → (∀ j, j < k → keep1 xs j = true) → keep1 xs k = false → R = k from fun k hk h h1 => hRR ▸ brkTo_at hk h h1)
  have HN := Lib.hid (show (∀ j, j < 64 → keep1 xs j = true) → R = -1 from fun h => hRR ▸ brkTo_none h)
  rw [hRR]
  clear hRR
  go_enter Tryz.func12, Tryz.ntmps12
  go_wp2
  go_loopw [5] (fun i wr => ∃ k : Nat, k ≤ 64 ∧ i = .int .i64 k ∧ Hid (∀ j, j < k → keep1 xs j = true) ∧ Below w.heap.size w wr) (fun i _ => 64 - (intOf i).toNat)
  case atStart => exact ⟨0, by omega, rfl, fun j hj => by omega, Below.refl _ _⟩
  case round =>
    obtain ⟨k, hk, rfl, HK, hb⟩ := hrel
    by_cases hlt : k < 64
    · have hki : (k : Int) < 64 := by omega
      have NX : Hid (keep1 xs k = true → ∀ j, j < k + 1 → keep1 xs j = true) := fun hv j hj => by
        by_cases e : j = k
        · subst e; exact hv
        · exact HK.out j (by omega)
      have ST : Hid (keep1 xs k = false → R = k) := fun hv => HA.out k hlt HK.out hv
      obtain ⟨q, o, rfl, c1⟩ := hR.below hb (Nat.le_refl _) k (by have := hlen.out; omega)
      by_cases h1 : k % 2 = 1
      · have G := Lib.hid (NX.out (by unfold keep1; rw [h1]; rfl))
        have hk2 : (k : Int) % 2 = 1 := by omega
        clear h1
        go_wp2
        go_roundw
        case rel => exact ⟨k + 1, by omega, by go_num, G, hb⟩
        case measure => simp [intOf]; omega
      · have hk2 : (k : Int) % 2 = 0 := by omega
        obtain ⟨_, _, e0, c2⟩ := hR.below hb (Nat.le_refl _) (k + 1) (by have := hlen.out; omega)
        cases e0
        have E1 := Lib.hid (show keep1 xs k = (nth xs (k + 1) == if opV (nth xs k) 0 = nth xs k then opV (nth xs k) 1 else opV (nth xs k) 0) by unfold keep1; rw [show k % 2 = 0 by omega]; rfl)
        have C0 := refOp0_any (nth xs k) (hx.out k hlt) wr
        have C1 := fun (V : World) => refOp1_any (nth xs k) (hx.out k hlt) V
        obtain ⟨j, hj⟩ : ∃ j, k + 1 = j := ⟨_, rfl⟩
        have e1 : IntKind.i64.wrap ((k : Int) + 1) = (j : Int) := by rw [← hj, show (k : Int) + 1 = ((k + 1 : Nat) : Int) by omega]; exact IntWalk.i64_in _ (by omega)
        have hj2 : (j : Int) < 64 := by omega
        rw [hj] at c2 E1
        obtain ⟨a, ha⟩ : ∃ a, nth xs k = a := ⟨_, rfl⟩
        obtain ⟨b, hb'⟩ : ∃ b, nth xs j = b := ⟨_, rfl⟩
        rw [ha] at c1 C0 C1 E1
        rw [hb'] at c2 E1
        obtain ⟨y, hy⟩ : ∃ y, opV a 0 = y := ⟨_, rfl⟩
        obtain ⟨z, hz⟩ : ∃ z, opV a 1 = z := ⟨_, rfl⟩
        rw [hy] at C0 E1
        rw [hz] at C1 E1
        have HJ := Lib.hid hj
        clear hj ha hb' hy hz h1
        by_cases hya : y = a
        · have e3 : (y == a) = true := by simp [hya]
          have E2 := Lib.hid (show keep1 xs k = (b == z) by rw [E1.out, if_pos hya])
          clear hya
          by_cases hbz : b = z
          · have e4 : (b != z) = false := by simp [hbz]
            have G := Lib.hid (NX.out (by rw [E2.out]; simp [hbz]))
            clear hbz
            go_wp2_with fail
            refine C0.mono ?_
            rintro e w4 ⟨rfl, hb4⟩
            have c2' := cell_tr hb4 c2
            go_wp2_with fail
            refine (C1 _).mono ?_
            rintro e w5 ⟨rfl, hb5⟩
            have c2'' := cell_tr hb5 c2'
            have HB := tr (tr hb hb4) hb5
            clear C0 C1
            go_wp2
            go_roundw
            case rel => exact ⟨k + 1, by omega, by have := HJ.out; first | (go_num; done) | (rw [← HJ.out]; rfl), G, HB⟩
            case measure => have := HJ.out; simp [intOf]; omega
          · have e4 : (b != z) = true := by simp [hbz]
            have E := Lib.hid (ST.out (by rw [E2.out]; simp [hbz]))
            clear hbz
            go_wp2_with fail
            refine C0.mono ?_
            rintro e w4 ⟨rfl, hb4⟩
            have c2' := cell_tr hb4 c2
            go_wp2_with fail
            refine (C1 _).mono ?_
            rintro e w5 ⟨rfl, hb5⟩
            have c2'' := cell_tr hb5 c2'
            have HB := tr (tr hb hb4) hb5
            clear C0 C1
            go_wp2
            go_ret
            exact ⟨by rw [E.out]; rfl, HB⟩
        · have e3 : (y == a) = false := by simp [hya]
          have E2 := Lib.hid (show keep1 xs k = (b == y) by rw [E1.out, if_neg hya])
          clear hya
          by_cases hbz : b = y
          · have e4 : (b != y) = false := by simp [hbz]
            have G := Lib.hid (NX.out (by rw [E2.out]; simp [hbz]))
            clear hbz
            go_wp2_with fail
            refine C0.mono ?_
            rintro e w4 ⟨rfl, hb4⟩
            have c2' := cell_tr hb4 c2
            have HB := tr hb hb4
            clear C0 C1
            go_wp2
            go_roundw
            case rel => exact ⟨k + 1, by omega, by have := HJ.out; first | (go_num; done) | (rw [← HJ.out]; rfl), G, HB⟩
            case measure => have := HJ.out; simp [intOf]; omega
          · have e4 : (b != y) = true := by simp [hbz]
            have E := Lib.hid (ST.out (by rw [E2.out]; simp [hbz]))
            clear hbz
            go_wp2_with fail
            refine C0.mono ?_
            rintro e w4 ⟨rfl, hb4⟩
            have c2' := cell_tr hb4 c2
            have HB := tr hb hb4
            clear C0 C1
            go_wp2
            go_ret
            exact ⟨by rw [E.out]; rfl, HB⟩
    · obtain rfl : k = 64 := by omega
      have E := Lib.hid (HN.out HK.out)
      go_wp2
      go_ret
      exact ⟨by rw [E.out]; rfl, hb⟩

set_option maxRecDepth 100000 in
set_option maxHeartbeats 4000000 in
theorem refBroken_2 (p : Option Addr) (xs : List Int) (c : Nat) (w : World) (ho : Hid (ordB xs = true)) (hR : Reads w p xs) :
    Calls Tryz.prog 12 #[.slice p 64 c, .int .i64 2] w fun e w' => e = .returned (.int .i64 (brkTo (keep2 xs) 64)) ∧ Below w.heap.size w w' := by
  obtain ⟨h1, h2⟩ := ord_hex ho.out
  have hlen := Lib.hid h1
  have hx := Lib.hid h2
  clear h1 h2
  obtain ⟨R, hRR⟩ : ∃ R, brkTo (keep2 xs) 64 = R := ⟨_, rfl⟩
  have HA := Lib.hid (show ∀ k, k < 64 → (∀ j, j < k → keep2 xs j = true) → keep2 xs k = false → R = k from fun k hk h h1 => hRR ▸ brkTo_at hk h h1)
  have HN := Lib.hid (show (∀ j, j < 64 → keep2 xs j = true) → R = -1 from fun h => hRR ▸ brkTo_none h)
  rw [hRR]
  clear hRR
  go_enter Tryz.func12, Tryz.ntmps12
  go_wp2
  go_loopw [5] (fun i wr => ∃ k : Nat, k ≤ 64 ∧ i = .int .i64 k ∧ Hid (∀ j, j < k → keep2 xs j = true) ∧ Below w.heap.size w wr) (fun i _ => 64 - (intOf i).toNat)
  case atStart => exact ⟨0, by omega, rfl, fun j hj => by omega, Below.refl _ _⟩
  case round =>
    obtain ⟨k, hk, rfl, HK, hb⟩ := hrel
    by_cases hlt : k < 64
    · have hki : (k : Int) < 64 := by omega
      have NX : Hid (keep2 xs k = true → ∀ j, j < k + 1 → keep2 xs j = true) := fun hv j hj => by
        by_cases e : j = k
        · subst e; exact hv
        · exact HK.out j (by omega)
      have ST : Hid (keep2 xs k = false → R = k) := fun hv => HA.out k hlt HK.out hv
      obtain ⟨q, o, rfl, c1⟩ := hR.below hb (Nat.le_refl _) k (by have := hlen.out; omega)
      obtain ⟨_, _, e0, c2⟩ := hR.below hb (Nat.le_refl _) (63 - k) (by have := hlen.out; omega)
      cases e0
      have E1 := Lib.hid (show keep2 xs k = (nth xs (63 - k) == opV (nth xs k) 1) from rfl)
      have C1 := fun (V : World) => refOp1_any (nth xs k) (hx.out k hlt) V
      obtain ⟨j, hj⟩ : ∃ j, 63 - k = j := ⟨_, rfl⟩
      have e1 : IntKind.i64.wrap (63 - (k : Int)) = (j : Int) := by rw [← hj, show (63 : Int) - (k : Int) = ((63 - k : Nat) : Int) by omega]; exact IntWalk.i64_in _ (by omega)
      have hj2 : (j : Int) < 64 := by omega
      rw [hj] at c2 E1
      obtain ⟨a, ha⟩ : ∃ a, nth xs k = a := ⟨_, rfl⟩
      obtain ⟨b, hb'⟩ : ∃ b, nth xs j = b := ⟨_, rfl⟩
      rw [ha] at c1 C1 E1
      rw [hb'] at c2 E1
      obtain ⟨z, hz⟩ : ∃ z, opV a 1 = z := ⟨_, rfl⟩
      rw [hz] at C1 E1
      have HJ := Lib.hid hj
      clear hj ha hb' hz
      by_cases hbz : b = z
      · have e4 : (b != z) = false := by simp [hbz]
        have G := Lib.hid (NX.out (by rw [E1.out]; simp [hbz]))
        clear hbz
        go_wp2
        go_region_held3 (fun w' => w'.cell? ⟨q, o + j, none⟩ = some (.int .i64 b) ∧ Below wr.heap.size wr w')
          (first | exact ⟨c2, (Below.refl _ _).drew⟩ | assumption | exact keepE (by assumption) hbk | exact keepE (W := wr.drew) ⟨c2, (Below.refl _ _).drew⟩ hbk)
          (first
            | (go_at_call 33; refine (C1 _).mono ?_; rintro e w' ⟨rfl, hbk⟩))
        rename_i hh
        obtain ⟨_, hz⟩ := hh
        have HB := tr hb hz
        clear C1
        go_wp2
        go_roundw
        case rel => exact ⟨k + 1, by omega, by have := HJ.out; first | (go_num; done) | (rw [← HJ.out]; rfl), G, HB⟩
        case measure => have := HJ.out; simp [intOf]; omega
      · have e4 : (b != z) = true := by simp [hbz]
        have E := Lib.hid (ST.out (by rw [E1.out]; simp [hbz]))
        clear hbz
        go_wp2
        go_region_held3 (fun w' => w'.cell? ⟨q, o + j, none⟩ = some (.int .i64 b) ∧ Below wr.heap.size wr w')
          (first | exact ⟨c2, (Below.refl _ _).drew⟩ | assumption | exact keepE (by assumption) hbk | exact keepE (W := wr.drew) ⟨c2, (Below.refl _ _).drew⟩ hbk)
          (first
            | (go_at_call 33; refine (C1 _).mono ?_; rintro e w' ⟨rfl, hbk⟩))
        rename_i hh
        obtain ⟨_, hz⟩ := hh
        have HB := tr hb hz
        clear C1
        go_wp2
        go_ret
        exact ⟨by rw [E.out]; rfl, HB⟩
    · obtain rfl : k = 64 := by omega
      have E := Lib.hid (HN.out HK.out)
      go_wp2
      go_ret
      exact ⟨by rw [E.out]; rfl, hb⟩

set_option maxRecDepth 100000 in
set_option maxHeartbeats 4000000 in
theorem refBroken_3 (p : Option Addr) (xs : List Int) (c : Nat) (w : World) (ho : Hid (ordB xs = true)) (hR : Reads w p xs) :
    Calls Tryz.prog 12 #[.slice p 64 c, .int .i64 3] w fun e w' => e = .returned (.int .i64 (brkTo (keep3 xs) 64)) ∧ Below w.heap.size w w' := by
  obtain ⟨h1, h2⟩ := ord_hex ho.out
  have hlen := Lib.hid h1
  have hx := Lib.hid h2
  clear h1 h2
  obtain ⟨R, hRR⟩ : ∃ R, brkTo (keep3 xs) 64 = R := ⟨_, rfl⟩
  have HA := Lib.hid (show ∀ k, k < 64 → (∀ j, j < k → keep3 xs j = true) → keep3 xs k = false → R = k from fun k hk h h1 => hRR ▸ brkTo_at hk h h1)
  have HN := Lib.hid (show (∀ j, j < 64 → keep3 xs j = true) → R = -1 from fun h => hRR ▸ brkTo_none h)
  rw [hRR]
  clear hRR
  go_enter Tryz.func12, Tryz.ntmps12
  go_wp2
  go_loopw [5] (fun i wr => ∃ k : Nat, k ≤ 64 ∧ i = .int .i64 k ∧ Hid (∀ j, j < k → keep3 xs j = true) ∧ Below w.heap.size w wr) (fun i _ => 64 - (intOf i).toNat)
  case atStart => exact ⟨0, by omega, rfl, fun j hj => by omega, Below.refl _ _⟩
  case round =>
    obtain ⟨k, hk, rfl, HK, hb⟩ := hrel
    by_cases hlt : k < 64
    · have hki : (k : Int) < 64 := by omega
      have NX : Hid (keep3 xs k = true → ∀ j, j < k + 1 → keep3 xs j = true) := fun hv j hj => by
        by_cases e : j = k
        · subst e; exact hv
        · exact HK.out j (by omega)
      have ST : Hid (keep3 xs k = false → R = k) := fun hv => HA.out k hlt HK.out hv
      obtain ⟨q, o, rfl, c1⟩ := hR.below hb (Nat.le_refl _) k (by have := hlen.out; omega)
      obtain ⟨_, _, e0, c2⟩ := hR.below hb (Nat.le_refl _) (k - k % 8) (by have := hlen.out; omega)
      cases e0
      have E1 := Lib.hid (show keep3 xs k = (headB (nth xs (k - k % 8)) && (nth xs k == memV (nth xs (k - k % 8)) (k % 8))) from rfl)
      have CM := fun (V : World) => refMember_any (nth xs (k - k % 8)) (hx.out _ (by omega)) (k % 8) (by omega) V
      rw [mem_xor (hx.out _ (by omega)) (show k % 8 < 8 by omega)] at CM
      have Hb := Lib.hid (hx.out (k - k % 8) (by omega))
      have HD := Lib.hid (head_six Hb.out)
      obtain ⟨s, hsd⟩ : ∃ s, k % 8 = s := ⟨_, rfl⟩
      have hk2 : (k : Int) % 8 = (s : Int) := by omega
      have hs8 : (s : Int) < 8 := by omega
      rw [hsd] at c2 E1 CM Hb HD
      obtain ⟨j, hj⟩ : ∃ j, k - s = j := ⟨_, rfl⟩
      obtain ⟨d, hd⟩ : ∃ d, k / 8 = d := ⟨_, rfl⟩
      have e1 : IntKind.i64.wrap ((k : Int) / 8) = (d : Int) := by rw [show (k : Int) / 8 = (d : Int) by omega]; exact IntWalk.i64_in _ (by omega)
      have e2 : IntKind.i64.wrap ((d : Int) * 8) = (j : Int) := by rw [show (d : Int) * 8 = (j : Int) by omega]; exact IntWalk.i64_in _ (by omega)
      have hj2 : (j : Int) < 64 := by omega
      rw [hj] at c2 E1 CM Hb HD
      obtain ⟨a, ha⟩ : ∃ a, nth xs k = a := ⟨_, rfl⟩
      obtain ⟨b, hb'⟩ : ∃ b, nth xs j = b := ⟨_, rfl⟩
      rw [ha] at c1 E1
      rw [hb'] at c2 E1 CM Hb HD
      obtain ⟨z, hz⟩ : ∃ z, memV b s = z := ⟨_, rfl⟩
      rw [hz] at CM E1
      obtain ⟨l0, x0⟩ : ∃ l, nth (sixL b) 0 = l := ⟨_, rfl⟩
      obtain ⟨l1, x1⟩ : ∃ l, nth (sixL b) 1 = l := ⟨_, rfl⟩
      obtain ⟨l2, x2⟩ : ∃ l, nth (sixL b) 2 = l := ⟨_, rfl⟩
      obtain ⟨l3, x3⟩ : ∃ l, nth (sixL b) 3 = l := ⟨_, rfl⟩
      obtain ⟨l4, x4⟩ : ∃ l, nth (sixL b) 4 = l := ⟨_, rfl⟩
      obtain ⟨l5, x5⟩ : ∃ l, nth (sixL b) 5 = l := ⟨_, rfl⟩
      rw [x0, x1, x2, x3, x4, x5] at HD
      have L0 := Lib.hid x0
      have L1 := Lib.hid x1
      have L2 := Lib.hid x2
      have L3 := Lib.hid x3
      have L4 := Lib.hid x4
      have L5 := Lib.hid x5
      have HJ := Lib.hid hj
      clear hj ha hb' hz hsd hd x0 x1 x2 x3 x4 x5
      by_cases y0 : l0 = l3
      · have f0 : (l0 != l3) = false := by simp [y0]
        by_cases y1 : l1 = l4
        · have f1 : (l1 != l4) = false := by simp [y1]
          by_cases y2 : l2 = l5
          · have f2 : (l2 != l5) = false := by simp [y2]
            have E2 := Lib.hid (show keep3 xs k = (a == z) by rw [E1.out, HD.out, y0, y1, y2]; simp)
            by_cases hza : z = a
            · have f3 : (z != a) = false := by simp [hza]
              have G := Lib.hid (NX.out (by rw [E2.out]; simp [hza]))
              clear y0 y1 y2 hza
              have HSx := Lib.hid (show (Tryz.prog.info? 45).map (·.size) = some (arr (sixL b)).size by rw [arr_size, sixL_length]; exact info_six)
              have HTx := Lib.hid (show (arr (List.replicate 6 0)).size = (arr (sixL b)).size by rw [arr_size, arr_size, sixL_length]; rfl)
              go_wp2_with fail
              refine (refSix_any b Hb.out _).mono ?_
              rintro e w4 ⟨rfl, hb4⟩
              have N0 := Lib.hid (Blk.new w4 45 (arr (List.replicate 6 0)))
              have HX := Lib.hid (show Blk ((w4.alloc (.cells (arr (List.replicate 6 0)) 45)).setRow w4.heap.size (arr (sixL b))) w4.heap.size 45 (arr (sixL b)) from N0.out.row _)
              have hb6 : Below w4.heap.size w4 ((w4.alloc (.cells (arr (List.replicate 6 0)) 45)).setRow w4.heap.size (arr (sixL b))) := below_setRow ((Below.refl _ _).alloc (Nat.le_refl _) _) (Nat.le_refl _) _
              have cc : ∀ i, i < 6 → ((w4.alloc (.cells (arr [0, 0, 0, 0, 0, 0]) 45)).setRow w4.heap.size (arr (sixL b))).cell? ⟨w4.heap.size, i, none⟩ = some (.int .i64 (nth (sixL b) i)) := fun i hi => by
                have := HX.out.cell i
                rw [arr_get (by rw [sixL_length]; exact hi)] at this
                exact this
              have k0 := cc 0 (by omega); have k1 := cc 1 (by omega); have k2 := cc 2 (by omega); have k3 := cc 3 (by omega); have k4 := cc 4 (by omega); have k5 := cc 5 (by omega)
              rw [L0.out] at k0
              rw [L1.out] at k1
              rw [L2.out] at k2
              rw [L3.out] at k3
              rw [L4.out] at k4
              rw [L5.out] at k5
              have HB := tr (tr hb hb4) hb6
              have e9 : (w4.alloc (.cells #[.int .i64 0, .int .i64 0, .int .i64 0, .int .i64 0, .int .i64 0, .int .i64 0] 45)) = w4.alloc (.cells (arr (List.replicate 6 0)) 45) := rfl
              clear cc
              go_wp2_with (first
                | (refine wpList_store_row rfl 45 (.tmp 9) (.tmp 26) rfl w4.heap.size (arr (sixL b)) rfl rfl 45 _ N0.out HSx.out HTx.out (arr_one _) ?_) | fail)
              refine (CM _).mono ?_
              rintro e w7 ⟨rfl, hb7⟩
              have HB := tr HB hb7
              clear CM
              go_wp2
              go_roundw
              case rel => exact ⟨k + 1, by omega, by have := HJ.out; first | (go_num; done) | (rw [← HJ.out]; rfl), G, HB⟩
              case measure => have := HJ.out; simp [intOf]; omega
            · have f3 : (z != a) = true := by simp [hza]
              have E := Lib.hid (ST.out (by rw [E2.out]; simpa using fun h => hza h.symm))
              clear y0 y1 y2 hza
              have HSx := Lib.hid (show (Tryz.prog.info? 45).map (·.size) = some (arr (sixL b)).size by rw [arr_size, sixL_length]; exact info_six)
              have HTx := Lib.hid (show (arr (List.replicate 6 0)).size = (arr (sixL b)).size by rw [arr_size, arr_size, sixL_length]; rfl)
              go_wp2_with fail
              refine (refSix_any b Hb.out _).mono ?_
              rintro e w4 ⟨rfl, hb4⟩
              have N0 := Lib.hid (Blk.new w4 45 (arr (List.replicate 6 0)))
              have HX := Lib.hid (show Blk ((w4.alloc (.cells (arr (List.replicate 6 0)) 45)).setRow w4.heap.size (arr (sixL b))) w4.heap.size 45 (arr (sixL b)) from N0.out.row _)
              have hb6 : Below w4.heap.size w4 ((w4.alloc (.cells (arr (List.replicate 6 0)) 45)).setRow w4.heap.size (arr (sixL b))) := below_setRow ((Below.refl _ _).alloc (Nat.le_refl _) _) (Nat.le_refl _) _
              have cc : ∀ i, i < 6 → ((w4.alloc (.cells (arr [0, 0, 0, 0, 0, 0]) 45)).setRow w4.heap.size (arr (sixL b))).cell? ⟨w4.heap.size, i, none⟩ = some (.int .i64 (nth (sixL b) i)) := fun i hi => by
                have := HX.out.cell i
                rw [arr_get (by rw [sixL_length]; exact hi)] at this
                exact this
              have k0 := cc 0 (by omega); have k1 := cc 1 (by omega); have k2 := cc 2 (by omega); have k3 := cc 3 (by omega); have k4 := cc 4 (by omega); have k5 := cc 5 (by omega)
              rw [L0.out] at k0
              rw [L1.out] at k1
              rw [L2.out] at k2
              rw [L3.out] at k3
              rw [L4.out] at k4
              rw [L5.out] at k5
              have HB := tr (tr hb hb4) hb6
              have e9 : (w4.alloc (.cells #[.int .i64 0, .int .i64 0, .int .i64 0, .int .i64 0, .int .i64 0, .int .i64 0] 45)) = w4.alloc (.cells (arr (List.replicate 6 0)) 45) := rfl
              clear cc
              go_wp2_with (first
                | (refine wpList_store_row rfl 45 (.tmp 9) (.tmp 26) rfl w4.heap.size (arr (sixL b)) rfl rfl 45 _ N0.out HSx.out HTx.out (arr_one _) ?_) | fail)
              refine (CM _).mono ?_
              rintro e w7 ⟨rfl, hb7⟩
              have HB := tr HB hb7
              clear CM
              go_wp2
              go_ret
              exact ⟨by rw [E.out]; rfl, HB⟩
          · have f2 : (l2 != l5) = true := by simp [y2]
            have E := Lib.hid (ST.out (by rw [E1.out, HD.out]; simp [y2]))
            clear y0 y1 y2
            have HSx := Lib.hid (show (Tryz.prog.info? 45).map (·.size) = some (arr (sixL b)).size by rw [arr_size, sixL_length]; exact info_six)
            have HTx := Lib.hid (show (arr (List.replicate 6 0)).size = (arr (sixL b)).size by rw [arr_size, arr_size, sixL_length]; rfl)
            go_wp2_with fail
            refine (refSix_any b Hb.out _).mono ?_
            rintro e w4 ⟨rfl, hb4⟩
            have N0 := Lib.hid (Blk.new w4 45 (arr (List.replicate 6 0)))
            have HX := Lib.hid (show Blk ((w4.alloc (.cells (arr (List.replicate 6 0)) 45)).setRow w4.heap.size (arr (sixL b))) w4.heap.size 45 (arr (sixL b)) from N0.out.row _)
            have hb6 : Below w4.heap.size w4 ((w4.alloc (.cells (arr (List.replicate 6 0)) 45)).setRow w4.heap.size (arr (sixL b))) := below_setRow ((Below.refl _ _).alloc (Nat.le_refl _) _) (Nat.le_refl _) _
            have cc : ∀ i, i < 6 → ((w4.alloc (.cells (arr [0, 0, 0, 0, 0, 0]) 45)).setRow w4.heap.size (arr (sixL b))).cell? ⟨w4.heap.size, i, none⟩ = some (.int .i64 (nth (sixL b) i)) := fun i hi => by
              have := HX.out.cell i
              rw [arr_get (by rw [sixL_length]; exact hi)] at this
              exact this
            have k0 := cc 0 (by omega); have k1 := cc 1 (by omega); have k2 := cc 2 (by omega); have k3 := cc 3 (by omega); have k4 := cc 4 (by omega); have k5 := cc 5 (by omega)
            rw [L0.out] at k0
            rw [L1.out] at k1
            rw [L2.out] at k2
            rw [L3.out] at k3
            rw [L4.out] at k4
            rw [L5.out] at k5
            have HB := tr (tr hb hb4) hb6
            have e9 : (w4.alloc (.cells #[.int .i64 0, .int .i64 0, .int .i64 0, .int .i64 0, .int .i64 0, .int .i64 0] 45)) = w4.alloc (.cells (arr (List.replicate 6 0)) 45) := rfl
            clear cc
            go_wp2_with (first
              | (refine wpList_store_row rfl 45 (.tmp 9) (.tmp 26) rfl w4.heap.size (arr (sixL b)) rfl rfl 45 _ N0.out HSx.out HTx.out (arr_one _) ?_) | fail)
            go_ret
            exact ⟨by rw [E.out]; rfl, HB⟩
        · have f1 : (l1 != l4) = true := by simp [y1]
          have E := Lib.hid (ST.out (by rw [E1.out, HD.out]; simp [y1]))
          clear y0 y1
          have HSx := Lib.hid (show (Tryz.prog.info? 45).map (·.size) = some (arr (sixL b)).size by rw [arr_size, sixL_length]; exact info_six)
          have HTx := Lib.hid (show (arr (List.replicate 6 0)).size = (arr (sixL b)).size by rw [arr_size, arr_size, sixL_length]; rfl)
          go_wp2_with fail
          refine (refSix_any b Hb.out _).mono ?_
          rintro e w4 ⟨rfl, hb4⟩
          have N0 := Lib.hid (Blk.new w4 45 (arr (List.replicate 6 0)))
          have HX := Lib.hid (show Blk ((w4.alloc (.cells (arr (List.replicate 6 0)) 45)).setRow w4.heap.size (arr (sixL b))) w4.heap.size 45 (arr (sixL b)) from N0.out.row _)
          have hb6 : Below w4.heap.size w4 ((w4.alloc (.cells (arr (List.replicate 6 0)) 45)).setRow w4.heap.size (arr (sixL b))) := below_setRow ((Below.refl _ _).alloc (Nat.le_refl _) _) (Nat.le_refl _) _
          have cc : ∀ i, i < 6 → ((w4.alloc (.cells (arr [0, 0, 0, 0, 0, 0]) 45)).setRow w4.heap.size (arr (sixL b))).cell? ⟨w4.heap.size, i, none⟩ = some (.int .i64 (nth (sixL b) i)) := fun i hi => by
            have := HX.out.cell i
            rw [arr_get (by rw [sixL_length]; exact hi)] at this
            exact this
          have k0 := cc 0 (by omega); have k1 := cc 1 (by omega); have k2 := cc 2 (by omega); have k3 := cc 3 (by omega); have k4 := cc 4 (by omega); have k5 := cc 5 (by omega)
          rw [L0.out] at k0
          rw [L1.out] at k1
          rw [L2.out] at k2
          rw [L3.out] at k3
          rw [L4.out] at k4
          rw [L5.out] at k5
          have HB := tr (tr hb hb4) hb6
          have e9 : (w4.alloc (.cells #[.int .i64 0, .int .i64 0, .int .i64 0, .int .i64 0, .int .i64 0, .int .i64 0] 45)) = w4.alloc (.cells (arr (List.replicate 6 0)) 45) := rfl
          clear cc
          go_wp2_with (first
            | (refine wpList_store_row rfl 45 (.tmp 9) (.tmp 26) rfl w4.heap.size (arr (sixL b)) rfl rfl 45 _ N0.out HSx.out HTx.out (arr_one _) ?_) | fail)
          go_ret
          exact ⟨by rw [E.out]; rfl, HB⟩
      · have f0 : (l0 != l3) = true := by simp [y0]
        have E := Lib.hid (ST.out (by rw [E1.out, HD.out]; simp [y0]))
        clear y0
        have HSx := Lib.hid (show (Tryz.prog.info? 45).map (·.size) = some (arr (sixL b)).size by rw [arr_size, sixL_length]; exact info_six)
        have HTx := Lib.hid (show (arr (List.replicate 6 0)).size = (arr (sixL b)).size by rw [arr_size, arr_size, sixL_length]; rfl)
        go_wp2_with fail
        refine (refSix_any b Hb.out _).mono ?_
        rintro e w4 ⟨rfl, hb4⟩
        have N0 := Lib.hid (Blk.new w4 45 (arr (List.replicate 6 0)))
        have HX := Lib.hid (show Blk ((w4.alloc (.cells (arr (List.replicate 6 0)) 45)).setRow w4.heap.size (arr (sixL b))) w4.heap.size 45 (arr (sixL b)) from N0.out.row _)
        have hb6 : Below w4.heap.size w4 ((w4.alloc (.cells (arr (List.replicate 6 0)) 45)).setRow w4.heap.size (arr (sixL b))) := below_setRow ((Below.refl _ _).alloc (Nat.le_refl _) _) (Nat.le_refl _) _
        have cc : ∀ i, i < 6 → ((w4.alloc (.cells (arr [0, 0, 0, 0, 0, 0]) 45)).setRow w4.heap.size (arr (sixL b))).cell? ⟨w4.heap.size, i, none⟩ = some (.int .i64 (nth (sixL b) i)) := fun i hi => by
          have := HX.out.cell i
          rw [arr_get (by rw [sixL_length]; exact hi)] at this
          exact this
        have k0 := cc 0 (by omega); have k1 := cc 1 (by omega); have k2 := cc 2 (by omega); have k3 := cc 3 (by omega); have k4 := cc 4 (by omega); have k5 := cc 5 (by omega)
        rw [L0.out] at k0
        rw [L1.out] at k1
        rw [L2.out] at k2
        rw [L3.out] at k3
        rw [L4.out] at k4
        rw [L5.out] at k5
        have HB := tr (tr hb hb4) hb6
        have e9 : (w4.alloc (.cells #[.int .i64 0, .int .i64 0, .int .i64 0, .int .i64 0, .int .i64 0, .int .i64 0] 45)) = w4.alloc (.cells (arr (List.replicate 6 0)) 45) := rfl
        clear cc
        go_wp2_with (first
          | (refine wpList_store_row rfl 45 (.tmp 9) (.tmp 26) rfl w4.heap.size (arr (sixL b)) rfl rfl 45 _ N0.out HSx.out HTx.out (arr_one _) ?_) | fail)
        go_ret
        exact ⟨by rw [E.out]; rfl, HB⟩
    · obtain rfl : k = 64 := by omega
      have E := Lib.hid (HN.out HK.out)
      go_wp2
      go_ret
      exact ⟨by rw [E.out]; rfl, hb⟩
end Go.Proofs.YtoeflgmdaaefeaaGreatDoor
