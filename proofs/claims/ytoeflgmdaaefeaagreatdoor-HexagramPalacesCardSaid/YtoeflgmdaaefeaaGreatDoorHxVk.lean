/-
  Package hexagram: the conditions that an order keeps a rule at a place.
-/
import Derived.Test.YtoeflgmdaaefeaaGreatDoorHxPa
import Derived.Test.YtoeflgmdaaefeaaGreatDoorHxE
import Derived.Deep.RegionHeld3
namespace Go.Proofs.YtoeflgmdaaefeaaGreatDoor
open Go Go.RowKit
set_option linter.unusedVariables false
set_option linter.unusedSimpArgs false

/-- A hexagram upside down, or its opposite. -/
def partV (h : Int) : Int := if opV h 0 = h then opV h 1 else opV h 0
set_option maxHeartbeats 1000000 in
theorem partner_any (h : Int) (hh : Hex h) (w : World) (hs : Src w) :
    Calls Tryz.prog 68 #[.int .i64 h] w fun e w' => e = .returned (.int .i64 (partV h)) ∧ Below w.heap.size w w' := by
  have C := operate_any h 0 (by omega) hh w hs
  have D := fun (V : World) (hV : Src V) => operate_any h 1 (by omega) hh V hV
  have E := Lib.hid (show partV h = if opV h 0 = h then opV h 1 else opV h 0 from rfl)
  obtain ⟨a, ha⟩ : ∃ a, opV h 0 = a := ⟨_, rfl⟩
  obtain ⟨b, hb⟩ : ∃ b, opV h 1 = b := ⟨_, rfl⟩
  rw [ha] at C E
  rw [hb] at D E
  clear ha hb
  by_cases hah : a = h
  · have E1 := Lib.hid (show partV h = b by rw [E.out, if_pos hah])
    have e1 : (a != h) = false := by simp [hah]
    clear hah
    go_enter Tryz.func68, Tryz.ntmps68
    go_wp2_with fail
    refine C.mono ?_
    rintro e w1 ⟨rfl, hb1⟩
    go_wp2_with fail
    refine (D _ (hs.below hb1 (Nat.le_refl _))).mono ?_
    rintro e w2 ⟨rfl, hb2⟩
    clear C D
    go_wp2
    go_ret
    exact ⟨by rw [E1.out]; rfl, tr hb1 hb2⟩
  · have E1 := Lib.hid (show partV h = a by rw [E.out, if_neg hah])
    have e1 : (a != h) = true := by simp [hah]
    clear hah
    go_enter Tryz.func68, Tryz.ntmps68
    go_wp2_with fail
    refine C.mono ?_
    rintro e w1 ⟨rfl, hb1⟩
    clear C D
    go_wp2
    go_ret
    exact ⟨by rw [E1.out]; rfl, hb1⟩

theorem keepC {w W W' : World} {a1 a2 a3 : Addr} {v1 v2 v3 : Value} (h : W.cell? a1 = some v1 ∧ W.cell? a2 = some v2 ∧ W.cell? a3 = some v3 ∧ Below w.heap.size w W) (hb : Below W.heap.size W W') : W'.cell? a1 = some v1 ∧ W'.cell? a2 = some v2 ∧ W'.cell? a3 = some v3 ∧ Below w.heap.size w W' :=
  ⟨cell_tr hb h.1, cell_tr hb h.2.1, cell_tr hb h.2.2.1, tr h.2.2.2 hb⟩

def keep1 (xs : List Int) (k : Nat) : Bool := (k % 2 == 1) || (nth xs (k + 1) == partV (nth xs k))
def keep2 (xs : List Int) (k : Nat) : Bool := nth xs (63 - k) == opV (nth xs k) 1
def keep3 (xs : List Int) (k : Nat) : Bool := headB (nth xs (k - k % 8)) && (nth xs k == memV (nth xs (k - k % 8)) (k % 8))

set_option maxRecDepth 100000 in
set_option maxHeartbeats 2000000 in
theorem keep2_any (k B c : Nat) (p : Option Addr) (xs : List Int) (hk : k < 64) (hlen : Hid (xs.length = 64)) (hx : Hid (∀ k, k < 64 → Hex (nth xs k))) (w : World) (hc : w.cell? ⟨B, 0, none⟩ = some (.slice p 64 c)) (hR : Reads w p xs) (hs : Src w) :
    Calls Tryz.prog 69 #[.int .i64 k, .pointer (some ⟨B, 0, none⟩)] w fun e w' => e = .returned (.bool (keep2 xs k)) ∧ Below w.heap.size w w' := by
  obtain ⟨q, o, rfl, c1⟩ := hR k (by have := hlen.out; omega)
  obtain ⟨_, _, e0, c2⟩ := hR (63 - k) (by have := hlen.out; omega)
  cases e0
  have C := fun (V : World) (hV : Src V) => operate_any (nth xs k) 1 (by omega) (hx.out k hk) V hV
  have E := Lib.hid (show keep2 xs k = (nth xs (63 - k) == opV (nth xs k) 1) from rfl)
  obtain ⟨j, hj⟩ : ∃ j, 63 - k = j := ⟨_, rfl⟩
  have e1 : IntKind.i64.wrap (63 - (k : Int)) = (j : Int) := by rw [← hj, show (63 : Int) - (k : Int) = ((63 - k : Nat) : Int) by omega]; exact IntWalk.i64_in _ (by omega)
  have hj2 : (j : Int) < 64 := by omega
  have hk2 : (k : Int) < 64 := by omega
  rw [hj] at c2 E
  obtain ⟨a, ha⟩ : ∃ a, nth xs k = a := ⟨_, rfl⟩
  obtain ⟨b, hb⟩ : ∃ b, nth xs j = b := ⟨_, rfl⟩
  obtain ⟨d, hd⟩ : ∃ d, opV (nth xs k) 1 = d := ⟨_, rfl⟩
  rw [hd] at C E
  rw [ha] at c1 C
  rw [hb] at c2 E
  clear hj ha hb hd hR
  go_enter Tryz.func69, Tryz.ntmps69
  go_wp2
  go_region_held3 (fun w' => w'.cell? ⟨B, 0, none⟩ = some (.slice (some ⟨q, o, none⟩) 64 c) ∧ w'.cell? ⟨q, o + k, none⟩ = some (.int .i64 a) ∧ w'.cell? ⟨q, o + j, none⟩ = some (.int .i64 b) ∧ Below w.heap.size w w')
    (first | exact ⟨hc, c1, c2, (Below.refl _ _).drew⟩ | assumption | exact keepC (by assumption) hbk | exact keepC (W := w.drew) ⟨hc, c1, c2, (Below.refl _ _).drew⟩ hbk)
    (first
      | (go_at_call 53; refine (C _ ?hV).mono ?_; (case hV => first | exact hs | exact hs.below (by assumption) (Nat.le_refl _) | skip); rintro e w' ⟨rfl, hbk⟩))
  rename_i hh
  obtain ⟨_, _, _, hz⟩ := hh
  go_wp2
  go_ret
  exact ⟨by rw [E.out]; rfl, hz⟩

set_option maxRecDepth 100000 in
set_option maxHeartbeats 2000000 in
theorem keep1_odd (k B c : Nat) (p : Option Addr) (xs : List Int) (hk : k < 64) (h1 : k % 2 = 1) (w : World) (hc : w.cell? ⟨B, 0, none⟩ = some (.slice p 64 c)) :
    Calls Tryz.prog 67 #[.int .i64 k, .pointer (some ⟨B, 0, none⟩)] w fun e w' => e = .returned (.bool (keep1 xs k)) ∧ Below w.heap.size w w' := by
  have E := Lib.hid (show keep1 xs k = true by unfold keep1; rw [h1]; rfl)
  have hk2 : (k : Int) % 2 = 1 := by omega
  have hk2' : (k : Int).tmod 2 = 1 := by rw [Int.tmod_eq_emod_of_nonneg (by omega)]; exact hk2
  clear h1
  go_enter Tryz.func67, Tryz.ntmps67
  go_wp2
  refine wp_region_held_drew (S := fun w' => Below w.heap.size w w') (by kernel_rfl) (Below.refl _ _).drew (fun hHeld => ?_)
  generalize hWd : w.drew = W at *
  refine wpAnyH_take (i := 0) (v := .int .i64 k) rfl (by kernel_rfl) (by kernel_rfl) (by kernel_rfl) (fun _ _ _ h => h) (Or.inl ⟨by rfl, fun w hSw => by go_simp⟩) (by assumption) ?_
  (try simp only [Act.put, List.setIfInBounds_toArray, List.set_cons_zero, List.set_cons_succ, List.getElem_toArray, List.getElem_cons_succ, List.getElem_cons_zero])
  refine wpAnyH_take (i := 1) (v := .int .i64 1) rfl (by kernel_rfl) (by kernel_rfl) (by kernel_rfl) (fun _ _ _ h => h) (Or.inl ⟨by rfl, fun w hSw => by go_simp⟩) (by assumption) ?_
  (try simp only [Act.put, List.setIfInBounds_toArray, List.set_cons_zero, List.set_cons_succ, List.getElem_toArray, List.getElem_cons_succ, List.getElem_cons_zero])
  refine wpAnyH_take (i := 2) (v := .bool true) rfl (by kernel_rfl) (by kernel_rfl) (by kernel_rfl) (fun _ _ _ h => h) (Or.inl ⟨by rfl, fun w hSw => by go_simp⟩) (by assumption) ?_
  (try simp only [Act.put, List.setIfInBounds_toArray, List.set_cons_zero, List.set_cons_succ, List.getElem_toArray, List.getElem_cons_succ, List.getElem_cons_zero])
  refine wpAnyH_take (i := 3) (v := .bool true) rfl (by kernel_rfl) (by kernel_rfl) (by kernel_rfl) (fun _ _ _ h => h) (Or.inl ⟨by rfl, fun w hSw => by go_simp⟩) (by assumption) ?_
  (try simp only [Act.put, List.setIfInBounds_toArray, List.set_cons_zero, List.set_cons_succ, List.getElem_toArray, List.getElem_cons_succ, List.getElem_cons_zero])
  refine wpAnyH_take (i := 4) (v := undef) rfl (by kernel_rfl) (by kernel_rfl) (by kernel_rfl) (fun _ _ _ h => h) (Or.inr ⟨by rfl, rfl⟩) (by assumption) ?_
  (try simp only [Act.put, List.setIfInBounds_toArray, List.set_cons_zero, List.set_cons_succ, List.getElem_toArray, List.getElem_cons_succ, List.getElem_cons_zero])
  refine wpAnyH_take (i := 5) (v := undef) rfl (by kernel_rfl) (by kernel_rfl) (by kernel_rfl) (fun _ _ _ h => h) (Or.inr ⟨by rfl, rfl⟩) (by assumption) ?_
  (try simp only [Act.put, List.setIfInBounds_toArray, List.set_cons_zero, List.set_cons_succ, List.getElem_toArray, List.getElem_cons_succ, List.getElem_cons_zero])
  refine wpAnyH_take (i := 6) (v := undef) rfl (by kernel_rfl) (by kernel_rfl) (by kernel_rfl) (fun _ _ _ h => h) (Or.inr ⟨by rfl, rfl⟩) (by assumption) ?_
  (try simp only [Act.put, List.setIfInBounds_toArray, List.set_cons_zero, List.set_cons_succ, List.getElem_toArray, List.getElem_cons_succ, List.getElem_cons_zero])
  refine wpAnyH_take (i := 7) (v := undef) rfl (by kernel_rfl) (by kernel_rfl) (by kernel_rfl) (fun _ _ _ h => h) (Or.inr ⟨by rfl, rfl⟩) (by assumption) ?_
  (try simp only [Act.put, List.setIfInBounds_toArray, List.set_cons_zero, List.set_cons_succ, List.getElem_toArray, List.getElem_cons_succ, List.getElem_cons_zero])
  refine wpAnyH_take (i := 8) (v := undef) rfl (by kernel_rfl) (by kernel_rfl) (by kernel_rfl) (fun _ _ _ h => h) (Or.inr ⟨by rfl, rfl⟩) (by assumption) ?_
  (try simp only [Act.put, List.setIfInBounds_toArray, List.set_cons_zero, List.set_cons_succ, List.getElem_toArray, List.getElem_cons_succ, List.getElem_cons_zero])
  refine wpAnyH_take (i := 9) (v := undef) rfl (by kernel_rfl) (by kernel_rfl) (by kernel_rfl) (fun _ _ _ h => h) (Or.inr ⟨by rfl, rfl⟩) (by assumption) ?_
  (try simp only [Act.put, List.setIfInBounds_toArray, List.set_cons_zero, List.set_cons_succ, List.getElem_toArray, List.getElem_cons_succ, List.getElem_cons_zero])
  refine wpAnyH_take (i := 10) (v := undef) rfl (by kernel_rfl) (by kernel_rfl) (by kernel_rfl) (fun _ _ _ h => h) (Or.inr ⟨by rfl, rfl⟩) (by assumption) ?_
  (try simp only [Act.put, List.setIfInBounds_toArray, List.set_cons_zero, List.set_cons_succ, List.getElem_toArray, List.getElem_cons_succ, List.getElem_cons_zero])
  refine wpAnyH_take (i := 11) (v := undef) rfl (by kernel_rfl) (by kernel_rfl) (by kernel_rfl) (fun _ _ _ h => h) (Or.inr ⟨by rfl, rfl⟩) (by assumption) ?_
  (try simp only [Act.put, List.setIfInBounds_toArray, List.set_cons_zero, List.set_cons_succ, List.getElem_toArray, List.getElem_cons_succ, List.getElem_cons_zero])
  refine wpAnyH_take (i := 12) (v := undef) rfl (by kernel_rfl) (by kernel_rfl) (by kernel_rfl) (fun _ _ _ h => h) (Or.inr ⟨by rfl, rfl⟩) (by assumption) ?_
  (try simp only [Act.put, List.setIfInBounds_toArray, List.set_cons_zero, List.set_cons_succ, List.getElem_toArray, List.getElem_cons_succ, List.getElem_cons_zero])
  refine wpAnyH_take (i := 13) (v := undef) rfl (by kernel_rfl) (by kernel_rfl) (by kernel_rfl) (fun _ _ _ h => h) (Or.inr ⟨by rfl, rfl⟩) (by assumption) ?_
  (try simp only [Act.put, List.setIfInBounds_toArray, List.set_cons_zero, List.set_cons_succ, List.getElem_toArray, List.getElem_cons_succ, List.getElem_cons_zero])
  refine wpAnyH_take (i := 14) (v := undef) rfl (by kernel_rfl) (by kernel_rfl) (by kernel_rfl) (fun _ _ _ h => h) (Or.inr ⟨by rfl, rfl⟩) (by assumption) ?_
  (try simp only [Act.put, List.setIfInBounds_toArray, List.set_cons_zero, List.set_cons_succ, List.getElem_toArray, List.getElem_cons_succ, List.getElem_cons_zero])
  refine wpAnyH_take (i := 15) (v := .bool true) rfl (by kernel_rfl) (by kernel_rfl) (by kernel_rfl) (fun _ _ _ h => h) (Or.inl ⟨by rfl, fun w hSw => by go_simp⟩) (by assumption) ?_
  (try simp only [Act.put, List.setIfInBounds_toArray, List.set_cons_zero, List.set_cons_succ, List.getElem_toArray, List.getElem_cons_succ, List.getElem_cons_zero])
  refine wpAnyH_take (i := 16) (v := .bool true) rfl (by kernel_rfl) (by kernel_rfl) (by kernel_rfl) (fun _ _ _ h => h) (Or.inl ⟨by rfl, fun w hSw => by go_simp⟩) (by assumption) ?_
  (try simp only [Act.put, List.setIfInBounds_toArray, List.set_cons_zero, List.set_cons_succ, List.getElem_toArray, List.getElem_cons_succ, List.getElem_cons_zero])
  refine wpAnyH_done (by kernel_rfl) ?_ _
  go_wp2
  go_ret
  exact ⟨by rw [E.out]; rfl, hWd ▸ (Below.refl _ _).drew⟩

set_option maxRecDepth 100000 in
set_option maxHeartbeats 2000000 in
theorem keep1_even (k B c : Nat) (p : Option Addr) (xs : List Int) (hk : k < 64) (h1 : k % 2 = 0) (hlen : Hid (xs.length = 64)) (hx : Hid (∀ k, k < 64 → Hex (nth xs k))) (w : World) (hc : w.cell? ⟨B, 0, none⟩ = some (.slice p 64 c)) (hR : Reads w p xs) (hs : Src w) :
    Calls Tryz.prog 67 #[.int .i64 k, .pointer (some ⟨B, 0, none⟩)] w fun e w' => e = .returned (.bool (keep1 xs k)) ∧ Below w.heap.size w w' := by
  obtain ⟨q, o, rfl, c1⟩ := hR k (by have := hlen.out; omega)
  obtain ⟨_, _, e0, c2⟩ := hR (k + 1) (by have := hlen.out; omega)
  cases e0
  have C := fun (V : World) (hV : Src V) => partner_any (nth xs k) (hx.out k hk) V hV
  have E := Lib.hid (show keep1 xs k = (nth xs (k + 1) == partV (nth xs k)) by unfold keep1; rw [h1]; rfl)
  have hk2 : (k : Int) % 2 = 0 := by omega
  have hk2' : (k : Int).tmod 2 = 0 := by rw [Int.tmod_eq_emod_of_nonneg (by omega)]; exact hk2
  obtain ⟨j, hj⟩ : ∃ j, k + 1 = j := ⟨_, rfl⟩
  have e1 : IntKind.i64.wrap ((k : Int) + 1) = (j : Int) := by rw [← hj, show (k : Int) + 1 = ((k + 1 : Nat) : Int) by omega]; exact IntWalk.i64_in _ (by omega)
  have hj2 : (j : Int) < 64 := by omega
  have hk3 : (k : Int) < 64 := by omega
  rw [hj] at c2 E
  obtain ⟨a, ha⟩ : ∃ a, nth xs k = a := ⟨_, rfl⟩
  obtain ⟨b, hb⟩ : ∃ b, nth xs j = b := ⟨_, rfl⟩
  obtain ⟨d, hd⟩ : ∃ d, partV (nth xs k) = d := ⟨_, rfl⟩
  rw [hd] at C E
  rw [ha] at c1 C
  rw [hb] at c2 E
  clear hj ha hb hd hR h1
  go_enter Tryz.func67, Tryz.ntmps67
  go_wp2
  go_region_held3 (fun w' => w'.cell? ⟨B, 0, none⟩ = some (.slice (some ⟨q, o, none⟩) 64 c) ∧ w'.cell? ⟨q, o + k, none⟩ = some (.int .i64 a) ∧ w'.cell? ⟨q, o + j, none⟩ = some (.int .i64 b) ∧ Below w.heap.size w w')
    (first | exact ⟨hc, c1, c2, (Below.refl _ _).drew⟩ | assumption | exact keepC (by assumption) hbk | exact keepC (W := w.drew) ⟨hc, c1, c2, (Below.refl _ _).drew⟩ hbk)
    (first
      | (go_at_call 68; refine (C _ ?hV).mono ?_; (case hV => first | exact hs | exact hs.below (by assumption) (Nat.le_refl _) | skip); rintro e w' ⟨rfl, hbk⟩))
  rename_i hh
  obtain ⟨_, _, _, hz⟩ := hh
  go_wp2
  go_ret
  exact ⟨by rw [E.out]; rfl, hz⟩

theorem keepD {w W W' : World} {a1 a2 a3 : Addr} {v1 v2 v3 : Value} (h : W.cell? a1 = some v1 ∧ W.cell? a2 = some v2 ∧ W.cell? a3 = some v3 ∧ Below w.heap.size w W) (hb : Below W.heap.size W W') : W'.cell? a1 = some v1 ∧ W'.cell? a2 = some v2 ∧ W'.cell? a3 = some v3 ∧ Below w.heap.size w W' := keepC h hb

set_option maxRecDepth 100000 in
set_option maxHeartbeats 2000000 in
theorem keep3_any (k B c : Nat) (p : Option Addr) (xs : List Int) (hk : k < 64) (hlen : Hid (xs.length = 64)) (hx : Hid (∀ k, k < 64 → Hex (nth xs k))) (w : World) (hc : w.cell? ⟨B, 0, none⟩ = some (.slice p 64 c)) (hR : Reads w p xs) (hs : Src w) (ht : Trn w) :
    Calls Tryz.prog 70 #[.int .i64 k, .pointer (some ⟨B, 0, none⟩)] w fun e w' => e = .returned (.bool (keep3 xs k)) ∧ Below w.heap.size w w' := by
  obtain ⟨q, o, rfl, c1⟩ := hR k (by have := hlen.out; omega)
  obtain ⟨_, _, e0, c2⟩ := hR (k - k % 8) (by have := hlen.out; omega)
  cases e0
  have c3 := ht (k % 8) (by omega)
  have C := fun (V : World) (hV : Src V) => heads_any (nth xs (k - k % 8)) (hx.out _ (by omega)) V hV
  have E := Lib.hid (show keep3 xs k = (headB (nth xs (k - k % 8)) && (nth xs k == bits BinOp.xor IntKind.i64 (nth xs (k - k % 8)) (nth trnL (k % 8)))) from rfl)
  obtain ⟨s, hsd⟩ : ∃ s, k % 8 = s := ⟨_, rfl⟩
  have hk2 : (k : Int) % 8 = (s : Int) := by omega
  have hs8 : (s : Int) < 8 := by omega
  rw [hsd] at c2 c3 C E
  obtain ⟨j, hj⟩ : ∃ j, k - s = j := ⟨_, rfl⟩
  have e1 : IntKind.i64.wrap ((k : Int) - (s : Int)) = (j : Int) := by rw [← hj, show (k : Int) - (s : Int) = ((k - s : Nat) : Int) by omega]; exact IntWalk.i64_in _ (by omega)
  have hj2 : (j : Int) < 64 := by omega
  have hk3 : (k : Int) < 64 := by omega
  rw [hj] at c2 C E
  obtain ⟨a, ha⟩ : ∃ a, nth xs k = a := ⟨_, rfl⟩
  obtain ⟨b, hb⟩ : ∃ b, nth xs j = b := ⟨_, rfl⟩
  obtain ⟨d, hd⟩ : ∃ d, nth trnL s = d := ⟨_, rfl⟩
  rw [ha] at c1 E
  rw [hb] at c2 C E
  rw [hd] at c3 E
  clear hj ha hb hd hR ht hsd
  cases hB : headB b
  · have E2 := Lib.hid (show keep3 xs k = false by rw [E.out, hB]; rfl)
    rw [hB] at C
    clear hB
    go_enter Tryz.func70, Tryz.ntmps70
    go_wp2
    refine wp_region_held_drew (S := fun w' => Below w.heap.size w w') (by kernel_rfl) (Below.refl _ _).drew (fun hHeld => ?_)
    refine wpAnyH_take (i := 0) (v := .int .i64 b) rfl (by kernel_rfl) (by kernel_rfl) (by kernel_rfl) (fun _ _ _ h => h) (Or.inl ⟨by rfl, fun w hSw => by go_simp⟩) (by assumption) ?_
    (try simp only [Act.put, List.setIfInBounds_toArray, List.set_cons_zero, List.set_cons_succ, List.getElem_toArray, List.getElem_cons_succ, List.getElem_cons_zero])
    refine wpAnyH_ready (rs := [1]) (by kernel_rfl) (by simp) (AllReadyH.cons rfl (fun K hK => ?_) AllReadyH.nil)
    go_simp
    (go_at_call 43; refine (C _ (hs.below (Below.refl _ _).drew (Nat.le_refl _))).mono ?_; rintro e w1 ⟨rfl, hbk⟩)
    have hB1 : Below w.heap.size w w1 := tr (A := w) (Below.refl _ _).drew hbk
    refine hK.out _ _ hB1 (fun hHeld => ?_)
    clear hK K
    (try simp only [Act.put, List.setIfInBounds_toArray, List.set_cons_zero, List.set_cons_succ, List.getElem_toArray, List.getElem_cons_succ, List.getElem_cons_zero])
    refine wpAnyH_take (i := 2) (v := .bool false) rfl (by kernel_rfl) (by kernel_rfl) (by kernel_rfl) (fun _ _ _ h => h) (Or.inl ⟨by rfl, fun w hSw => by go_simp⟩) (by assumption) ?_
    (try simp only [Act.put, List.setIfInBounds_toArray, List.set_cons_zero, List.set_cons_succ, List.getElem_toArray, List.getElem_cons_succ, List.getElem_cons_zero])
    refine wpAnyH_take (i := 3) (v := undef) rfl (by kernel_rfl) (by kernel_rfl) (by kernel_rfl) (fun _ _ _ h => h) (Or.inr ⟨by rfl, rfl⟩) (by assumption) ?_
    (try simp only [Act.put, List.setIfInBounds_toArray, List.set_cons_zero, List.set_cons_succ, List.getElem_toArray, List.getElem_cons_succ, List.getElem_cons_zero])
    refine wpAnyH_take (i := 4) (v := undef) rfl (by kernel_rfl) (by kernel_rfl) (by kernel_rfl) (fun _ _ _ h => h) (Or.inr ⟨by rfl, rfl⟩) (by assumption) ?_
    (try simp only [Act.put, List.setIfInBounds_toArray, List.set_cons_zero, List.set_cons_succ, List.getElem_toArray, List.getElem_cons_succ, List.getElem_cons_zero])
    refine wpAnyH_take (i := 5) (v := undef) rfl (by kernel_rfl) (by kernel_rfl) (by kernel_rfl) (fun _ _ _ h => h) (Or.inr ⟨by rfl, rfl⟩) (by assumption) ?_
    (try simp only [Act.put, List.setIfInBounds_toArray, List.set_cons_zero, List.set_cons_succ, List.getElem_toArray, List.getElem_cons_succ, List.getElem_cons_zero])
    refine wpAnyH_take (i := 6) (v := undef) rfl (by kernel_rfl) (by kernel_rfl) (by kernel_rfl) (fun _ _ _ h => h) (Or.inr ⟨by rfl, rfl⟩) (by assumption) ?_
    (try simp only [Act.put, List.setIfInBounds_toArray, List.set_cons_zero, List.set_cons_succ, List.getElem_toArray, List.getElem_cons_succ, List.getElem_cons_zero])
    refine wpAnyH_take (i := 7) (v := undef) rfl (by kernel_rfl) (by kernel_rfl) (by kernel_rfl) (fun _ _ _ h => h) (Or.inr ⟨by rfl, rfl⟩) (by assumption) ?_
    (try simp only [Act.put, List.setIfInBounds_toArray, List.set_cons_zero, List.set_cons_succ, List.getElem_toArray, List.getElem_cons_succ, List.getElem_cons_zero])
    refine wpAnyH_take (i := 8) (v := undef) rfl (by kernel_rfl) (by kernel_rfl) (by kernel_rfl) (fun _ _ _ h => h) (Or.inr ⟨by rfl, rfl⟩) (by assumption) ?_
    (try simp only [Act.put, List.setIfInBounds_toArray, List.set_cons_zero, List.set_cons_succ, List.getElem_toArray, List.getElem_cons_succ, List.getElem_cons_zero])
    refine wpAnyH_take (i := 9) (v := undef) rfl (by kernel_rfl) (by kernel_rfl) (by kernel_rfl) (fun _ _ _ h => h) (Or.inr ⟨by rfl, rfl⟩) (by assumption) ?_
    (try simp only [Act.put, List.setIfInBounds_toArray, List.set_cons_zero, List.set_cons_succ, List.getElem_toArray, List.getElem_cons_succ, List.getElem_cons_zero])
    refine wpAnyH_take (i := 10) (v := undef) rfl (by kernel_rfl) (by kernel_rfl) (by kernel_rfl) (fun _ _ _ h => h) (Or.inr ⟨by rfl, rfl⟩) (by assumption) ?_
    (try simp only [Act.put, List.setIfInBounds_toArray, List.set_cons_zero, List.set_cons_succ, List.getElem_toArray, List.getElem_cons_succ, List.getElem_cons_zero])
    refine wpAnyH_take (i := 11) (v := undef) rfl (by kernel_rfl) (by kernel_rfl) (by kernel_rfl) (fun _ _ _ h => h) (Or.inr ⟨by rfl, rfl⟩) (by assumption) ?_
    (try simp only [Act.put, List.setIfInBounds_toArray, List.set_cons_zero, List.set_cons_succ, List.getElem_toArray, List.getElem_cons_succ, List.getElem_cons_zero])
    refine wpAnyH_take (i := 12) (v := undef) rfl (by kernel_rfl) (by kernel_rfl) (by kernel_rfl) (fun _ _ _ h => h) (Or.inr ⟨by rfl, rfl⟩) (by assumption) ?_
    (try simp only [Act.put, List.setIfInBounds_toArray, List.set_cons_zero, List.set_cons_succ, List.getElem_toArray, List.getElem_cons_succ, List.getElem_cons_zero])
    refine wpAnyH_take (i := 13) (v := .bool false) rfl (by kernel_rfl) (by kernel_rfl) (by kernel_rfl) (fun _ _ _ h => h) (Or.inl ⟨by rfl, fun w hSw => by go_simp⟩) (by assumption) ?_
    (try simp only [Act.put, List.setIfInBounds_toArray, List.set_cons_zero, List.set_cons_succ, List.getElem_toArray, List.getElem_cons_succ, List.getElem_cons_zero])
    refine wpAnyH_take (i := 14) (v := .bool false) rfl (by kernel_rfl) (by kernel_rfl) (by kernel_rfl) (fun _ _ _ h => h) (Or.inl ⟨by rfl, fun w hSw => by go_simp⟩) (by assumption) ?_
    (try simp only [Act.put, List.setIfInBounds_toArray, List.set_cons_zero, List.set_cons_succ, List.getElem_toArray, List.getElem_cons_succ, List.getElem_cons_zero])
    refine wpAnyH_done (by kernel_rfl) ?_ _
    go_wp2
    go_ret
    exact ⟨by rw [E2.out]; rfl, hB1⟩
  · have E2 := Lib.hid (show keep3 xs k = (a == bits BinOp.xor IntKind.i64 b d) by rw [E.out, hB]; rfl)
    rw [hB] at C
    clear hB
    go_enter Tryz.func70, Tryz.ntmps70
    go_wp2
    go_region_held3 (fun w' => w'.cell? ⟨B, 0, none⟩ = some (.slice (some ⟨q, o, none⟩) 64 c) ∧ w'.cell? ⟨q, o + k, none⟩ = some (.int .i64 a) ∧ w'.cell? ⟨0, s, none⟩ = some (.int .i64 d) ∧ Below w.heap.size w w')
      (first | exact ⟨hc, c1, c3, (Below.refl _ _).drew⟩ | assumption | exact keepC (by assumption) hbk | exact keepC (W := w.drew) ⟨hc, c1, c3, (Below.refl _ _).drew⟩ hbk)
      (first
        | (go_at_call 43; refine (C _ ?hV).mono ?_; (case hV => first | exact hs | exact hs.below (by assumption) (Nat.le_refl _) | skip); rintro e w' ⟨rfl, hbk⟩))
    rename_i hh
    obtain ⟨_, _, _, hz⟩ := hh
    go_wp2
    go_ret
    exact ⟨by rw [E2.out]; rfl, hz⟩
end Go.Proofs.YtoeflgmdaaefeaaGreatDoor
