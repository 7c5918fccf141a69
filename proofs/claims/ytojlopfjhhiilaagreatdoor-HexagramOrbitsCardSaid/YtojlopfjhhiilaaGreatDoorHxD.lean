/-
  Package hexagram: what operations make of hexagrams; chains.
-/
import Derived.Test.YtojlopfjhhiilaaGreatDoorHxC
namespace Go.Proofs.YtojlopfjhhiilaaGreatDoor
open Go Go.RowKit
set_option linter.unusedVariables false

/-- From which line each line comes, for each operation. -/
def srcL : List Int := [5, 4, 3, 2, 1, 0, 0, 1, 2, 3, 4, 5, 3, 4, 5, 0, 1, 2, 1, 2, 3, 2, 3, 4]
/-- The variable of sources holds its table. -/
def Src (w : World) : Prop := ∀ j, j < 24 → w.cell? ⟨0, j, none⟩ = some (.int .i64 (nth srcL j))
theorem Src.below {w w' : World} (h : Src w) {B : Nat} (hb : Below B w w') (hB : w.heap.size ≤ B) : Src w' := fun j hj => by
  have h0 := h j hj
  have := World.block_lt_of_cell? w _ h0
  exact (hb.cell (p := ⟨0, j, none⟩) (by simp at this ⊢; omega)).trans h0
theorem srcL_bd {j : Nat} (h : j < 24) : 0 ≤ nth srcL j ∧ nth srcL j ≤ 5 := by
  have key : ∀ j : Fin 24, 0 ≤ nth srcL j.val ∧ nth srcL j.val ≤ 5 := by decide
  exact key ⟨j, h⟩

/-- What an operation makes of a line, of a hexagram. -/
def opB (h : Int) (o i : Nat) : Bool := bitB h (nth srcL (6 * o + i)) != (o == 1)
def opV (h : Int) (o : Nat) : Int := hexTo (fun i => opB h o i) 6
theorem opV_hex (h : Int) (o : Nat) : Hex (opV h o) := hexTo_bd _ (Nat.le_refl _)

set_option maxHeartbeats 1000000 in
theorem operate1_any (a b : Addr) (h : Int) (o i : Nat) (hi : i < 6) (ho : o < 4) (hh : Hex h) (w : World) (ha : w.cell? a = some (.int .i64 h)) (hb : w.cell? b = some (.int .i64 o)) (hs : Src w) :
    Calls Tryz.prog 69 #[.int .i64 i, .pointer (some a), .pointer (some b)] w fun e w' => e = .returned (.bool (opB h o i)) ∧ ∃ r, w' = w.drewN r := by
  obtain ⟨h0, h1⟩ := hh
  have hc := hs (6 * o + i) (by omega)
  obtain ⟨l0, l1⟩ := srcL_bd (show 6 * o + i < 24 by omega)
  clear hs
  have : o = 0 ∨ o = 1 ∨ o = 2 ∨ o = 3 := by omega
  rcases this with rfl | rfl | rfl | rfl
  all_goals
    simp only [Nat.mul_zero, Nat.zero_add, Nat.mul_one, Nat.reduceMul] at hc l0 l1
    go_enter Tryz.func69, Tryz.ntmps69
    go_wp2
    go_quiet ((go_at_call 70; exact Calls.quiet_of_same ((firm_any _ _ (by omega) (by omega) (by omega) (by omega) _).mono fun _ _ ⟨h, h'⟩ => ⟨h, h'.symm⟩)))
    go_wp2
    go_ret
    exact ⟨by simp [opB], _, rfl⟩

set_option maxHeartbeats 400000 in
theorem operate_any (h : Int) (o : Nat) (ho : o < 4) (hh : Hex h) (w : World) (hs : Src w) :
    Calls Tryz.prog 42 #[.int .i64 h, .int .i64 o] w fun e w' => e = .returned (.int .i64 (opV h o)) ∧ Below w.heap.size w w' := by
  have hB0 : Below w.heap.size w ((w.alloc (.cells #[.int .i64 h] 3)).alloc (.cells #[.int .i64 o] 35)) := ((Below.refl _ _).alloc (Nat.le_refl _) _).alloc (by simp) _
  have hs2 := hs.below hB0 (Nat.le_refl _)
  go_enter Tryz.func42, Tryz.ntmps42
  go_wp2_with fail
  refine (hexagram_operate _ _ (fun i => opB h o i) _ (fun i q hi => ?_)).mono ?_
  · refine (operate1_any _ _ h o i hi ho hh (((w.alloc (.cells #[.int .i64 h] 3)).alloc (.cells #[.int .i64 o] 35)).drewN q) (by go_cell) (by go_cell) hs2).mono ?_
    rintro e w' ⟨rfl, r, rfl⟩
    exact ⟨rfl, q + r, by rw [World.drewN_drewN]⟩
  · rintro e w' ⟨rfl, r, rfl⟩
    go_wp2
    go_ret
    exact ⟨rfl, below_drewN hB0 r⟩

/-- Operations as numbers below 4. -/
def nats (ops : List Int) : List Nat := ops.map Int.toNat
def applyV (h : Int) (ops : List Int) : Int := ops.foldl (fun h o => opV h o.toNat) h
theorem applyV_snoc (h : Int) (ops : List Int) (o : Int) : applyV h (ops ++ [o]) = opV (applyV h ops) o.toNat := by simp [applyV]
theorem applyV_hex {h : Int} (hh : Hex h) (ops : List Int) : Hex (applyV h ops) := by
  unfold applyV
  induction ops generalizing h with
  | nil => exact hh
  | cons o r ih => exact ih (opV_hex h _)
def Opn (xs : List Int) : Prop := ∀ k, k < xs.length → 0 ≤ nth xs k ∧ nth xs k ≤ 3

set_option maxHeartbeats 800000 in
theorem apply_any (h : Int) (p : Option Addr) (ops : List Int) (c : Nat) (hl : ops.length ≤ 1000000) (hh : Hex h) (ho : Opn ops) (w : World) (hR : Reads w p ops) (hs : Src w) :
    Calls Tryz.prog 29 #[.int .i64 h, .slice p ops.length c] w fun e w' => e = .returned (.int .i64 (applyV h ops)) ∧ Below w.heap.size w w' := by
  have Ho := Lib.hid ho
  clear ho
  go_enter Tryz.func29, Tryz.ntmps29
  go_wp2
  go_loopw [0, 9] (fun v i wr => ∃ k : Nat, k ≤ ops.length ∧ i = .int .i64 k ∧ v = .int .i64 (applyV h (ops.take k)) ∧ Below w.heap.size w wr) (fun _ i _ => ops.length - (intOf i).toNat)
  case atStart => exact ⟨0, by omega, rfl, rfl, Below.refl _ _⟩
  case round =>
    obtain ⟨k, hk, rfl, rfl, hB⟩ := hrel
    by_cases hlt : k < ops.length
    · obtain ⟨q, o, rfl, hcell⟩ := hR.below hB (Nat.le_refl _) k hlt
      obtain ⟨o0, o1⟩ := Ho.out k hlt
      obtain ⟨m, hm⟩ := Int.eq_ofNat_of_zero_le o0
      have E := Lib.hid (show applyV h (ops.take (k + 1)) = opV (applyV h (ops.take k)) m by rw [take_succ hlt, applyV_snoc, hm]; rfl)
      rw [hm] at hcell o1
      clear hm o0
      go_wp2_with fail
      refine (operate_any _ m (by omega) (applyV_hex hh _) _ (hs.below hB (Nat.le_refl _))).mono ?_
      rintro e w1 ⟨rfl, hb1⟩
      have hB1 := hB.trans (hb1.mono hB.size)
      clear hB hb1 hcell
      go_wp2
      go_roundw
      case rel => exact ⟨k + 1, by omega, by go_num, by rw [E.out], hB1⟩
      case measure => simp [intOf]; omega
    · obtain rfl : k = ops.length := by omega
      go_wp2
      go_ret
      exact ⟨by rw [List.take_length]; rfl, hB⟩

/-- The error of operations. -/
def opsE (xs : List Int) : Int := if 20 < xs.length then 5 else if anyB (outB 0 3) xs = true then 2 else 0
theorem opsE_zero {xs : List Int} (h : opsE xs = 0) : xs.length ≤ 20 ∧ Opn xs := by
  unfold opsE at h
  split at h
  · simp at h
  · split at h
    · simp at h
    · rename_i h1 h2
      refine ⟨by omega, fun k hk => ?_⟩
      simp [anyB, outB] at h2
      have := h2 _ (nth_mem hk)
      omega
set_option maxHeartbeats 400000 in
theorem checkOps_any (p : Option Addr) (xs : List Int) (c : Nat) (w : World) (hl : xs.length ≤ 9223372036854775807) (hR : Reads w p xs) :
    Calls Tryz.prog 28 #[.slice p xs.length c] w fun e w' => e = .returned (.int .i64 (opsE xs)) ∧ Below w.heap.size w w' := by
  have hb : Below w.heap.size w ((w.alloc (.cells #[.int .i64 0] 35)).alloc (.cells #[.int .i64 3] 35)) := ((Below.refl _ _).alloc (Nat.le_refl _) _).alloc (by simp) _
  have hR2 := hR.below hb (Nat.le_refl _)
  by_cases hlen : 20 < xs.length
  · have E := Lib.hid (show opsE xs = 5 by unfold opsE; rw [if_pos hlen])
    rw [E.out]
    clear E
    go_enter Tryz.func28, Tryz.ntmps28
    go_wp2
    go_ret
    exact ⟨rfl, Below.refl _ _⟩
  · cases ho : anyB (outB 0 3) xs
    all_goals
      have Ho := Lib.hid ho
      unfold opsE
      rw [ho, if_neg hlen]
      clear ho
      go_enter Tryz.func28, Tryz.ntmps28
      go_wp2_with fail
      refine (outside_anyP 0 3 w).mono ?_
      rintro e w' ⟨rfl, rfl⟩
      go_wp2_with fail
      refine (containsFunc_outsideP 0 3 _ _ _ (by go_cell) (by go_cell) p xs c (by omega) hR2).mono ?_
      rintro e w' ⟨rfl, rfl⟩
      rw [Ho.out]
      go_wp2
      go_ret
      exact ⟨rfl, hb⟩

/-- What Apply returns. -/
def applyE (h : Int) (ops : List Int) : Int := if chkH [h] = 0 then opsE ops else chkH [h]
def applyR (h : Int) (ops : List Int) : Int := if applyE h ops = 0 then applyV h ops else 0
set_option maxHeartbeats 800000 in
theorem applyF_any (h : Int) (p : Option Addr) (ops : List Int) (c : Nat) (hl : ops.length ≤ 9223372036854775807) (w : World) (hR : Reads w p ops) (hs : Src w) :
    Calls Tryz.prog 12 #[.int .i64 h, .slice p ops.length c] w fun e w' => e = .returned (.tuple #[.int .i64 (applyR h ops), .int .i64 (applyE h ops)]) ∧ Below w.heap.size w w' := by
  rcases chkH_or [h] with h0 | h0
  · have H := Lib.hid h0
    have hx := chkH_zero h0 0 (by simp)
    simp only [nth, List.getD_cons_zero] at hx
    have E := Lib.hid (show applyE h ops = opsE ops by unfold applyE; rw [if_pos h0])
    clear h0
    by_cases ho : opsE ops = 0
    · have Ho := Lib.hid ho
      obtain ⟨l20, hopn⟩ := opsE_zero ho
      have E2 := Lib.hid (show applyR h ops = applyV h ops by unfold applyR; rw [E.out, if_pos ho])
      clear ho
      go_enter Tryz.func12, Tryz.ntmps12
      go_wp2_with fail
      refine (checkH_any _ [h] 1 _ (by simp) (reads_new w _ [h])).mono ?_
      rintro e w1 ⟨rfl, hb1⟩
      rw [H.out]
      have hb2 : Below w.heap.size w w1 := (below1 _ _).trans (hb1.mono (by simp))
      clear hb1
      go_wp2_with fail
      refine (checkOps_any p ops c _ hl (hR.below hb2 (Nat.le_refl _))).mono ?_
      rintro e w2 ⟨rfl, hb3⟩
      rw [Ho.out]
      have hb4 := tr hb2 hb3
      clear hb2 hb3
      go_wp2_with fail
      refine (apply_any h p ops c (by omega) hx hopn _ (hR.below hb4 (Nat.le_refl _)) (hs.below hb4 (Nat.le_refl _))).mono ?_
      rintro e w3 ⟨rfl, hb5⟩
      go_wp2
      go_ret2
      exact ⟨by rw [E.out, E2.out, Ho.out]; rfl, tr hb4 hb5⟩
    · obtain ⟨v, hv⟩ : ∃ v, opsE ops = v := ⟨_, rfl⟩
      rw [hv] at ho
      have e1 : (v == 0) = false := by simpa using ho
      have e2 : (v != 0) = true := by simpa using ho
      have e3 : decide (v = 0) = false := by simpa using ho
      have Ho := Lib.hid hv
      have E2 := Lib.hid (show applyR h ops = 0 by unfold applyR; rw [E.out, if_neg (by omega)])
      clear ho hv
      go_enter Tryz.func12, Tryz.ntmps12
      go_wp2_with fail
      refine (checkH_any _ [h] 1 _ (by simp) (reads_new w _ [h])).mono ?_
      rintro e w1 ⟨rfl, hb1⟩
      rw [H.out]
      have hb2 : Below w.heap.size w w1 := (below1 _ _).trans (hb1.mono (by simp))
      clear hb1
      go_wp2_with fail
      refine (checkOps_any p ops c _ hl (hR.below hb2 (Nat.le_refl _))).mono ?_
      rintro e w2 ⟨rfl, hb3⟩
      rw [Ho.out]
      have hb4 := tr hb2 hb3
      clear hb2 hb3
      go_wp2
      go_ret2
      exact ⟨by rw [E.out, E2.out, Ho.out]; rfl, hb4⟩
  · have H := Lib.hid h0
    have E := Lib.hid (show applyE h ops = 3 by unfold applyE; rw [if_neg (by omega), h0])
    have E2 := Lib.hid (show applyR h ops = 0 by unfold applyR; rw [E.out, if_neg (by omega)])
    clear h0
    go_enter Tryz.func12, Tryz.ntmps12
    go_wp2_with fail
    refine (checkH_any _ [h] 1 _ (by simp) (reads_new w _ [h])).mono ?_
    rintro e w1 ⟨rfl, hb1⟩
    rw [H.out]
    have hb2 : Below w.heap.size w w1 := (below1 _ _).trans (hb1.mono (by simp))
    clear hb1
    go_wp2
    go_ret2
    exact ⟨by rw [E.out, E2.out]; rfl, hb2⟩
end Go.Proofs.YtojlopfjhhiilaaGreatDoor
