/-
  Package shield: figures of marks, figures of names.
-/
import Derived.Test.YtgaljmhhagldlaaDoorShV
namespace Go.Proofs.YtgaljmhhagldlaaDoor
open Go Go.RowKit
set_option linter.unusedVariables false

theorem outside_cI (lo hi : Int) (w : World) :
    Calls Tryd.prog 57 #[.int .i64 lo, .int .i64 hi] w fun e w' => ∃ a b, e = .returned (.func (.func 75) #[] #[.pointer (some a), .pointer (some b)]) ∧ w'.cell? a = some (.int .i64 lo) ∧ w'.cell? b = some (.int .i64 hi) ∧ Below w.heap.size w w' := by
  refine (outside_anyI lo hi w).mono ?_
  rintro e w' ⟨rfl, rfl⟩
  exact ⟨_, _, rfl, by go_cell, by go_cell, ((Below.refl _ _).alloc (Nat.le_refl _) _).alloc (by simp) _⟩
/-- The figure of some marks, if they are. -/
def ofV (m : List Int) : Int := if anyB (outB 1 2) m = true then 0 else figTo (fun i => nth m i == 1) 4
def ofE (m : List Int) : Int := if anyB (outB 1 2) m = true then 2 else 0
set_option maxHeartbeats 400000 in
theorem of1_any (b i : Nat) (m : List Int) (hi : i < 4) (w : World) (hc : w.cell? ⟨b, i, none⟩ = some (.int .i64 (nth m i))) :
    Calls Tryd.prog 58 #[.int .i64 i, .pointer (some ⟨b, 0, none⟩)] w fun e w' => e = .returned (.bool (nth m i == 1)) ∧ w = w' := by
  go_enter Tryd.func58, Tryd.ntmps58
  go_wp2
  go_ret
  exact ⟨rfl, rfl⟩

set_option maxRecDepth 100000 in
set_option maxHeartbeats 4000000 in
theorem of_any (m0 m1 m2 m3 : Int) (w : World) :
    Calls Tryd.prog 28 #[.agg (arr [m0, m1, m2, m3])] w fun e w' => e = .returned (.tuple #[.int .i64 (ofV [m0, m1, m2, m3]), .int .i64 (ofE [m0, m1, m2, m3])]) ∧ Below w.heap.size w w' := by
  have HM := Lib.hid (Blk.new w 27 (arr [m0, m1, m2, m3]))
  have hB0 : Below w.heap.size w (w.alloc (.cells (arr [m0, m1, m2, m3]) 27)) := (Below.refl _ _).alloc (Nat.le_refl _) _
  cases ha : anyB (outB 1 2) [m0, m1, m2, m3]
  · have HA := Lib.hid ha
    have E1 := Lib.hid (show ofV [m0, m1, m2, m3] = figTo (fun i => nth [m0, m1, m2, m3] i == 1) 4 by unfold ofV; rw [ha]; rfl)
    have E2 := Lib.hid (show ofE [m0, m1, m2, m3] = 0 by unfold ofE; rw [ha]; rfl)
    clear ha
    go_enter Tryd.func28, Tryd.ntmps28
    go_wp2
    generalize hW : (w.alloc (.cells (arr [m0, m1, m2, m3]) 27)) = W at HM hB0
    clear hW
    have hr : Reads W (some ⟨w.heap.size, 0, none⟩) [m0, m1, m2, m3] := HM.out.reads
    go_region_held3 (fun w' => Below W.heap.size W w')
      (first | exact (Below.refl _ _).drew | assumption | exact tr (Below.drew (Below.refl W.heap.size W)) hbk | exact tr (by assumption) hbk)
      (first
        | (go_at_call 57; refine (outside_cI 1 2 _).mono ?_; rintro e w' ⟨a, b, rfl, ha, hb, hbk⟩)
        | (go_at_call 56; refine (containsFunc_outsideI 1 2 a b _ ha hb _ [m0, m1, m2, m3] 4 (by simp) ?hx).mono ?_; (case hx => exact hr.below (tr (Below.drew (Below.refl W.heap.size W)) hbk) (Nat.le_refl _)); rintro e w' ⟨rfl, rfl⟩; rw [HA.out]))
    rename_i hh
    have HM2 := Lib.hid (HM.out.below hh HM.out.lt)
    have hb5 := hB0.trans (hh.mono hB0.size)
    clear hbk ha hb hr hh
    go_wp2_with fail
    refine (figure_of _ (fun i => nth [m0, m1, m2, m3] i == 1) _ (fun i q hi => ?_)).mono ?_
    · refine (of1_any w.heap.size i [m0, m1, m2, m3] hi (w'.drewN q) (by show w'.cell? _ = _; rw [HM2.out.cell i, arr_get (by simpa using hi)])).mono ?_
      rintro e w'' ⟨rfl, rfl⟩
      exact ⟨rfl, q, rfl⟩
    · rintro e w'' ⟨rfl, r, rfl⟩
      go_wp2
      go_ret2
      exact ⟨by rw [E1.out, E2.out]; rfl, below_drewN hb5 r⟩
  · have HA := Lib.hid ha
    have E1 := Lib.hid (show ofV [m0, m1, m2, m3] = 0 by unfold ofV; rw [ha]; rfl)
    have E2 := Lib.hid (show ofE [m0, m1, m2, m3] = 2 by unfold ofE; rw [ha]; rfl)
    clear ha
    go_enter Tryd.func28, Tryd.ntmps28
    go_wp2
    generalize hW : (w.alloc (.cells (arr [m0, m1, m2, m3]) 27)) = W at HM hB0
    clear hW
    have hr : Reads W (some ⟨w.heap.size, 0, none⟩) [m0, m1, m2, m3] := HM.out.reads
    go_region_held3 (fun w' => Below W.heap.size W w')
      (first | exact (Below.refl _ _).drew | assumption | exact tr (Below.drew (Below.refl W.heap.size W)) hbk | exact tr (by assumption) hbk)
      (first
        | (go_at_call 57; refine (outside_cI 1 2 _).mono ?_; rintro e w' ⟨a, b, rfl, ha, hb, hbk⟩)
        | (go_at_call 56; refine (containsFunc_outsideI 1 2 a b _ ha hb _ [m0, m1, m2, m3] 4 (by simp) ?hx).mono ?_; (case hx => exact hr.below (tr (Below.drew (Below.refl W.heap.size W)) hbk) (Nat.le_refl _)); rintro e w' ⟨rfl, rfl⟩; rw [HA.out]))
    rename_i hh
    have hb5 := hB0.trans (hh.mono hB0.size)
    go_wp2
    go_ret2
    exact ⟨by rw [E1.out, E2.out]; rfl, hb5⟩

/-- The place of the first name that is s, from k on; 16 if there is none. -/
def nameAt (s : ByteArray) : Nat → Nat → Nat
  | 0, k => k
  | n + 1, k => if nameB k = s then k else nameAt s n (k + 1)
def parseK (s : ByteArray) : Nat := nameAt s 16 0
/-- The names, as an array. -/
def namesA : Array Value := #[.string (nameB 0), .string (nameB 1), .string (nameB 2), .string (nameB 3), .string (nameB 4), .string (nameB 5), .string (nameB 6), .string (nameB 7), .string (nameB 8), .string (nameB 9), .string (nameB 10), .string (nameB 11), .string (nameB 12), .string (nameB 13), .string (nameB 14), .string (nameB 15)]
theorem Nam.at_ {w : World} (h : Nam w) : ∀ j v, namesA.toList[j]? = some v → w.cell? ((⟨0, 0, none⟩ : Addr).add j) = some v := fun j v hv => by
  rw [Go.WideShapes.add_plain, Nat.zero_add]
  have hj : j < 16 := by
    rcases Nat.lt_or_ge j 16 with h1 | h1
    · exact h1
    · rw [List.getElem?_eq_none (by simpa [namesA] using h1)] at hv; cases hv
  have h0 := h j hj
  have hc : j = 0 ∨ j = 1 ∨ j = 2 ∨ j = 3 ∨ j = 4 ∨ j = 5 ∨ j = 6 ∨ j = 7 ∨ j = 8 ∨ j = 9 ∨ j = 10 ∨ j = 11 ∨ j = 12 ∨ j = 13 ∨ j = 14 ∨ j = 15 := by omega
  rcases hc with rfl | rfl | rfl | rfl | rfl | rfl | rfl | rfl | rfl | rfl | rfl | rfl | rfl | rfl | rfl | rfl <;> (simp [namesA] at hv; rw [h0, ← hv])
theorem nameAt_step {s : ByteArray} {n k : Nat} (h : nameB k ≠ s) : nameAt s (n + 1) k = nameAt s n (k + 1) := by rw [nameAt, if_neg h]
theorem nameAt_here {s : ByteArray} {n k : Nat} (h : nameB k = s) : nameAt s (n + 1) k = k := by rw [nameAt, if_pos h]
theorem bytes_eq (a b : ByteArray) : (a.toList == b.toList) = decide (a = b) := by
  rw [ByteArray.toList_eq, ByteArray.toList_eq]
  by_cases h : a = b
  · subst h; simp
  · have : ¬ a.data.toList = b.data.toList := fun e => h (by
      obtain ⟨⟨x⟩⟩ := a
      obtain ⟨⟨y⟩⟩ := b
      have e2 : x = y := e
      rw [e2])
    rw [beq_false_of_ne this]; simp [h]

/-- What Parse returns. -/
def parseV (s : ByteArray) : Int := if parseK s < 16 then (parseK s : Int) else 0
def parseE (s : ByteArray) : Int := if parseK s < 16 then 0 else 4
set_option maxRecDepth 100000 in
set_option maxHeartbeats 8000000 in
theorem parse_any (s : ByteArray) (w : World) (hn : Nam w) :
    Calls Tryd.prog 27 #[.string s] w fun e w' => e = .returned (.tuple #[.int .i64 (parseV s), .int .i64 (parseE s)]) ∧ w = w' := by
  have HN := Lib.hid hn.at_
  clear hn
  go_enter Tryd.func27, Tryd.ntmps27
  go_wp2_with (refine wpList_load_cells rfl 96 _ rfl ⟨0, 0, none⟩ rfl namesA _ HN.out Tryd.underlying96 rfl (by kernel_rfl) ?_)
  go_loop [7] (fun i => ∃ k : Nat, k ≤ 16 ∧ i = .int .i64 k ∧ Hid (parseK s = nameAt s (16 - k) k)) (fun i => 16 - (intOf i).toNat)
  case atStart => exact ⟨0, by omega, rfl, rfl⟩
  case round =>
    obtain ⟨k, hk, rfl, HK⟩ := hrel
    have hc : k = 0 ∨ k = 1 ∨ k = 2 ∨ k = 3 ∨ k = 4 ∨ k = 5 ∨ k = 6 ∨ k = 7 ∨ k = 8 ∨ k = 9 ∨ k = 10 ∨ k = 11 ∨ k = 12 ∨ k = 13 ∨ k = 14 ∨ k = 15 ∨ k = 16 := by omega
    rcases hc with rfl | rfl | rfl | rfl | rfl | rfl | rfl | rfl | rfl | rfl | rfl | rfl | rfl | rfl | rfl | rfl | rfl
    · have ik : ∀ w, (Instr.index 96 (.agg namesA) (.int .i64 0)).run Tryd.prog w = .ok (.string (nameB 0)) w := fun _ => by kernel_rfl
      by_cases hq : nameB 0 = s
      · have eq : ((nameB 0).toList == s.toList) = true := by rw [bytes_eq]; simp [hq]
        have HP := Lib.hid (HK.out.trans (nameAt_here hq))
        clear hq
        go_wp2
        go_ret2
        exact ⟨by unfold parseV parseE; rw [HP.out]; rfl, rfl⟩
      · have eq : ((nameB 0).toList == s.toList) = false := by rw [bytes_eq]; simp [hq]
        have HP := Lib.hid (HK.out.trans (nameAt_step hq))
        clear hq
        go_wp2
        go_round
        case rel => exact ⟨1, by omega, by go_num, HP⟩
        case measure => simp [intOf]
    · have ik : ∀ w, (Instr.index 96 (.agg namesA) (.int .i64 1)).run Tryd.prog w = .ok (.string (nameB 1)) w := fun _ => by kernel_rfl
      by_cases hq : nameB 1 = s
      · have eq : ((nameB 1).toList == s.toList) = true := by rw [bytes_eq]; simp [hq]
        have HP := Lib.hid (HK.out.trans (nameAt_here hq))
        clear hq
        go_wp2
        go_ret2
        exact ⟨by unfold parseV parseE; rw [HP.out]; rfl, rfl⟩
      · have eq : ((nameB 1).toList == s.toList) = false := by rw [bytes_eq]; simp [hq]
        have HP := Lib.hid (HK.out.trans (nameAt_step hq))
        clear hq
        go_wp2
        go_round
        case rel => exact ⟨2, by omega, by go_num, HP⟩
        case measure => simp [intOf]
    · have ik : ∀ w, (Instr.index 96 (.agg namesA) (.int .i64 2)).run Tryd.prog w = .ok (.string (nameB 2)) w := fun _ => by kernel_rfl
      by_cases hq : nameB 2 = s
      · have eq : ((nameB 2).toList == s.toList) = true := by rw [bytes_eq]; simp [hq]
        have HP := Lib.hid (HK.out.trans (nameAt_here hq))
        clear hq
        go_wp2
        go_ret2
        exact ⟨by unfold parseV parseE; rw [HP.out]; rfl, rfl⟩
      · have eq : ((nameB 2).toList == s.toList) = false := by rw [bytes_eq]; simp [hq]
        have HP := Lib.hid (HK.out.trans (nameAt_step hq))
        clear hq
        go_wp2
        go_round
        case rel => exact ⟨3, by omega, by go_num, HP⟩
        case measure => simp [intOf]
    · have ik : ∀ w, (Instr.index 96 (.agg namesA) (.int .i64 3)).run Tryd.prog w = .ok (.string (nameB 3)) w := fun _ => by kernel_rfl
      by_cases hq : nameB 3 = s
      · have eq : ((nameB 3).toList == s.toList) = true := by rw [bytes_eq]; simp [hq]
        have HP := Lib.hid (HK.out.trans (nameAt_here hq))
        clear hq
        go_wp2
        go_ret2
        exact ⟨by unfold parseV parseE; rw [HP.out]; rfl, rfl⟩
      · have eq : ((nameB 3).toList == s.toList) = false := by rw [bytes_eq]; simp [hq]
        have HP := Lib.hid (HK.out.trans (nameAt_step hq))
        clear hq
        go_wp2
        go_round
        case rel => exact ⟨4, by omega, by go_num, HP⟩
        case measure => simp [intOf]
    · have ik : ∀ w, (Instr.index 96 (.agg namesA) (.int .i64 4)).run Tryd.prog w = .ok (.string (nameB 4)) w := fun _ => by kernel_rfl
      by_cases hq : nameB 4 = s
      · have eq : ((nameB 4).toList == s.toList) = true := by rw [bytes_eq]; simp [hq]
        have HP := Lib.hid (HK.out.trans (nameAt_here hq))
        clear hq
        go_wp2
        go_ret2
        exact ⟨by unfold parseV parseE; rw [HP.out]; rfl, rfl⟩
      · have eq : ((nameB 4).toList == s.toList) = false := by rw [bytes_eq]; simp [hq]
        have HP := Lib.hid (HK.out.trans (nameAt_step hq))
        clear hq
        go_wp2
        go_round
        case rel => exact ⟨5, by omega, by go_num, HP⟩
        case measure => simp [intOf]
    · have ik : ∀ w, (Instr.index 96 (.agg namesA) (.int .i64 5)).run Tryd.prog w = .ok (.string (nameB 5)) w := fun _ => by kernel_rfl
      by_cases hq : nameB 5 = s
      · have eq : ((nameB 5).toList == s.toList) = true := by rw [bytes_eq]; simp [hq]
        have HP := Lib.hid (HK.out.trans (nameAt_here hq))
        clear hq
        go_wp2
        go_ret2
        exact ⟨by unfold parseV parseE; rw [HP.out]; rfl, rfl⟩
      · have eq : ((nameB 5).toList == s.toList) = false := by rw [bytes_eq]; simp [hq]
        have HP := Lib.hid (HK.out.trans (nameAt_step hq))
        clear hq
        go_wp2
        go_round
        case rel => exact ⟨6, by omega, by go_num, HP⟩
        case measure => simp [intOf]
    · have ik : ∀ w, (Instr.index 96 (.agg namesA) (.int .i64 6)).run Tryd.prog w = .ok (.string (nameB 6)) w := fun _ => by kernel_rfl
      by_cases hq : nameB 6 = s
      · have eq : ((nameB 6).toList == s.toList) = true := by rw [bytes_eq]; simp [hq]
        have HP := Lib.hid (HK.out.trans (nameAt_here hq))
        clear hq
        go_wp2
        go_ret2
        exact ⟨by unfold parseV parseE; rw [HP.out]; rfl, rfl⟩
      · have eq : ((nameB 6).toList == s.toList) = false := by rw [bytes_eq]; simp [hq]
        have HP := Lib.hid (HK.out.trans (nameAt_step hq))
        clear hq
        go_wp2
        go_round
        case rel => exact ⟨7, by omega, by go_num, HP⟩
        case measure => simp [intOf]
    · have ik : ∀ w, (Instr.index 96 (.agg namesA) (.int .i64 7)).run Tryd.prog w = .ok (.string (nameB 7)) w := fun _ => by kernel_rfl
      by_cases hq : nameB 7 = s
      · have eq : ((nameB 7).toList == s.toList) = true := by rw [bytes_eq]; simp [hq]
        have HP := Lib.hid (HK.out.trans (nameAt_here hq))
        clear hq
        go_wp2
        go_ret2
        exact ⟨by unfold parseV parseE; rw [HP.out]; rfl, rfl⟩
      · have eq : ((nameB 7).toList == s.toList) = false := by rw [bytes_eq]; simp [hq]
        have HP := Lib.hid (HK.out.trans (nameAt_step hq))
        clear hq
        go_wp2
        go_round
        case rel => exact ⟨8, by omega, by go_num, HP⟩
        case measure => simp [intOf]
    · have ik : ∀ w, (Instr.index 96 (.agg namesA) (.int .i64 8)).run Tryd.prog w = .ok (.string (nameB 8)) w := fun _ => by kernel_rfl
      by_cases hq : nameB 8 = s
      · have eq : ((nameB 8).toList == s.toList) = true := by rw [bytes_eq]; simp [hq]
        have HP := Lib.hid (HK.out.trans (nameAt_here hq))
        clear hq
        go_wp2
        go_ret2
        exact ⟨by unfold parseV parseE; rw [HP.out]; rfl, rfl⟩
      · have eq : ((nameB 8).toList == s.toList) = false := by rw [bytes_eq]; simp [hq]
        have HP := Lib.hid (HK.out.trans (nameAt_step hq))
        clear hq
        go_wp2
        go_round
        case rel => exact ⟨9, by omega, by go_num, HP⟩
        case measure => simp [intOf]
    · have ik : ∀ w, (Instr.index 96 (.agg namesA) (.int .i64 9)).run Tryd.prog w = .ok (.string (nameB 9)) w := fun _ => by kernel_rfl
      by_cases hq : nameB 9 = s
      · have eq : ((nameB 9).toList == s.toList) = true := by rw [bytes_eq]; simp [hq]
        have HP := Lib.hid (HK.out.trans (nameAt_here hq))
        clear hq
        go_wp2
        go_ret2
        exact ⟨by unfold parseV parseE; rw [HP.out]; rfl, rfl⟩
      · have eq : ((nameB 9).toList == s.toList) = false := by rw [bytes_eq]; simp [hq]
        have HP := Lib.hid (HK.out.trans (nameAt_step hq))
        clear hq
        go_wp2
        go_round
        case rel => exact ⟨10, by omega, by go_num, HP⟩
        case measure => simp [intOf]
    · have ik : ∀ w, (Instr.index 96 (.agg namesA) (.int .i64 10)).run Tryd.prog w = .ok (.string (nameB 10)) w := fun _ => by kernel_rfl
      by_cases hq : nameB 10 = s
      · have eq : ((nameB 10).toList == s.toList) = true := by rw [bytes_eq]; simp [hq]
        have HP := Lib.hid (HK.out.trans (nameAt_here hq))
        clear hq
        go_wp2
        go_ret2
        exact ⟨by unfold parseV parseE; rw [HP.out]; rfl, rfl⟩
      · have eq : ((nameB 10).toList == s.toList) = false := by rw [bytes_eq]; simp [hq]
        have HP := Lib.hid (HK.out.trans (nameAt_step hq))
        clear hq
        go_wp2
        go_round
        case rel => exact ⟨11, by omega, by go_num, HP⟩
        case measure => simp [intOf]
    · have ik : ∀ w, (Instr.index 96 (.agg namesA) (.int .i64 11)).run Tryd.prog w = .ok (.string (nameB 11)) w := fun _ => by kernel_rfl
      by_cases hq : nameB 11 = s
      · have eq : ((nameB 11).toList == s.toList) = true := by rw [bytes_eq]; simp [hq]
        have HP := Lib.hid (HK.out.trans (nameAt_here hq))
        clear hq
        go_wp2
        go_ret2
        exact ⟨by unfold parseV parseE; rw [HP.out]; rfl, rfl⟩
      · have eq : ((nameB 11).toList == s.toList) = false := by rw [bytes_eq]; simp [hq]
        have HP := Lib.hid (HK.out.trans (nameAt_step hq))
        clear hq
        go_wp2
        go_round
        case rel => exact ⟨12, by omega, by go_num, HP⟩
        case measure => simp [intOf]
    · have ik : ∀ w, (Instr.index 96 (.agg namesA) (.int .i64 12)).run Tryd.prog w = .ok (.string (nameB 12)) w := fun _ => by kernel_rfl
      by_cases hq : nameB 12 = s
      · have eq : ((nameB 12).toList == s.toList) = true := by rw [bytes_eq]; simp [hq]
        have HP := Lib.hid (HK.out.trans (nameAt_here hq))
        clear hq
        go_wp2
        go_ret2
        exact ⟨by unfold parseV parseE; rw [HP.out]; rfl, rfl⟩
      · have eq : ((nameB 12).toList == s.toList) = false := by rw [bytes_eq]; simp [hq]
        have HP := Lib.hid (HK.out.trans (nameAt_step hq))
        clear hq
        go_wp2
        go_round
        case rel => exact ⟨13, by omega, by go_num, HP⟩
        case measure => simp [intOf]
    · have ik : ∀ w, (Instr.index 96 (.agg namesA) (.int .i64 13)).run Tryd.prog w = .ok (.string (nameB 13)) w := fun _ => by kernel_rfl
      by_cases hq : nameB 13 = s
      · have eq : ((nameB 13).toList == s.toList) = true := by rw [bytes_eq]; simp [hq]
        have HP := Lib.hid (HK.out.trans (nameAt_here hq))
        clear hq
        go_wp2
        go_ret2
        exact ⟨by unfold parseV parseE; rw [HP.out]; rfl, rfl⟩
      · have eq : ((nameB 13).toList == s.toList) = false := by rw [bytes_eq]; simp [hq]
        have HP := Lib.hid (HK.out.trans (nameAt_step hq))
        clear hq
        go_wp2
        go_round
        case rel => exact ⟨14, by omega, by go_num, HP⟩
        case measure => simp [intOf]
    · have ik : ∀ w, (Instr.index 96 (.agg namesA) (.int .i64 14)).run Tryd.prog w = .ok (.string (nameB 14)) w := fun _ => by kernel_rfl
      by_cases hq : nameB 14 = s
      · have eq : ((nameB 14).toList == s.toList) = true := by rw [bytes_eq]; simp [hq]
        have HP := Lib.hid (HK.out.trans (nameAt_here hq))
        clear hq
        go_wp2
        go_ret2
        exact ⟨by unfold parseV parseE; rw [HP.out]; rfl, rfl⟩
      · have eq : ((nameB 14).toList == s.toList) = false := by rw [bytes_eq]; simp [hq]
        have HP := Lib.hid (HK.out.trans (nameAt_step hq))
        clear hq
        go_wp2
        go_round
        case rel => exact ⟨15, by omega, by go_num, HP⟩
        case measure => simp [intOf]
    · have ik : ∀ w, (Instr.index 96 (.agg namesA) (.int .i64 15)).run Tryd.prog w = .ok (.string (nameB 15)) w := fun _ => by kernel_rfl
      by_cases hq : nameB 15 = s
      · have eq : ((nameB 15).toList == s.toList) = true := by rw [bytes_eq]; simp [hq]
        have HP := Lib.hid (HK.out.trans (nameAt_here hq))
        clear hq
        go_wp2
        go_ret2
        exact ⟨by unfold parseV parseE; rw [HP.out]; rfl, rfl⟩
      · have eq : ((nameB 15).toList == s.toList) = false := by rw [bytes_eq]; simp [hq]
        have HP := Lib.hid (HK.out.trans (nameAt_step hq))
        clear hq
        go_wp2
        go_round
        case rel => exact ⟨16, by omega, by go_num, HP⟩
        case measure => simp [intOf]
    · go_wp2
      go_ret2
      exact ⟨by unfold parseV parseE; rw [show parseK s = 16 from HK.out]; rfl, rfl⟩
end Go.Proofs.YtgaljmhhagldlaaDoor
