/-
  Package hexagram: the iterator of all patterns.
-/
import Derived.Test.YtojlopfjhhiilaaGreatDoorHxL
import Derived.Test.YtojlopfjhhiilaaGreatDoorHxE
import Derived.RangeFuncNested
import Derived.RangeFuncBound
import Derived.RangeFuncCalls
import Derived.RangeFuncLeaves
import Derived.RangeFuncBox
import Derived.Shelf.Abstract
import Derived.Shelf.RegionOpen
import Derived.OwnWalkIn
import Derived.TacticsInMore
import Derived.LoopNIn
import Derived.LoopIn
import Derived.Laws.IdiomStrings
namespace Go.Proofs.YtojlopfjhhiilaaGreatDoor
open Go Go.RowKit Go.Shelf
set_option linter.unusedVariables false

/-- The sign number d of a pattern. -/
def signU (d : Nat) : UInt8 := if d = 0 then 48 else if d = 1 then 49 else 63
/-- Pattern number k; its bytes. -/
def patL (k : Nat) : List UInt8 := (List.range 6).map fun i => signU (k / 3 ^ (5 - i) % 3)
def patS (k : Nat) : ByteArray := ⟨(patL k).toArray⟩
theorem patL_length (k : Nat) : (patL k).length = 6 := by simp [patL]
theorem grown_of_below {w w' : World} (h : Below w.heap.size w w') : w.grownBy w' none := ⟨h.os, h.tape, h.output, h.size, fun k hk _ => h.block k hk⟩
theorem patS_size (k : Nat) : (patS k).size = 6 := by simp [patS, patL, ByteArray.size]
/-- The bytes from place 6 - j on. -/
def patTo (k j : Nat) : List Int := (List.range 6).map fun i => if 6 ≤ i + j then ((signU (k / 3 ^ (5 - i) % 3)).toNat : Int) else 0
def arr8 (xs : List Int) : Array Value := (xs.map (Value.int .u8)).toArray
theorem arr8_set (xs : List Int) (k : Nat) (v : Int) : (arr8 xs).setIfInBounds k (.int .u8 v) = arr8 (xs.set k v) := by simp [arr8, List.map_set]
theorem arr8_get {xs : List Int} {k : Nat} (h : k < xs.length) : (arr8 xs)[k]? = some (.int .u8 (nth xs k)) := by simp [arr8, nth_eq h, h]
theorem patTo_zero (k : Nat) : patTo k 0 = List.replicate 6 0 := by
  unfold patTo
  apply List.ext_getElem
  · simp
  · intro i h1 h2
    simp at h1
    rw [List.getElem_map, List.getElem_range, if_neg (by omega), List.getElem_replicate]
theorem patTo_length (k j : Nat) : (patTo k j).length = 6 := by simp [patTo]
theorem patTo_succ {k j : Nat} (h : j < 6) : (patTo k j).set (5 - j) ((signU (k / 3 ^ j % 3)).toNat : Int) = patTo k (j + 1) := by
  unfold patTo
  apply List.ext_getElem
  · simp
  · intro i h1 h2
    simp at h2
    rw [List.getElem_set]
    by_cases e : 5 - j = i
    · subst e
      have : 6 ≤ 5 - j + (j + 1) := by omega
      have e2 : 5 - (5 - j) = j := by omega
      simp [this, e2]
    · have : 6 ≤ i + j ↔ 6 ≤ i + (j + 1) := by omega
      simp [e, this]
theorem patTo_six (k : Nat) : patTo k 6 = (patL k).map fun b => (b.toNat : Int) := by
  unfold patTo patL
  simp
theorem sign_at (d : Nat) (h : d < 3) : ((⟨#[48, 49, 63]⟩ : ByteArray).data.toList.getD d 0) = signU d := by
  have : d = 0 ∨ d = 1 ∨ d = 2 := by omega
  rcases this with rfl | rfl | rfl <;> rfl

set_option maxRecDepth 100000 in
set_option maxHeartbeats 2000000 in
theorem patterns1_in (F : Fence) (n : Nat) (h93 : F.fn 49) (hro : F.round = none) (hn : 1 ≤ n) (l n₀ : Nat) (J Jx : List Nat → World → Prop)
    (hY : ∀ pre x W, J pre W → pre.length < 729 → YieldAt F (n - 1) Tryz.prog l #[.string (patS x)] W fun e W' =>
      (e = .returned (.bool true) ∧ J (pre ++ [x]) W' ∧ Below n₀ W W') ∨ (e = .returned (.bool false) ∧ Jx (pre ++ [x]) W'))
    (W : World) (hJ : AbidesFrom W.heap.size J) (h0 : J [] W) :
    CallsIn F n Tryz.prog 49 #[.func (.yield l) #[] #[]] W fun e W' => (∃ v, e = .returned v) ∧
      ((∃ ys, ys = upto id 729 ∧ J ys W') ∨ (∃ pre, (∃ k, k ≤ 729 ∧ pre = upto id k) ∧ Jx pre W')) := by
  refine callsIn_of_wp Tryz.func49 rfl h93 ?_ hro
  simp only [Tryz.ntmps49, List.size_toArray, List.length_cons, List.length_nil, Nat.reduceAdd, Nat.reduceSub, Array.replicate_succ, Array.replicate_zero, List.push_toArray, List.append_toArray, List.nil_append, List.cons_append]
  gi_wp2
  gi_loop [2, 7] (fun a i => ∃ k : Nat, k ≤ 6 ∧ i = .int .i64 k ∧ a = .int .i64 ((3 ^ k : Nat) : Int)) (fun _ i => 6 - (intOf i).toNat)
  case atStart => exact ⟨0, by omega, rfl, rfl⟩
  case round =>
    obtain ⟨k, hk, rfl, rfl⟩ := hrel
    by_cases hlt : k < 6
    · have : k = 0 ∨ k = 1 ∨ k = 2 ∨ k = 3 ∨ k = 4 ∨ k = 5 := by omega
      rcases this with rfl | rfl | rfl | rfl | rfl | rfl
      · gi_wp2
        go_round
        case rel => exact ⟨1, by omega, rfl, rfl⟩
        case measure => simp [intOf]
      · gi_wp2
        go_round
        case rel => exact ⟨2, by omega, rfl, rfl⟩
        case measure => simp [intOf]
      · gi_wp2
        go_round
        case rel => exact ⟨3, by omega, rfl, rfl⟩
        case measure => simp [intOf]
      · gi_wp2
        go_round
        case rel => exact ⟨4, by omega, rfl, rfl⟩
        case measure => simp [intOf]
      · gi_wp2
        go_round
        case rel => exact ⟨5, by omega, rfl, rfl⟩
        case measure => simp [intOf]
      · gi_wp2
        go_round
        case rel => exact ⟨6, by omega, rfl, rfl⟩
        case measure => simp [intOf]
    · obtain rfl : k = 6 := by omega
      have e : ((3 ^ 6 : Nat) : Int) = 729 := rfl
      rw [e]
      clear e
      gi_wp2
      gi_loopw [13] (fun i wx => ∃ k : Nat, k ≤ 729 ∧ i = .int .i64 k ∧ J (upto id k) wx ∧ W.heap.size ≤ wx.heap.size) (fun i _ => 729 - (intOf i).toNat)
      case atStart => exact ⟨0, by omega, rfl, h0, Nat.le_refl _⟩
      case round =>
        obtain ⟨k, hk, rfl, hJk, hsz⟩ := hrel
        by_cases hlt : k < 729
        · have hd : decide ((k : Int) < 729) = true := by simp; omega
          gi_wp2
          clear hd
          obtain ⟨V0, rfl⟩ : ∃ V0 : World, V0 = wr := ⟨_, rfl⟩
          gi_loopw [5, 6] (fun r i wx => ∃ j : Nat, j ≤ 6 ∧ i = .int .i64 (5 - (j : Int)) ∧ r = .int .i64 ((k / 3 ^ j : Nat) : Int) ∧ Hid (Blk wx V0.heap.size 111 (arr8 (patTo k j))) ∧ Below V0.heap.size V0 wx) (fun r i _ => (intOf i + 1).toNat)
          case atStart => exact ⟨0, by omega, rfl, by simp, by rw [patTo_zero]; exact Blk.new V0 _ _, below1 _ _⟩
          case round =>
            obtain ⟨j, hj, rfl, rfl, HX, hBx⟩ := hrel
            have Hl := Lib.hid (patTo_length k j)
            by_cases hlt2 : j < 6
            · obtain ⟨m, hm⟩ : ∃ m, k / 3 ^ j = m := ⟨_, rfl⟩
              have HM := Lib.hid hm
              have HM2 := Lib.hid (show k / 3 ^ (j + 1) = m / 3 by rw [← hm, Nat.div_div_eq_div_mul]; rfl)
              rw [hm]
              clear hm
              have hm7 : m ≤ 729 := by rw [← HM.out]; exact Nat.le_trans (Nat.div_le_self _ _) hk
              have ht : (5 - (j : Int)).toNat = 5 - j := by omega
              have hc := HX.out.cell (5 - j)
              rw [arr8_get (by have := Hl.out; omega)] at hc
              have hf := HX.out.frozen (5 - j)
              rcases (show m % 3 = 0 ∨ m % 3 = 1 ∨ m % 3 = 2 by omega) with hd | hd | hd
              · have hd2 : (m : Int) % 3 = 0 := by omega
                have HV := Lib.hid (show ((signU (m % 3)).toNat : Int) = 48 by rw [hd]; rfl)
                clear hd
                gi_wp2
                go_roundw
                case rel => exact ⟨j + 1, by omega, by simp; omega, by rw [HM2.out]; go_num, by
                  show Blk _ _ _ _
                  rw [← patTo_succ hlt2, HM.out, HV.out, ← arr8_set]
                  exact HX.out.set_ (5 - j) (.int .u8 48), hBx.setCell (p := ⟨V0.heap.size, 5 - j, none⟩) (Nat.le_refl _) _⟩
                case measure => simp [intOf]; omega
              · have hd2 : (m : Int) % 3 = 1 := by omega
                have HV := Lib.hid (show ((signU (m % 3)).toNat : Int) = 49 by rw [hd]; rfl)
                clear hd
                gi_wp2
                go_roundw
                case rel => exact ⟨j + 1, by omega, by simp; omega, by rw [HM2.out]; go_num, by
                  show Blk _ _ _ _
                  rw [← patTo_succ hlt2, HM.out, HV.out, ← arr8_set]
                  exact HX.out.set_ (5 - j) (.int .u8 49), hBx.setCell (p := ⟨V0.heap.size, 5 - j, none⟩) (Nat.le_refl _) _⟩
                case measure => simp [intOf]; omega
              · have hd2 : (m : Int) % 3 = 2 := by omega
                have HV := Lib.hid (show ((signU (m % 3)).toNat : Int) = 63 by rw [hd]; rfl)
                clear hd
                gi_wp2
                go_roundw
                case rel => exact ⟨j + 1, by omega, by simp; omega, by rw [HM2.out]; go_num, by
                  show Blk _ _ _ _
                  rw [← patTo_succ hlt2, HM.out, HV.out, ← arr8_set]
                  exact HX.out.set_ (5 - j) (.int .u8 63), hBx.setCell (p := ⟨V0.heap.size, 5 - j, none⟩) (Nat.le_refl _) _⟩
                case measure => simp [intOf]; omega
            · obtain rfl : j = 6 := by omega
              have hcv : (convert 112 9 (.slice (some ⟨V0.heap.size, 0, none⟩) 6 6)).run Tryz.prog wr = .ok (.string (patS k)) wr := by
                have := run_convert_bytes_back (P := Tryz.prog) wr 112 9 5 ⟨V0.heap.size, 0, none⟩ 6 (patL k) Tryz.underlying112 Tryz.underlying5 Tryz.underlying9 (fun j hj => by
                  rw [Go.WideShapes.add_plain, Nat.zero_add, HX.out.cell j, arr8_get (by rw [patTo_length]; rw [patL_length] at hj; exact hj), patTo_six]
                  simp [nth, List.getElem?_eq_getElem hj])
                rwa [patL_length] at this
              have hJ2 : J (upto id k) wr := hJ (upto id k) V0 wr none hJk (grown_of_below hBx) (fun r e => by cases e)
              obtain ⟨fn, tmps, assign, body, hy, hR'⟩ := hY (upto id k) k wr hJ2 (by rw [upto_length]; exact hlt)
              have hszw := hBx.size
              have HX0 := HX
              clear HX Hl hJk hBx
              gi_wp2
              refine hR'.mono ?_
              rintro e W3 (⟨rfl, hJ3, hk3⟩ | ⟨rfl, hJx3⟩)
              · have hs3 := hk3.size
                clear hcv hy hR'
                gi_wp2
                go_roundw
                case rel => exact ⟨k + 1, by omega, by go_num, by rw [upto_succ]; exact hJ3, by omega⟩
                case measure => simp [intOf]; omega
              · clear hcv hy hR'
                gi_wp2
                refine bodyPost_ret (results_none rfl _ _ _) rfl ?_
                exact ⟨⟨_, rfl⟩, .inr ⟨_, ⟨k + 1, by omega, (upto_succ _ _).symm⟩, hJx3⟩⟩
        · obtain rfl : k = 729 := by omega
          gi_wp2
          go_end0
          exact ⟨⟨_, rfl⟩, .inl ⟨_, rfl, hJk⟩⟩
end Go.Proofs.YtojlopfjhhiilaaGreatDoor
