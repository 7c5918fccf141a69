/-
  Package hexagram: images of sets.
-/
import Derived.Test.YtdfdgeaohneeaaaGreatDoorHxIr
import Derived.Test.YtdfdgeaohneeaaaGreatDoorHxL
namespace Go.Proofs.YtdfdgeaohneeaaaGreatDoor
open Go Go.RowKit
set_option linter.unusedVariables false

def imageR (s : Nat) (ops : List Int) : Int := if opsE ops = 0 then imgV s ops else 0

set_option maxRecDepth 100000 in
set_option maxHeartbeats 2000000 in
theorem image_any (s : Nat) (hs64 : s < 2 ^ 64) (p : Option Addr) (ops : List Int) (c : Nat) (hl : ops.length ≤ 9223372036854775807) (w : World) (hR : Reads w p ops) (hs : Src w) :
    Calls Tryz.prog 28 #[.int .u64 s, .slice p ops.length c] w fun e w' => e = .returned (.tuple #[.int .u64 (imageR s ops), .int .i64 (opsE ops)]) ∧ Below w.heap.size w w' := by
  by_cases ho : opsE ops = 0
  · have Ho := Lib.hid ho
    obtain ⟨l20, hopn⟩ := opsE_zero ho
    have HR := Lib.hid hR
    have E := Lib.hid (show imageR s ops = imgTo s (fun h => applyV h ops) 64 by unfold imageR; rw [if_pos ho]; rfl)
    have G := Lib.hid (show ∀ k, imgTo s (fun h => applyV h ops) (k + 1) = if s.testBit k = true then bits BinOp.or IntKind.u64 (imgTo s (fun h => applyV h ops) k) (2 ^ (applyV k ops).toNat) else imgTo s (fun h => applyV h ops) k from fun k => rfl)
    obtain ⟨T, hT⟩ : ∃ T, imgTo s (fun h => applyV h ops) = T := ⟨_, rfl⟩
    have T0 := Lib.hid (show T 0 = 0 by rw [← hT]; rfl)
    rw [hT] at E G
    have C0 := fun W hW => checkOps_any p ops c W hl hW
    have C1 := fun h hh W hW hS => apply_any h p ops c (by omega) hh hopn W hW hS
    have HIN := Lib.hid (fun h (hh : h < 64) => in_code (h := h) hs64 hh)
    obtain ⟨Z, hZ⟩ : ∃ Z, (s : Int) = Z := ⟨_, rfl⟩
    rw [hZ] at HIN ⊢
    rw [ho] at C0
    obtain ⟨n, hn⟩ : ∃ n, ops.length = n := ⟨_, rfl⟩
    rw [hn] at C0 C1 l20 ⊢
    clear ho hR hs64 hT hZ hopn hl hn
    go_enter Tryz.func28, Tryz.ntmps28
    go_wp2_with fail
    refine (C0 _ HR.out).mono ?_
    rintro e w1 ⟨rfl, hb1⟩
    go_wp2_with fail
    go_loopw [7, 14] (fun x i wr => ∃ k : Nat, k ≤ 64 ∧ i = .int .i64 k ∧ x = .int .u64 (T k) ∧ Below w.heap.size w wr) (fun _ i _ => 64 - (intOf i).toNat)
    case atStart => exact ⟨0, by omega, rfl, by rw [T0.out], hb1⟩
    case round =>
      obtain ⟨k, hk, rfl, rfl, hB⟩ := hrel
      clear hb1
      by_cases hlt : k < 64
      · have HI := Lib.hid (HIN.out k hlt)
        have hx2 : Hex (k : Int) := ⟨by omega, by omega⟩
        obtain ⟨a0, a1⟩ := applyV_hex hx2 ops
        have C := C1 (k : Int) hx2
        have GK := Lib.hid (G.out k)
        have HP := Lib.hid (u64_pow hlt)
        have HW := Lib.hid (show withinB (2 ^ k) Z = s.testBit k from HI.out)
        obtain ⟨v, hv⟩ : ∃ v, applyV (k : Int) ops = v := ⟨_, rfl⟩
        rw [hv] at a0 a1 C GK
        have HV := Lib.hid (u64_pow (n := v.toNat) (by omega))
        clear hv
        go_wp2_with fail
        rw [HP.out]
        refine (within_any (2 ^ k) Z _).mono ?_
        rintro e w2 ⟨rfl, rfl⟩
        rw [HW.out]
        cases hb : s.testBit k
        · have EK := Lib.hid (show T (k + 1) = T k by rw [GK.out, hb]; rfl)
          clear hb
          go_wp2_with fail
          go_roundw
          case rel => exact ⟨k + 1, by omega, by go_num, by rw [EK.out], hB⟩
          case measure => simp [intOf]; omega
        · have EK := Lib.hid (show T (k + 1) = bits BinOp.or IntKind.u64 (T k) (2 ^ v.toNat) by rw [GK.out, hb]; rfl)
          clear hb
          go_wp2_with fail
          refine (C _ (HR.out.below hB (Nat.le_refl _)) (hs.below hB (Nat.le_refl _))).mono ?_
          rintro e w3 ⟨rfl, hb2⟩
          have hB2 := tr hB hb2
          go_wp2_with fail
          go_roundw
          case rel => exact ⟨k + 1, by omega, by go_num, by rw [EK.out, HV.out], hB2⟩
          case measure => simp [intOf]; omega
      · obtain rfl : k = 64 := by omega
        go_wp2_with fail
        go_ret2
        exact ⟨by rw [E.out, Ho.out]; rfl, hB⟩
  · obtain ⟨v, hv⟩ : ∃ v, opsE ops = v := ⟨_, rfl⟩
    rw [hv] at ho
    have e1 : (v == 0) = false := by simpa using ho
    have e2 : (v != 0) = true := by simpa using ho
    have e3 : decide (v = 0) = false := by simpa using ho
    have Ho := Lib.hid hv
    have E := Lib.hid (show imageR s ops = 0 by unfold imageR; rw [if_neg (by omega)])
    clear ho hv
    go_enter Tryz.func28, Tryz.ntmps28
    go_wp2_with fail
    refine (checkOps_any p ops c _ hl hR).mono ?_
    rintro e w1 ⟨rfl, hb1⟩
    rw [Ho.out]
    go_wp2
    go_ret2
    exact ⟨by rw [E.out, Ho.out]; rfl, hb1⟩
end Go.Proofs.YtdfdgeaohneeaaaGreatDoor
