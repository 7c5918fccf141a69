/-
  Package hexagram: the palace of a hexagram.
-/
import Derived.Test.YtoeflgmdaaefeaaGreatDoorHxI
namespace Go.Proofs.YtoeflgmdaaefeaaGreatDoor
open Go Go.RowKit
set_option linter.unusedVariables false

def trnL : List Int := [0, 1, 3, 7, 15, 31, 23, 16]
/-- The variable of turned lines holds its table. -/
def Trn (w : World) : Prop := ∀ j, j < 8 → w.cell? ⟨0, j, none⟩ = some (.int .i64 (nth trnL j))
theorem Trn.below {w w' : World} (h : Trn w) {B : Nat} (hb : Below B w w') (hB : w.heap.size ≤ B) : Trn w' := fun j hj => by
  have h0 := h j hj
  have := World.block_lt_of_cell? w _ h0
  exact (hb.cell (p := ⟨0, j, none⟩) (by simp at this ⊢; omega)).trans h0
theorem trnL_hex {j : Nat} (h : j < 8) : Hex (nth trnL j) := by
  have key : ∀ j : Fin 8, 0 ≤ nth trnL j.val ∧ nth trnL j.val ≤ 63 := by decide
  exact key ⟨j, h⟩
/-- Whether a hexagram is a head. -/
def headB (h : Int) : Bool := opV h 2 == h
def memV (h : Int) (k : Nat) : Int := bits BinOp.xor IntKind.i64 h (nth trnL k)
theorem memV_hex {h : Int} (hh : Hex h) {k : Nat} (hk : k < 8) : Hex (memV h k) := xor_hex hh (trnL_hex hk)
/-- The step of a hexagram in its palace, and its head. -/
def palN (h : Int) : Nat := if headB (memV h 0) then 0 else if headB (memV h 1) then 1 else if headB (memV h 2) then 2 else if headB (memV h 3) then 3 else if headB (memV h 4) then 4 else if headB (memV h 5) then 5 else if headB (memV h 6) then 6 else 7
theorem pal_ok {h : Int} (hh : Hex h) : headB (memV h (palN h)) = true ∧ palN h < 8 ∧ ∀ j, j < palN h → headB (memV h j) = false :=
  hex_all (P := fun h => headB (memV h (palN h)) = true ∧ palN h < 8 ∧ ∀ j, j < palN h → headB (memV h j) = false) (by decide +kernel) hh
def palS (h : Int) : Int := if chkH [h] = 0 then palN h else 0
def palH (h : Int) : Int := if chkH [h] = 0 then memV h (palN h) else 0

set_option maxHeartbeats 400000 in
theorem heads_any (h : Int) (hh : Hex h) (w : World) (hs : Src w) :
    Calls Tryz.prog 43 #[.int .i64 h] w fun e w' => e = .returned (.bool (headB h)) ∧ Below w.heap.size w w' := by
  have E := Lib.hid (show headB h = (opV h 2 == h) from rfl)
  have C := operate_any h 2 (by omega) hh w hs
  go_enter Tryz.func43, Tryz.ntmps43
  go_wp2_with fail
  refine C.mono ?_
  rintro e w2 ⟨rfl, hb⟩
  clear C
  go_wp2_with fail
  go_ret
  exact ⟨by rw [E.out]; rfl, hb⟩

set_option maxRecDepth 100000 in
set_option maxHeartbeats 2000000 in
theorem palace_any (h : Int) (w : World) (hs : Src w) (ht : Trn w) :
    Calls Tryz.prog 21 #[.int .i64 h] w fun e w' => e = .returned (.tuple #[.int .i64 (palH h), .int .i64 (palS h), .int .i64 (chkH [h])]) ∧ Below w.heap.size w w' := by
  rcases chkH_or [h] with h0 | h0
  · have H := Lib.hid h0
    have hx := chkH_zero h0 0 (by simp)
    simp only [nth, List.getD_cons_zero] at hx
    have E1 := Lib.hid (show palH h = memV h (palN h) by unfold palH; rw [if_pos h0])
    have E2 := Lib.hid (show palS h = palN h by unfold palS; rw [if_pos h0])
    obtain ⟨p1, p2, p3⟩ := pal_ok hx
    have P1 := Lib.hid p1
    have P3 := Lib.hid p3
    have HH := Lib.hid hx
    clear h0 p1 p3 hx
    obtain ⟨n, hn⟩ : ∃ n, palN h = n := ⟨_, rfl⟩
    rw [hn] at p2 P1 P3 E1 E2
    clear hn
    go_enter Tryz.func21, Tryz.ntmps21
    go_wp2_with fail
    refine (checkH_any _ [h] 1 _ (by simp) (reads_new w _ [h])).mono ?_
    rintro e w1 ⟨rfl, hb1⟩
    rw [H.out]
    have hb2 : Below w.heap.size w w1 := (below1 _ _).trans (hb1.mono (by simp))
    clear hb1
    go_wp2_with fail
    go_loopw [3] (fun i wr => ∃ k : Nat, k ≤ n ∧ i = .int .i64 k ∧ Below w.heap.size w wr) (fun i _ => n - (intOf i).toNat)
    case atStart => exact ⟨0, by omega, rfl, hb2⟩
    case round =>
      obtain ⟨k, hk, rfl, hB⟩ := hrel
      have hc := (ht.below hB (Nat.le_refl _)) k (by omega)
      have EM := Lib.hid (show memV h k = bits BinOp.xor IntKind.i64 h (nth trnL k) from rfl)
      have C := heads_any (memV h k) (memV_hex HH.out (by omega)) wr (hs.below hB (Nat.le_refl _))
      rw [EM.out] at C
      by_cases hlt : k < n
      · rw [← EM.out, P3.out k hlt, EM.out] at C
        go_wp2_with fail
        refine C.mono ?_
        rintro e w2 ⟨rfl, hb⟩
        clear C
        go_wp2_with fail
        go_roundw
        case rel => exact ⟨k + 1, by omega, by go_num, tr hB hb⟩
        case measure => simp [intOf]; omega
      · obtain rfl : k = n := by omega
        rw [← EM.out, P1.out, EM.out] at C
        go_wp2_with fail
        refine C.mono ?_
        rintro e w2 ⟨rfl, hb⟩
        clear C
        have hc2 := (ht.below (tr hB hb) (Nat.le_refl _)) k (by omega)
        have hb5 := tr hB hb
        go_wp2_with fail
        refine bodyPost_ret (v := .tuple #[.int .i64 (bits BinOp.xor IntKind.i64 h (nth trnL k)), .int .i64 k, .int .i64 0]) (by simp [results, Tryz.results21, go_sem]) rfl ⟨by rw [E1.out, E2.out, EM.out, H.out], hb5⟩
  · have H := Lib.hid h0
    have E1 := Lib.hid (show palH h = 0 by unfold palH; rw [if_neg (by omega)])
    have E2 := Lib.hid (show palS h = 0 by unfold palS; rw [if_neg (by omega)])
    clear h0
    go_enter Tryz.func21, Tryz.ntmps21
    go_wp2_with fail
    refine (checkH_any _ [h] 1 _ (by simp) (reads_new w _ [h])).mono ?_
    rintro e w1 ⟨rfl, hb1⟩
    rw [H.out]
    have hb2 : Below w.heap.size w w1 := (below1 _ _).trans (hb1.mono (by simp))
    clear hb1
    go_wp2
    refine bodyPost_ret (v := .tuple #[.int .i64 0, .int .i64 0, .int .i64 3]) (by simp [results, Tryz.results21, go_sem]) rfl ⟨by rw [E1.out, E2.out, H.out], hb2⟩
end Go.Proofs.YtoeflgmdaaefeaaGreatDoor
