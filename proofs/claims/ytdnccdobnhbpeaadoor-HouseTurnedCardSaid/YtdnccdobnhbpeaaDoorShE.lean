/-
  Package shield: figures.
-/
import Derived.Test.YtdnccdobnhbpeaaDoorShF
namespace Go.Proofs.YtdnccdobnhbpeaaDoor
open Go Go.RowKit
set_option linter.unusedVariables false

/-- The names, in bytes. -/
def nameL : List (List UInt8) := [[112, 111, 112, 117, 108, 117, 115], [108, 97, 101, 116, 105, 116, 105, 97], [114, 117, 98, 101, 117, 115], [102, 111, 114, 116, 117, 110, 97, 32, 109, 105, 110, 111, 114], [97, 108, 98, 117, 115], [97, 109, 105, 115, 115, 105, 111], [99, 111, 110, 106, 117, 110, 99, 116, 105, 111], [99, 97, 117, 100, 97, 32, 100, 114, 97, 99, 111, 110, 105, 115], [116, 114, 105, 115, 116, 105, 116, 105, 97], [99, 97, 114, 99, 101, 114], [97, 99, 113, 117, 105, 115, 105, 116, 105, 111], [112, 117, 101, 114], [102, 111, 114, 116, 117, 110, 97, 32, 109, 97, 106, 111, 114], [112, 117, 101, 108, 108, 97], [99, 97, 112, 117, 116, 32, 100, 114, 97, 99, 111, 110, 105, 115], [118, 105, 97]]
def nameB (k : Nat) : ByteArray := ⟨(nameL.getD k []).toArray⟩
theorem reads_new (w : World) (T : TypeId) (xs : List Int) : Reads (w.alloc (.cells (arr xs) T)) (some ⟨w.heap.size, 0, none⟩) xs := reads_at w T xs _ rfl

set_option maxHeartbeats 400000 in
theorem checkS_any (f : Int) (w : World) :
    Calls Tryd.prog 52 #[.int .i64 f] w fun e w' => e = .returned (.int .i64 (chkF [f])) ∧ Below w.heap.size w w' := by
  go_enter Tryd.func52, Tryd.ntmps52
  go_wp2_with fail
  refine (checkF_any _ [f] 1 _ (by simp) (reads_new w _ [f])).mono ?_
  rintro e w1 ⟨rfl, hb1⟩
  go_wp2
  go_ret
  exact ⟨rfl, ((Below.refl _ _).alloc (Nat.le_refl _) _).trans (hb1.mono (by simp))⟩

/-- The sum of two figures, if they are. -/
def sumV (a b : Int) : Int := if chkF [a, b] = 0 then xorF a b else 0
/-- The name of a figure, if it is one. -/
def nameV (f : Int) : ByteArray := if chkF [f] = 0 then nameB f.toNat else ⟨#[]⟩
/-- Turned of a figure, if it is one. -/
def turnedV (f : Int) : Int := if chkF [f] = 0 then figTo (fun i => bitB f (3 - i)) 4 else 0
set_option maxHeartbeats 400000 in
theorem opposite1_any (a : Addr) (f : Int) (i : Nat) (hi : i < 4) (h0 : 0 ≤ f) (h1 : f ≤ 15) (w : World) (hc : w.cell? a = some (.int .i64 f)) :
    Calls Tryd.prog 78 #[.int .i64 i, .pointer (some a)] w fun e w' => e = .returned (.bool (!bitB f i)) ∧ w = w' := by
  go_enter Tryd.func78, Tryd.ntmps78
  go_wp2_with fail
  refine (single_any f _ h0 h1 (by omega) (by omega) _).mono ?_
  rintro e w1 ⟨rfl, rfl⟩
  go_wp2
  go_ret
  exact ⟨rfl, rfl⟩
/-- Opposite of a figure, if it is one. -/
def oppositeV (f : Int) : Int := if chkF [f] = 0 then figTo (fun i => !bitB f i) 4 else 0
set_option maxHeartbeats 400000 in
theorem oppositeS_any (f : Int) (w : World) :
    Calls Tryd.prog 54 #[.int .i64 f] w fun e w' => e = .returned (.tuple #[.int .i64 (oppositeV f), .int .i64 (chkF [f])]) ∧ Below w.heap.size w w' := by
  have hB0 : Below w.heap.size w ((w.alloc (.cells #[.int .i64 f] 22)).alloc (.cells #[.int .i64 f] 22)) := ((Below.refl _ _).alloc (Nat.le_refl _) _).alloc (by simp) _
  rcases chkF_or [f] with h | h
  · have hz := chkF_zero h
    obtain ⟨a1, a2⟩ := hz 0 (by simp)
    have H := Lib.hid h
    have E := Lib.hid (show oppositeV f = figTo (fun i => !bitB f i) 4 by unfold oppositeV; rw [if_pos h])
    clear h hz
    simp [nth] at a1 a2
    go_enter Tryd.func54, Tryd.ntmps54
    go_wp2_with fail
    refine (checkF_any _ [f] 1 _ (by simp) (reads_at _ _ [f] _ (by simp))).mono ?_
    rintro e w1 ⟨rfl, hb1⟩
    rw [H.out]
    have hb2 : Below w.heap.size w w1 := hB0.trans (hb1.mono (by simp; omega))
    have hc : w1.cell? ⟨w.heap.size, 0, none⟩ = some (.int .i64 f) := (hb1.cell (p := ⟨w.heap.size, 0, none⟩) (by simp; omega)).trans (by rw [(Blk.alloc (Blk.new w 22 #[.int .i64 f]) _).cell]; rfl)
    go_wp2_with fail
    refine (figure_opposite _ (fun i => !bitB f i) _ (fun i q hi => ?_)).mono ?_
    · refine (opposite1_any _ f i hi a1 a2 (w1.drewN q) hc).mono ?_
      rintro e w' ⟨rfl, rfl⟩
      exact ⟨rfl, q, rfl⟩
    · rintro e w' ⟨rfl, r, rfl⟩
      go_wp2
      go_ret2
      exact ⟨by rw [E.out, H.out]; rfl, below_drewN hb2 r⟩
  · have H := Lib.hid h
    have E := Lib.hid (show oppositeV f = 0 by unfold oppositeV; rw [if_neg (by omega)])
    clear h
    go_enter Tryd.func54, Tryd.ntmps54
    go_wp2_with fail
    refine (checkF_any _ [f] 1 _ (by simp) (reads_at _ _ [f] _ (by simp))).mono ?_
    rintro e w1 ⟨rfl, hb1⟩
    rw [H.out]
    go_wp2
    go_ret2
    exact ⟨by rw [E.out, H.out]; rfl, hB0.trans (hb1.mono (by simp; omega))⟩
end Go.Proofs.YtdnccdobnhbpeaaDoor
