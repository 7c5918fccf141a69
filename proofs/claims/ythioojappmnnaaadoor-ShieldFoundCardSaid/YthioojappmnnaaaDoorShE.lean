/-
  Package shield: figures.
-/
import Derived.Test.YthioojappmnnaaaDoorShF
namespace Go.Proofs.YthioojappmnnaaaDoor
open Go Go.RowKit
set_option linter.unusedVariables false

/-- The names, in bytes. -/
def nameL : List (List UInt8) := [[112, 111, 112, 117, 108, 117, 115], [108, 97, 101, 116, 105, 116, 105, 97], [114, 117, 98, 101, 117, 115], [102, 111, 114, 116, 117, 110, 97, 32, 109, 105, 110, 111, 114], [97, 108, 98, 117, 115], [97, 109, 105, 115, 115, 105, 111], [99, 111, 110, 106, 117, 110, 99, 116, 105, 111], [99, 97, 117, 100, 97, 32, 100, 114, 97, 99, 111, 110, 105, 115], [116, 114, 105, 115, 116, 105, 116, 105, 97], [99, 97, 114, 99, 101, 114], [97, 99, 113, 117, 105, 115, 105, 116, 105, 111], [112, 117, 101, 114], [102, 111, 114, 116, 117, 110, 97, 32, 109, 97, 106, 111, 114], [112, 117, 101, 108, 108, 97], [99, 97, 112, 117, 116, 32, 100, 114, 97, 99, 111, 110, 105, 115], [118, 105, 97]]
def nameB (k : Nat) : ByteArray := ⟨(nameL.getD k []).toArray⟩
/-- The variable of names holds its table. -/
def Nam (w : World) : Prop := ∀ j, j < 16 → w.cell? ⟨1, j, none⟩ = some (.string (nameB j))
theorem Nam.below {w w' : World} (h : Nam w) {B : Nat} (hb : Below B w w') (hB : w.heap.size ≤ B) : Nam w' := fun j hj => by
  have h0 := h j hj
  have := World.block_lt_of_cell? w _ h0
  exact (hb.cell (p := ⟨1, j, none⟩) (by simp at this ⊢; omega)).trans h0
theorem reads_new (w : World) (T : TypeId) (xs : List Int) : Reads (w.alloc (.cells (arr xs) T)) (some ⟨w.heap.size, 0, none⟩) xs := reads_at w T xs _ rfl

/-- The sum of two figures, if they are. -/
def sumV (a b : Int) : Int := if chkF [a, b] = 0 then xorF a b else 0
set_option maxHeartbeats 400000 in
theorem sumS_any (a b : Int) (w : World) :
    Calls Tryd.prog 10 #[.int .i64 a, .int .i64 b] w fun e w' => e = .returned (.tuple #[.int .i64 (sumV a b), .int .i64 (chkF [a, b])]) ∧ Below w.heap.size w w' := by
  rcases chkF_or [a, b] with h | h
  · have hz := chkF_zero h
    obtain ⟨a1, a2⟩ := hz 0 (by simp)
    obtain ⟨b1, b2⟩ := hz 1 (by simp)
    have H := Lib.hid h
    have E := Lib.hid (show sumV a b = xorF a b by unfold sumV; rw [if_pos h])
    clear h hz
    simp [nth] at a1 a2 b1 b2
    go_enter Tryd.func10, Tryd.ntmps10
    go_wp2_with fail
    refine (checkF_any _ [a, b] 2 _ (by simp) (reads_new w _ [a, b])).mono ?_
    rintro e w1 ⟨rfl, hb1⟩
    rw [H.out]
    go_wp2_with fail
    refine (sumF_any a b a1 a2 b1 b2 _).mono ?_
    rintro e w2 ⟨rfl, rfl⟩
    go_wp2
    go_ret2
    exact ⟨by rw [E.out, H.out]; rfl, ((Below.refl _ _).alloc (Nat.le_refl _) _).trans (hb1.mono (by simp))⟩
  · have H := Lib.hid h
    have E := Lib.hid (show sumV a b = 0 by unfold sumV; rw [if_neg (by omega)])
    clear h
    go_enter Tryd.func10, Tryd.ntmps10
    go_wp2_with fail
    refine (checkF_any _ [a, b] 2 _ (by simp) (reads_new w _ [a, b])).mono ?_
    rintro e w1 ⟨rfl, hb1⟩
    rw [H.out]
    go_wp2
    go_ret2
    exact ⟨by rw [E.out, H.out]; rfl, ((Below.refl _ _).alloc (Nat.le_refl _) _).trans (hb1.mono (by simp))⟩

/-- The name of a figure, if it is one. -/
def nameV (f : Int) : ByteArray := if chkF [f] = 0 then nameB f.toNat else ⟨#[]⟩
set_option maxHeartbeats 400000 in
theorem nameS_any (f : Int) (w : World) (hn : Nam w) :
    Calls Tryd.prog 13 #[.int .i64 f] w fun e w' => e = .returned (.tuple #[.string (nameV f), .int .i64 (chkF [f])]) ∧ Below w.heap.size w w' := by
  rcases chkF_or [f] with h | h
  · have hz := chkF_zero h
    obtain ⟨a1, a2⟩ := hz 0 (by simp)
    have H := Lib.hid h
    have E := Lib.hid (show nameV f = nameB f.toNat by unfold nameV; rw [if_pos h])
    clear h hz
    simp [nth] at a1 a2
    go_enter Tryd.func13, Tryd.ntmps13
    go_wp2_with fail
    refine (checkF_any _ [f] 1 _ (by simp) (reads_new w _ [f])).mono ?_
    rintro e w1 ⟨rfl, hb1⟩
    rw [H.out]
    have hb2 : Below w.heap.size w w1 := ((Below.refl _ _).alloc (Nat.le_refl _) _).trans (hb1.mono (by simp))
    have hc := hn.below hb2 (Nat.le_refl _) f.toNat (by omega)
    go_wp2
    go_ret2
    exact ⟨by rw [E.out, H.out]; rfl, hb2⟩
  · have H := Lib.hid h
    have E := Lib.hid (show nameV f = ⟨#[]⟩ by unfold nameV; rw [if_neg (by omega)])
    clear h
    go_enter Tryd.func13, Tryd.ntmps13
    go_wp2_with fail
    refine (checkF_any _ [f] 1 _ (by simp) (reads_new w _ [f])).mono ?_
    rintro e w1 ⟨rfl, hb1⟩
    rw [H.out]
    go_wp2
    go_ret2
    exact ⟨by rw [E.out, H.out]; rfl, ((Below.refl _ _).alloc (Nat.le_refl _) _).trans (hb1.mono (by simp))⟩


/-- Turned of a figure, if it is one. -/
def turnedV (f : Int) : Int := if chkF [f] = 0 then figTo (fun i => bitB f (3 - i)) 4 else 0
/-- Opposite of a figure, if it is one. -/
def oppositeV (f : Int) : Int := if chkF [f] = 0 then figTo (fun i => !bitB f i) 4 else 0
end Go.Proofs.YthioojappmnnaaaDoor
