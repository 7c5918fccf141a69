/-
  HouseRulers: the law, at whatever numbers.
-/
import Derived.Test.YtojlopfjhhiilaaDoorHoRu
namespace Go.Proofs.YtojlopfjhhiilaaDoor
open Go Go.RowKit
set_option linter.unusedVariables false

theorem rulers_law (f p : Int) (zs : List Int) (hz : zs.length = 2) (w : World) (hw : 6 < w.heap.size) (hr : Rul w) :
    Calls Tryd.prog 4 #[.int .i64 f, .int .i64 p, .agg (arr zs)] w fun e w' => e = .returned (.bool true) ∧ Below w.heap.size w w' := by
  match zs, hz with
  | [a, b], _ =>
  have hF : ∃ F E q, Hid (figB f = F) ∧ Hid (rulV f = q) ∧ Hid (chkF [f] = E) ∧ ((F = true ∧ E = 0 ∧ Fig f ∧ Hid (nth rulL f.toNat = q)) ∨ (F = false ∧ E = 2 ∧ q = 0)) := by
    rcases chkF_or [f] with h | h
    · have hf : Fig f := chkF_zero h 0 (by simp)
      exact ⟨true, 0, nth rulL f.toNat, Lib.hid (by unfold figB; unfold Fig at hf; simp [hf]), Lib.hid (by unfold rulV; rw [if_pos h]), Lib.hid h, .inl ⟨rfl, rfl, hf, Lib.hid rfl⟩⟩
    · have hf : ¬ Fig f := fun hf => by
        have : chkF [f] = 0 := chkF_of fun k hk => by
          have : k = 0 := by simpa using hk
          subst this
          exact hf
        omega
      exact ⟨false, 2, 0, Lib.hid (by unfold figB; unfold Fig at hf; simp; omega), Lib.hid (by unfold rulV; rw [if_neg (by omega)]), Lib.hid h, .inr ⟨rfl, rfl, rfl⟩⟩
  obtain ⟨F, E, q, HF, HQ, HE, hF⟩ := hF
  rcases @chkH_two a b with ⟨h, ha, hb⟩ | ⟨h, h2⟩
  · exact rulers_go f p a b q E F (Int.ofNat (apartN a.toNat b.toNat)) 0 w hw hr HF HQ HE hF (Lib.hid (by unfold apartV; rw [if_pos h])) (Lib.hid h)
      (.inl ⟨rfl, Lib.hid (by unfold houB; unfold Hou at ha; simp [ha]), Lib.hid (by unfold houB; unfold Hou at hb; simp [hb]), Lib.hid ha, Lib.hid hb, Lib.hid rfl⟩)
  · by_cases ha : Hou a
    · have hb : ¬ Hou b := fun hb => h2 ⟨ha, hb⟩
      exact rulers_go f p a b q E F 0 3 w hw hr HF HQ HE hF (Lib.hid (by unfold apartV; rw [if_neg (by omega)])) (Lib.hid h)
        (.inr (.inl ⟨rfl, rfl, Lib.hid (by unfold houB; unfold Hou at ha; simp [ha]), Lib.hid (by unfold houB; unfold Hou at hb; simp; omega)⟩))
    · exact rulers_go f p a b q E F 0 3 w hw hr HF HQ HE hF (Lib.hid (by unfold apartV; rw [if_neg (by omega)])) (Lib.hid h)
        (.inr (.inr ⟨rfl, rfl, Lib.hid (by unfold houB; unfold Hou at ha; simp; omega)⟩))
end Go.Proofs.YtojlopfjhhiilaaDoor
