/-
  HouseTurned at whatever input.
-/
import Derived.Test.YtdnccdobnhbpeaaDoorHeC
import Derived.Test.YtdnccdobnhbpeaaDoorHcYp
namespace Go.Proofs.YtdnccdobnhbpeaaDoor
open Go Go.RowKit
set_option linter.unusedVariables false

theorem turned_law (zs : List Int) (hz : zs.length = 14) (hzb : ∀ k, k < 14 → 0 ≤ nth zs k ∧ nth zs k < 256) (v : Int) (h0 : 0 ≤ v) (h1 : v ≤ 255) (w : World) (h6 : 6 ≤ w.heap.size) (hr : Rul w) :
    Calls Tryd.prog 6 #[.agg (bys zs), .int .u8 v] w fun e w' => e = .returned (.bool true) ∧ Below w.heap.size w w' := by
  have hne := sky_ne zs
  obtain ⟨m, rfl⟩ : ∃ m : Nat, v = (m : Int) := ⟨v.toNat, by omega⟩
  exact turned_walk (skyTo zs 12) (Lib.hid (skyTo_len zs 12)) (Lib.hid (sky_fig zs)) (skyA zs) (skyB zs) (sky_a zs) (sky_b zs) (Lib.hid (by simpa using hne)) m (m % 12) (Lib.hid rfl) (by omega) zs hz hzb (Lib.hid rfl) (Lib.hid rfl) (Lib.hid rfl) w h6 hr
end Go.Proofs.YtdnccdobnhbpeaaDoor
