/-
  HexagramGroups: the law.
-/
import Derived.Test.YtojlopfjhhiilaaGreatDoorHxTf
namespace Go.Proofs.YtojlopfjhhiilaaGreatDoor
open Go Go.RowKit
set_option linter.unusedVariables false

theorem groups_law (a b m : Nat) (ha : a < 256) (hb : b < 256) (hm : m < 256) (w : World) (hs : Src w) (hf : Fst w) :
    Calls Tryz.prog 4 #[.int .u8 a, .int .u8 b, .int .u8 m] w fun e w' => e = .returned (.bool true) ∧ Below w.heap.size w w' := by
  have h64 : a % 64 < 64 := Nat.mod_lt _ (by decide)
  have s16 : b % 16 < 16 := Nat.mod_lt _ (by decide)
  have d16 : m % 16 < 16 := Nat.mod_lt _ (by decide)
  have eA : (a : Int) % 64 = ((a % 64 : Nat) : Int) := by omega
  have eB : (b : Int) % 16 = ((b % 16 : Nat) : Int) := by omega
  have eM : (m : Int) % 16 = ((m % 16 : Nat) : Int) := by omega
  generalize a % 64 = h at h64 eA
  generalize b % 16 = s at s16 eB
  generalize m % 16 = d at d16 eM
  have hsd := (setB_or s s16 d d16).1
  have l1 := orb_len1 h64 s16
  have l64 := orb_len64 h64 s16
  have w64 := orb_len64 h64 hsd
  have lm := (orb_maps h64 s16).1
  obtain ⟨n, hn⟩ : ∃ n, (orbitL (h : Int) (s : Int)).length = n + 1 := ⟨(orbitL (h : Int) (s : Int)).length - 1, by omega⟩
  obtain ⟨N, hN⟩ : ∃ N, mapsN (s : Int) = n + 1 + N := ⟨mapsN (s : Int) - (n + 1), by omega⟩
  have hok := orb_ok h64 s16 d16
  rw [hN] at hok
  exact groups_go a b m h s d n _ N h64 s16 d16 _ _ (Lib.hid eA) (Lib.hid eB) (Lib.hid eM) (Lib.hid (or16 s s16 d d16)) (Lib.hid rfl) (Lib.hid (orbE_in h64 s16)) (Lib.hid rfl) (Lib.hid (orbE_in h64 hsd)) (Lib.hid (setE_in s16)) (Lib.hid (by rw [mapsR_in s16, hN])) (Lib.hid hn) (Lib.hid rfl) (by omega) w64 (Lib.hid hok) ha hb hm w hs hf
end Go.Proofs.YtojlopfjhhiilaaGreatDoor
