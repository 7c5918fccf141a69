/-
  Package hexagram: Figures, Changes and Moving at whatever weights.
-/
import Derived.Test.YtdfdgeaohneeaaaGreatDoorHxV
import Derived.Test.YtdfdgeaohneeaaaGreatDoorHxWs
namespace Go.Proofs.YtdfdgeaohneeaaaGreatDoor
open Go Go.RowKit
set_option linter.unusedVariables false

set_option maxHeartbeats 1000000 in
theorem weigh_bad (N : Int) (f : Nat) (p : Option Addr) (W : List Int) (n c : Nat) (w : World) (z : Int) (hn : Hid (W.length = n)) (hl : n ≤ 1000000) (hc : n ≤ c) (hc2 : c ≤ 9223372036854775807) (hR : Reads w p W) (hE : Hid (linesE W = z)) (hz : ¬ z = 0) :
    Calls Tryz.prog 56 #[.slice p n c, .int .i64 N, .func (.func f) #[] #[]] w fun e w' => e = .returned (.tuple #[.slice none 0 0, .int .i64 z]) ∧ Below w.heap.size w w' := by
  go_enter Tryz.func56, Tryz.ntmps56
  go_wp2_with fail
  refine (checkLines_any p W n c _ hn hl hc hc2 hR).mono ?_
  rintro e w1 ⟨rfl, hb1⟩
  rw [hE.out]
  go_wp2
  go_ret2
  exact ⟨rfl, hb1⟩

set_option maxHeartbeats 1000000 in
theorem figures_ok (p : Option Addr) (W : List Int) (n c : Nat) (w : World) (hn : Hid (W.length = n)) (hl : n ≤ 1000000) (hc : n ≤ c) (hc2 : c ≤ 9223372036854775807) (hR : Reads w p W) (hE : Hid (linesE W = 0)) (L : List Int) (HL0 : Hid (∀ m : Nat, m = 64 * 64 → weighTo W figuresP 64 m = L)) (HM : Hid (Mid L)) (HL : Hid (L.length = 64)) (hg : Hid (1 ≤ gcdl L)) :
    Calls Tryz.prog 22 #[.slice p n c] w fun e w' => ∃ g, (e = .returned (.tuple #[.slice (some ⟨g, 0, none⟩) 64 64, .int .i64 0]) ∧ Reads w' (some ⟨g, 0, none⟩) (low L)) ∧ Below w.heap.size w w' := by
  go_enter Tryz.func22, Tryz.ntmps22
  go_wp2_with fail
  refine (weigh_figures p W n c w hn hl hc hc2 hR hE L HL0 HM HL hg).mono ?_
  rintro e w' ⟨g, ⟨rfl, hrow⟩, hb⟩
  have hr := hrow.reads
  clear hrow
  go_wp2
  go_ret2
  exact ⟨g, ⟨rfl, hr⟩, hb⟩
set_option maxHeartbeats 1000000 in
theorem changes_ok (p : Option Addr) (W : List Int) (n c : Nat) (w : World) (hn : Hid (W.length = n)) (hl : n ≤ 1000000) (hc : n ≤ c) (hc2 : c ≤ 9223372036854775807) (hR : Reads w p W) (hE : Hid (linesE W = 0)) (L : List Int) (HL0 : Hid (∀ m : Nat, m = 64 * 64 → weighTo W changesP 4096 m = L)) (HM : Hid (Mid L)) (HL : Hid (L.length = 4096)) (hg : Hid (1 ≤ gcdl L)) :
    Calls Tryz.prog 24 #[.slice p n c] w fun e w' => ∃ g, (e = .returned (.tuple #[.slice (some ⟨g, 0, none⟩) 4096 4096, .int .i64 0]) ∧ Reads w' (some ⟨g, 0, none⟩) (low L)) ∧ Below w.heap.size w w' := by
  go_enter Tryz.func24, Tryz.ntmps24
  go_wp2_with fail
  refine (weigh_changes p W n c w hn hl hc hc2 hR hE L HL0 HM HL hg).mono ?_
  rintro e w' ⟨g, ⟨rfl, hrow⟩, hb⟩
  have hr := hrow.reads
  clear hrow
  go_wp2
  go_ret2
  exact ⟨g, ⟨rfl, hr⟩, hb⟩
set_option maxHeartbeats 1000000 in
theorem figures_bad (p : Option Addr) (W : List Int) (n c : Nat) (w : World) (z : Int) (hn : Hid (W.length = n)) (hl : n ≤ 1000000) (hc : n ≤ c) (hc2 : c ≤ 9223372036854775807) (hR : Reads w p W) (hE : Hid (linesE W = z)) (hz : ¬ z = 0) :
    Calls Tryz.prog 22 #[.slice p n c] w fun e w' => e = .returned (.tuple #[.slice none 0 0, .int .i64 z]) ∧ Below w.heap.size w w' := by
  go_enter Tryz.func22, Tryz.ntmps22
  go_wp2_with fail
  refine (weigh_bad _ _ p W n c w z hn hl hc hc2 hR hE hz).mono ?_
  rintro e w' ⟨rfl, hb⟩
  go_wp2
  go_ret2
  exact ⟨rfl, hb⟩
set_option maxHeartbeats 1000000 in
theorem changes_bad (p : Option Addr) (W : List Int) (n c : Nat) (w : World) (z : Int) (hn : Hid (W.length = n)) (hl : n ≤ 1000000) (hc : n ≤ c) (hc2 : c ≤ 9223372036854775807) (hR : Reads w p W) (hE : Hid (linesE W = z)) (hz : ¬ z = 0) :
    Calls Tryz.prog 24 #[.slice p n c] w fun e w' => e = .returned (.tuple #[.slice none 0 0, .int .i64 z]) ∧ Below w.heap.size w w' := by
  go_enter Tryz.func24, Tryz.ntmps24
  go_wp2_with fail
  refine (weigh_bad _ _ p W n c w z hn hl hc hc2 hR hE hz).mono ?_
  rintro e w' ⟨rfl, hb⟩
  go_wp2
  go_ret2
  exact ⟨rfl, hb⟩
set_option maxHeartbeats 1000000 in
theorem moving_bad (p : Option Addr) (W : List Int) (n c : Nat) (w : World) (z : Int) (hn : Hid (W.length = n)) (hl : n ≤ 1000000) (hc : n ≤ c) (hc2 : c ≤ 9223372036854775807) (hR : Reads w p W) (hE : Hid (linesE W = z)) (hz : ¬ z = 0) :
    Calls Tryz.prog 25 #[.slice p n c] w fun e w' => e = .returned (.tuple #[.slice none 0 0, .int .i64 z]) ∧ Below w.heap.size w w' := by
  go_enter Tryz.func25, Tryz.ntmps25
  go_wp2_with fail
  refine (weigh_bad _ _ p W n c w z hn hl hc hc2 hR hE hz).mono ?_
  rintro e w' ⟨rfl, hb⟩
  go_wp2
  go_ret2
  exact ⟨rfl, hb⟩
end Go.Proofs.YtdfdgeaohneeaaaGreatDoor
