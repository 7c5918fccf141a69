/-
  HabitDecks: a deck's row is valid: the closure of validRows, IndexFunc and ContainsFunc over it, validRows.
-/
import Derived.Test.YtahmhdjoaoldcaaHbR
namespace Go.Proofs.Ytahmhdjoaoldcaa
open Go Go.RowKit
set_option linter.unusedVariables false
set_option linter.unusedSimpArgs false

/-- The block of a deck's model. -/
def ModB (w : World) (bm pr : Nat) (A : Int) : Prop := w.cell? ⟨bm, 0, none⟩ = some (.int .i64 3) ∧ w.cell? ⟨bm, 1, none⟩ = some (.slice (some ⟨pr, 0, none⟩) 1 1) ∧ w.cell? ⟨bm, 2, none⟩ = some (.int .i64 A)
theorem ModB.below {w w' : World} {bm pr : Nat} {A : Int} (h : ModB w bm pr A) {B : Nat} (hb : Below B w w') (hB : bm < B) : ModB w' bm pr A :=
  ⟨(hb.cell (p := ⟨bm, 0, none⟩) hB).trans h.1, (hb.cell (p := ⟨bm, 1, none⟩) hB).trans h.2.1, (hb.cell (p := ⟨bm, 2, none⟩) hB).trans h.2.2⟩

set_option maxRecDepth 100000 in
set_option maxHeartbeats 2000000 in
theorem row1_any (bm pr : Nat) (A : Int) (p : Option Addr) (row : List Int) (n c : Nat) (hx : Hid (row.length = n)) (hn1 : 1 ≤ n) (hn : n ≤ 32) (hO : Hid (anyB (outB 0 1000) row = false)) (hK : Hid (chk1 row = 0)) (w : World)
    (hm : ModB w bm pr A) (hbm : bm < w.heap.size) (hpr : pr < w.heap.size) (hp : w.cell? ⟨pr, 0, none⟩ = some (.slice p n c)) (hR : Reads w p row) :
    Calls Try.prog 72 #[.slice p n c, .pointer (some ⟨bm, 0, none⟩)] w fun e w' => e = .returned (.bool false) ∧ Below w.heap.size w w' := by
  obtain ⟨m0, m1, m2⟩ := hm
  have hn32 : (n : Int) ≤ 32 := by omega
  have hq32 : decide ((32 : Int) < (n : Int)) = false := by simp; omega
  have hOU := outcomesH_any pr A p n c w hpr hp
  have hCK := fun w' (h : Reads w' p row) => oCheck_any p row c w' (by rw [hx.out]; omega) h
  rw [hx.out, hK.out] at hCK
  go_enter Try.func72, Try.ntmps72
  go_wp2_with fail
  refine hOU.mono ?_
  rintro e w1 ⟨rfl, hb1⟩
  clear m0 m1 m2 hp hOU
  have hR1 := hR.below hb1 (Nat.le_refl _)
  go_wp2_with fail
  refine (outside_anyI 0 1000 _).mono ?_
  rintro e w2 ⟨rfl, rfl⟩
  have hc0 : ((w1.alloc (.cells #[.int .i64 0] 3)).alloc (.cells #[.int .i64 1000] 3)).cell? ⟨w1.heap.size, 0, none⟩ = some (.int .i64 0) := cells_two0 _ _ _ _
  have hc1 : ((w1.alloc (.cells #[.int .i64 0] 3)).alloc (.cells #[.int .i64 1000] 3)).cell? ⟨w1.heap.size + 1, 0, none⟩ = some (.int .i64 1000) := cells_two1 _ _ _ _
  have hb2 : Below w1.heap.size w1 ((w1.alloc (.cells #[.int .i64 0] 3)).alloc (.cells #[.int .i64 1000] 3)) := ((Below.refl _ _).alloc (Nat.le_refl _) _).alloc (by simp) _
  have hR2 := hR1.below hb2 (Nat.le_refl _)
  have hC := containsFunc_outsideI 0 1000 ⟨w1.heap.size, 0, none⟩ ⟨w1.heap.size + 1, 0, none⟩ _ hc0 hc1 p row c (by rw [hx.out]; omega) hR2
  rw [hx.out, hO.out] at hC
  have hB2 := tr hb1 hb2
  generalize (w1.alloc (.cells #[.int .i64 0] 3)).alloc (.cells #[.int .i64 1000] 3) = W2 at hC hR2 hB2 hb2 hc0 hc1 ⊢
  clear hc0 hc1 hR1 hR hb1 hb2
  go_wp2_with fail
  refine hC.mono ?_
  rintro e w3 ⟨rfl, rfl⟩
  clear hC
  go_wp2_with fail
  refine (hCK _ hR2).mono ?_
  rintro e w4 ⟨rfl, hb4⟩
  clear hCK
  go_wp2
  go_ret
  exact ⟨rfl, tr hB2 hb4⟩

set_option maxRecDepth 100000 in
set_option maxHeartbeats 2000000 in
theorem indexRow_any (bm pr : Nat) (A : Int) (p : Option Addr) (row : List Int) (n c : Nat) (hx : Hid (row.length = n)) (hn1 : 1 ≤ n) (hn : n ≤ 32) (hO : Hid (anyB (outB 0 1000) row = false)) (hK : Hid (chk1 row = 0)) (w : World)
    (hm : ModB w bm pr A) (hbm : bm < w.heap.size) (hpr : pr < w.heap.size) (hp : w.cell? ⟨pr, 0, none⟩ = some (.slice p n c)) (hR : Reads w p row) :
    Calls Try.prog 82 #[.slice (some ⟨pr, 0, none⟩) 1 1, .func (.func 72) #[] #[.pointer (some ⟨bm, 0, none⟩)]] w fun e w' => e = .returned (.int .i64 (-1)) ∧ Below w.heap.size w w' := by
  go_enter Try.func82, Try.ntmps82
  go_wp2
  go_loopw [8] (fun i wx => ∃ k : Nat, k ≤ 1 ∧ i = .int .i64 k ∧ Below w.heap.size w wx) (fun i _ => 1 - (intOf i).toNat)
  case atStart => exact ⟨0, by omega, rfl, Below.refl _ _⟩
  case round =>
    obtain ⟨k, hk, rfl, hb⟩ := hrel
    have hsz := hb.size
    by_cases h0 : k = 0
    · subst h0
      have hpx := (hb.cell (p := ⟨pr, 0, none⟩) hpr).trans hp
      go_wp2_with fail
      refine (row1_any bm pr A p row n c hx hn1 hn hO hK _ (hm.below hb hbm) (by omega) (by omega) hpx (hR.below hb (Nat.le_refl _))).mono ?_
      rintro e w2 ⟨rfl, hb2⟩
      have hB := hb.trans (hb2.mono hsz)
      clear hb hb2 hpx
      go_wp2
      go_round
      case rel => exact ⟨1, by omega, rfl, hB⟩
      case measure => simp [intOf]
    · obtain rfl : k = 1 := by omega
      go_wp2
      go_ret
      exact ⟨rfl, hb⟩

set_option maxRecDepth 100000 in
set_option maxHeartbeats 2000000 in
theorem validRows_any (pr : Nat) (A : Int) (p : Option Addr) (row : List Int) (n c : Nat) (hx : Hid (row.length = n)) (hn1 : 1 ≤ n) (hn : n ≤ 32) (hO : Hid (anyB (outB 0 1000) row = false)) (hK : Hid (chk1 row = 0)) (w : World)
    (hpr : pr < w.heap.size) (hp : w.cell? ⟨pr, 0, none⟩ = some (.slice p n c)) (hR : Reads w p row) :
    Calls Try.prog 60 #[.agg #[.int .i64 3, .slice (some ⟨pr, 0, none⟩) 1 1, .int .i64 A]] w fun e w' => e = .returned (.bool true) ∧ Below w.heap.size w w' := by
  have hb0 : Below w.heap.size w (w.alloc (.cells #[.int .i64 3, .slice (some ⟨pr, 0, none⟩) 1 1, .int .i64 A] 46)) := below1 _ _
  have hm : ModB (w.alloc (.cells #[.int .i64 3, .slice (some ⟨pr, 0, none⟩) 1 1, .int .i64 A] 46)) w.heap.size pr A := ⟨by go_simp, by go_simp, by go_simp⟩
  have hI := indexRow_any w.heap.size pr A p row n c hx hn1 hn hO hK _ hm (by simp) (by simp; omega) ((hb0.cell (p := ⟨pr, 0, none⟩) hpr).trans hp) (hR.below hb0 (Nat.le_refl _))
  have hCt : Calls Try.prog 74 #[.slice (some ⟨pr, 0, none⟩) 1 1, .func (.func 72) #[] #[.pointer (some ⟨w.heap.size, 0, none⟩)]] (w.alloc (.cells #[.int .i64 3, .slice (some ⟨pr, 0, none⟩) 1 1, .int .i64 A] 46)) fun e w' => e = .returned (.bool false) ∧ Below w.heap.size w w' := by
    generalize w.alloc (.cells #[.int .i64 3, .slice (some ⟨pr, 0, none⟩) 1 1, .int .i64 A] 46) = W at hI hb0 hm ⊢
    go_enter Try.func74, Try.ntmps74
    go_wp2_with fail
    refine hI.mono ?_
    rintro e w2 ⟨rfl, hb2⟩
    go_wp2
    go_ret
    exact ⟨rfl, hb0.trans (hb2.mono hb0.size)⟩
  clear hI hm hb0
  go_enter Try.func60, Try.ntmps60
  go_wp2_with fail
  refine hCt.mono ?_
  rintro e w2 ⟨rfl, hb2⟩
  go_wp2
  go_ret
  exact ⟨rfl, hb2⟩
end Go.Proofs.Ytahmhdjoaoldcaa
