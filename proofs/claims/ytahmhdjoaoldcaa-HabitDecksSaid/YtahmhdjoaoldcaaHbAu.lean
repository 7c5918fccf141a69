/-
  HabitDecks: the first cast that a deck excludes.
-/
import Derived.Test.YtahmhdjoaoldcaaHbAt
namespace Go.Proofs.Ytahmhdjoaoldcaa
open Go Go.RowKit Go.Shelf
set_option linter.unusedVariables false
set_option linter.unusedSimpArgs false

theorem zero1_any (x y : Int) (w : World) : Calls Try.prog 28 #[.agg #[.int .i64 x, .int .i64 y]] w fun e w' => e = .returned (.bool (x == 0)) ∧ Below w.heap.size w w' := by
  go_enter Try.func28, Try.ntmps28
  go_wp2
  go_ret
  exact ⟨rfl, below1 _ _⟩

set_option maxRecDepth 100000 in
set_option maxHeartbeats 4000000 in
theorem firstZero_any (p : Option Addr) (row xs : List Int) (S : Int) (n0 nl c : Nat) (hnl : nl ≤ 1000) (w : World) (hR : ReadsC w p row xs S n0 nl) :
    Calls Try.prog 29 #[.slice p nl c, .func (.func 28) #[] #[]] w fun e w' => (∃ r : Int, e = .returned (.int .i64 r) ∧ (r = -1 ↔ ∀ k, k < nl → c1C row xs S n0 k ≠ 0)) ∧ Below w.heap.size w w' := by
  go_enter Try.func29, Try.ntmps29
  go_wp2
  go_loopw [8] (fun i wx => ∃ k : Nat, k ≤ nl ∧ i = .int .i64 (k : Int) ∧ Hid (∀ j, j < k → c1C row xs S n0 j ≠ 0) ∧ Below w.heap.size w wx) (fun i _ => nl - (intOf i).toNat)
  case atStart => exact ⟨0, by omega, rfl, Lib.hid (fun j hj => by omega), Below.refl _ _⟩
  case round =>
    obtain ⟨k, hk, rfl, HN, hb⟩ := hrel
    by_cases hlt : k < nl
    · obtain ⟨g, rfl, h1, h2⟩ := hR k hlt
      have hkl : (k : Int) < (nl : Int) := by omega
      have h1' := (hb.cell (p := ⟨g, k * 2, none⟩) (World.block_lt_of_cell? w _ h1)).trans h1
      have h2' := (hb.cell (p := ⟨g, k * 2 + 1, none⟩) (World.block_lt_of_cell? w _ h2)).trans h2
      obtain ⟨x, hx⟩ : ∃ x, c1C row xs S n0 k = x := ⟨_, rfl⟩
      obtain ⟨y, hy⟩ : ∃ y, c2C row xs S n0 k = y := ⟨_, rfl⟩
      rw [hx] at h1'
      rw [hy] at h2'
      have HX := Lib.hid hx
      have hsz := hb.size
      clear hx hy h1 h2
      go_wp2_with fail
      refine (zero1_any x y _).mono ?_
      rintro e w2 ⟨rfl, hb2⟩
      have hB := hb.trans (hb2.mono hsz)
      clear h1' h2' hb hb2
      cases hz : (x == 0)
      · have hxz : x ≠ 0 := by simpa using hz
        clear hz
        go_wp2
        go_round
        case rel => exact ⟨k + 1, by omega, by first | rfl | go_num, Lib.hid (fun j hj => by
          by_cases e : j = k
          · subst e; rw [HX.out]; exact hxz
          · exact HN.out j (by omega)), hB⟩
        case measure => simp [intOf]; omega
      · have hxz : x = 0 := by simpa using hz
        have HZ := Lib.hid hxz
        clear hz hxz
        go_wp2
        go_ret
        exact ⟨⟨(k : Int), rfl, ⟨fun h => by omega, fun h => absurd (HX.out.trans HZ.out) (h k hlt)⟩⟩, hB⟩
    · have hkn : (nl : Int) ≤ (k : Int) := by omega
      go_wp2
      go_ret
      exact ⟨⟨-1, rfl, ⟨fun _ j hj => HN.out j (by omega), fun _ => rfl⟩⟩, hb⟩

set_option maxRecDepth 100000 in
set_option maxHeartbeats 4000000 in
theorem excluded_any (pr q o : Nat) (row xs : List Int) (m cr nl cl n0 : Nat) (pl : Option Addr) (S : Int) (w : World) (hpr : pr < w.heap.size) (hq : q < w.heap.size)
    (hp : w.cell? ⟨pr, 0, none⟩ = some (.slice (some ⟨q, o, none⟩) m cr)) (hR : Reads w (some ⟨q, o, none⟩) row) (hRl : Reads w pl xs)
    (hx : Hid (row.length = m)) (hxl : Hid (xs.length = nl)) (hm32 : m ≤ 32) (hnl : nl ≤ 400) (hK0 : Hid (chk1 row = 0)) (hS : Hid (lsum row = S)) (hn0 : 1 ≤ n0) (hn0S : (n0 : Int) ≤ S) (hS2 : S ≤ 100000) (hr : Hid (InReg xs m)) (hrow : Hid (∀ j, 0 ≤ nth row j ∧ nth row j ≤ 1000)) (hO : Hid (anyB (outB 0 1000) row = false)) (hm1 : 1 ≤ m) (hE : Hid (regE xs m = 0)) :
    Calls Try.prog 15 #[.agg #[.int .i64 3, .slice (some ⟨pr, 0, none⟩) 1 1, .int .i64 (n0 : Int)], .slice pl nl cl] w fun e w' => (∃ r : Int, e = .returned (.tuple #[.int .i64 r, .int .i64 0]) ∧ (r = -1 ↔ ∀ k, k < nl → c1C row xs S n0 k ≠ 0)) ∧ Below w.heap.size w w' := by
  obtain ⟨W0, hW0⟩ : ∃ W0, (w.alloc (.cells #[.int .i64 3, .slice (some ⟨pr, 0, none⟩) 1 1, .int .i64 (n0 : Int)] 46)) = W0 := ⟨_, rfl⟩
  have hb0 : Below w.heap.size w W0 := by rw [← hW0]; exact below1 _ _
  have hmw : ModB W0 w.heap.size pr (n0 : Int) := by rw [← hW0]; exact box_mod w pr n0
  have hs0 : W0.heap.size = w.heap.size + 1 := by rw [← hW0]; simp
  obtain ⟨W1, hW1⟩ : ∃ W1, W0.alloc (.cells #[.int .i64 3, .slice (some ⟨pr, 0, none⟩) 1 1, .int .i64 (n0 : Int)] 46) = W1 := ⟨_, rfl⟩
  have hm1w : ModB W1 (w.heap.size + 1) pr (n0 : Int) := by rw [← hW1, ← hs0]; exact box_mod W0 pr n0
  have hb1 : Below w.heap.size w W1 := by rw [← hW1]; exact hb0.alloc (by omega) _
  have hs1 : W1.heap.size = w.heap.size + 2 := by rw [← hW1]; simp; omega
  have hm0 := hmw.below (show Below W0.heap.size W0 W1 by rw [← hW1]; exact below1 _ _) (by omega)
  have hCH := checkH_any pl xs nl cl hxl hnl (w.heap.size + 1) pr (n0 : Int) (some ⟨q, o, none⟩) row m cr hx hm1 hm32 hO hK0 (by omega) (by rw [hS.out]; exact hn0S) hE W1 (by omega) hm1w (by omega) ((hb1.cell (p := ⟨pr, 0, none⟩) hpr).trans hp) (hR.below hb1 (Nat.le_refl _)) (hRl.below hb1 (Nat.le_refl _))
  have HW0 := Lib.hid hW0
  have HW1 := Lib.hid hW1
  have HS1 := Lib.hid hs1
  have HS0 := Lib.hid hs0
  obtain ⟨m0, m1, m2⟩ := hmw
  clear hs0 hs1 hm1w
  go_enter Try.func15, Try.ntmps15
  go_wp2_with fail
  rw [HS0.out]
  refine hCH.mono ?_
  rintro e w2 ⟨rfl, hb2⟩
  have hB2 := hb1.trans (hb2.mono hb1.size)
  have hs2 := hB2.size
  obtain ⟨n0', n1', n2'⟩ := hm0.below hb2 (by rw [HS1.out]; omega)
  have hAll := chancesH_any pr q o row xs m cr nl cl n0 pl S w2 (by omega) (by omega) ((hB2.cell (p := ⟨pr, 0, none⟩) hpr).trans hp) (hR.below hB2 (Nat.le_refl _)) (hRl.below hB2 (Nat.le_refl _)) hx hxl hm32 hnl hK0 hS hn0 hn0S hS2 hr hrow
  clear hCH m0 m1 m2 hm0 hW0 hW1 hb2 hb1 hb0 hp hR hRl
  go_wp2_with fail
  refine hAll.mono ?_
  rintro e w3 ⟨v, rfl, hv, hb3⟩
  have hB3 := hB2.trans (hb3.mono hB2.size)
  obtain ⟨p3, c3, rfl, hr3⟩ := readsC_of hv
  clear hAll n0' n1' n2' hv
  go_wp2_with fail
  refine (firstZero_any p3 row xs S n0 nl c3 (by omega) _ hr3).mono ?_
  rintro e w4 ⟨⟨r, rfl, hr4⟩, hb4⟩
  have HR4 := Lib.hid hr4
  clear hr4 hr3
  go_wp2
  go_ret2
  exact ⟨⟨r, rfl, HR4.out⟩, hB3.trans (hb4.mono hB3.size)⟩
end Go.Proofs.Ytahmhdjoaoldcaa
