/-
  What Not, rest and restOf of the reference return.
-/
import Derived.Test.YtnpnnfbmnlgioaaCd
import Derived.Deep.RegionHeld3
import Derived.Deep.RegionWith
namespace Go.Proofs.Ytnpnnfbmnlgioaa
open Go.RowKit
set_option linter.unusedVariables false

theorem put0 {W : World} {b : Nat} {u : Value} (x : Value) (h : W.cell? ⟨b, 0, none⟩ = some u) : (W.setCell ⟨b, 0, none⟩ x).cell? ⟨b, 0, none⟩ = some x := World.cell?_setCell_same' _ _ _ (by rw [h]; rfl)
theorem put1 {W : World} {b : Nat} {u : Value} (x y : Value) (h : W.cell? ⟨b, 1, none⟩ = some u) : ((W.setCell ⟨b, 0, none⟩ x).setCell ⟨b, 1, none⟩ y).cell? ⟨b, 1, none⟩ = some y := World.cell?_setCell_same' _ _ _ (by go_simp)
/-- A new block of a chance, behind what leaves it alone: its cells are free. -/
structure Fr (w : World) (q : Nat) (n d : Int) : Prop where
  c0 : w.cell? ⟨q, 0, none⟩ = some (.int .i64 n)
  c1 : w.cell? ⟨q, 1, none⟩ = some (.int .i64 d)
  f0 : w.frozen? ⟨q, 0, none⟩ = false
  f1 : w.frozen? ⟨q, 1, none⟩ = false
theorem Fr.tr {w w' : World} {q : Nat} {n d : Int} (h : Fr w q n d) (hb : Below w.heap.size w w') : Fr w' q n d :=
  ⟨cell_tr hb h.c0, cell_tr hb h.c1, free_tr hb h.c0 h.f0, free_tr hb h.c1 h.f1⟩
theorem Fr.new (w : World) (n d : Int) (t : TypeId) : Fr (w.alloc (.cells #[.int .i64 n, .int .i64 d] t)) w.heap.size n d := by
  refine ⟨?_, ?_, ?_, ?_⟩ <;> go_simp
theorem Fr.lt {w : World} {q : Nat} {n d : Int} (h : Fr w q n d) : q < w.heap.size := World.block_lt_of_cell? w _ h.c0

set_option maxRecDepth 100000 in
set_option maxHeartbeats 4000000 in
theorem refNot_ok (n d : Int) (w : World) (h : badC n d = false) :
    Calls Try.prog 13 #[.agg #[.int .i64 n, .int .i64 d]] w fun e w' => e = .returned (.tuple #[.agg #[.int .i64 (d - n), .int .i64 d], .int .i64 0]) ∧ Below w.heap.size w w' := by
  have hC := fun w => refChance_ok n d w
  rw [h] at hC
  obtain ⟨d1, d2, n1, n2, _⟩ := badC_ok h
  clear h
  have z : Fr (w.alloc (.cells #[.int .i64 n, .int .i64 d] 23)) w.heap.size n d := Fr.new _ _ _ _
  have y : Fr ((w.alloc (.cells #[.int .i64 n, .int .i64 d] 23)).alloc (.cells #[.int .i64 0, .int .i64 0] 23)) (w.heap.size + 1) 0 0 := by have := Fr.new (w.alloc (.cells #[.int .i64 n, .int .i64 d] 23)) 0 0 23; simpa using this
  have z1 := z.tr (below1 _ (.cells #[.int .i64 0, .int .i64 0] 23))
  go_enter Try.func13, Try.ntmps13
  go_wp2_with fail
  go_call (hC _) as e w1 ⟨rfl, hb1⟩
  have hB : Below w.heap.size w w1 := ((below1 _ _).alloc (by simp) _).trans (hb1.mono (by simp; omega))
  obtain ⟨c0, c1, _, _⟩ := z1.tr hb1
  obtain ⟨g0, g1, f0, f1⟩ := y.tr hb1
  clear z z1 y
  have e1 : IntKind.i64.wrap (d - n) = d - n := IntWalk.i64_in _ (by omega)
  go_wp2
  have r0 := put0 (.int .i64 (d - n)) g0
  have r1 := put1 (.int .i64 (d - n)) (.int .i64 d) g1
  refine bodyPost_ret (v := .tuple #[.agg #[.int .i64 (d - n), .int .i64 d], .int .i64 0]) (by simp [results, Try.results13, go_sem, r0, r1]) rfl ⟨rfl, ?_⟩
  exact (hB.setCell (p := ⟨w.heap.size + 1, 0, none⟩) (by simp) _).setCell (p := ⟨w.heap.size + 1, 1, none⟩) (by simp) _

set_option maxRecDepth 100000 in
set_option maxHeartbeats 4000000 in
theorem refNot_bad (n d : Int) (w : World) (h : badC n d = true) :
    Calls Try.prog 13 #[.agg #[.int .i64 n, .int .i64 d]] w fun e w' => e = .returned (.tuple #[.agg #[.int .i64 0, .int .i64 0], .int .i64 2]) ∧ Below w.heap.size w w' := by
  have hC := fun w => refChance_ok n d w
  rw [h] at hC
  clear h
  have y : Fr ((w.alloc (.cells #[.int .i64 n, .int .i64 d] 23)).alloc (.cells #[.int .i64 0, .int .i64 0] 23)) (w.heap.size + 1) 0 0 := by have := Fr.new (w.alloc (.cells #[.int .i64 n, .int .i64 d] 23)) 0 0 23; simpa using this
  go_enter Try.func13, Try.ntmps13
  go_wp2_with fail
  go_call (hC _) as e w1 ⟨rfl, hb1⟩
  have hB : Below w.heap.size w w1 := ((below1 _ _).alloc (by simp) _).trans (hb1.mono (by simp; omega))
  obtain ⟨g0, g1, f0, f1⟩ := y.tr hb1
  clear y
  go_wp2
  have r0 := put0 (.int .i64 0) g0
  have r1 := put1 (.int .i64 0) (.int .i64 0) g1
  refine bodyPost_ret (v := .tuple #[.agg #[.int .i64 0, .int .i64 0], .int .i64 2]) (by simp [results, Try.results13, go_sem, r0, r1]) rfl ⟨rfl, ?_⟩
  exact (hB.setCell (p := ⟨w.heap.size + 1, 0, none⟩) (by simp) _).setCell (p := ⟨w.heap.size + 1, 1, none⟩) (by simp) _

set_option maxRecDepth 100000 in
set_option maxHeartbeats 4000000 in
theorem refRest_ok (a b c : Int) (w : World) (ha : 0 ≤ a) (hb : 0 ≤ b) (hc : 1 ≤ c) (ha2 : a ≤ 1000000000000000) (hb2 : b ≤ 1000000000000000) (hc2 : c ≤ 1000000000000000) :
    Calls Try.prog 34 #[.int .i64 a, .int .i64 b, .int .i64 c] w fun e w' => e = .returned (.int .i64 (a * b % c)) ∧ Below w.heap.size w w' := by
  have a0 : 0 ≤ a % c := Int.emod_nonneg _ (by omega)
  have b0 : 0 ≤ b % c := Int.emod_nonneg _ (by omega)
  have a3 : a % c < c := Int.emod_lt_of_pos _ (by omega)
  have b3 : b % c < c := Int.emod_lt_of_pos _ (by omega)
  obtain ⟨y, hy⟩ : ∃ k : Nat, b % c = k := ⟨(b % c).toNat, by omega⟩
  have hD := fun w => refDivided_any (a % c) c y w a0 hc (by omega) (by omega) hc2 (by
    show _ ≤ _
    calc a % c * (y : Int) ≤ c * (y : Int) := Int.mul_le_mul_of_nonneg_right (by omega) (by omega)
      _ ≤ c * 1000000000000000 := Int.mul_le_mul_of_nonneg_left (by omega) (by omega)
      _ = _ := Int.mul_comm _ _)
  rw [← hy, ← Int.mul_emod] at hD
  have e1 : a.tmod c = a % c := Int.tmod_eq_emod_of_nonneg ha
  have e2 : b.tmod c = b % c := Int.tmod_eq_emod_of_nonneg hb
  have hz : ¬ c = 0 := by omega
  clear hy
  obtain ⟨r, hr⟩ : ∃ r, a * b % c = r := ⟨_, rfl⟩
  rw [hr] at hD ⊢
  obtain ⟨q, hq⟩ : ∃ r, a % c * (b % c) / c = r := ⟨_, rfl⟩
  rw [hq] at hD
  clear hr hq
  obtain ⟨A, hA⟩ : ∃ r, a % c = r := ⟨_, rfl⟩
  obtain ⟨B, hB⟩ : ∃ r, b % c = r := ⟨_, rfl⟩
  rw [hA] at hD e1
  rw [hB] at hD e2
  clear a0 b0 a3 b3
  go_enter Try.func34, Try.ntmps34
  go_wp2
  go_region_held3 (fun w' => Below w.heap.size w w')
    (first | with_reducible exact (Below.refl _ _).drew | with_reducible assumption | with_reducible exact tr hbw hbk)
    (first | (go_at_call 32; refine (hD _).mono ?_; rintro e w' ⟨rfl, hbk⟩; have hbw : Below w.heap.size w _ := (by assumption)))
  rename_i hh
  go_wp2
  go_ret
  exact ⟨rfl, hh⟩

set_option maxRecDepth 100000 in
set_option maxHeartbeats 4000000 in
/-- restOf, the two divisions given. -/
theorem refRestOf_ok (an ad bn bd den x r y s z : Int) (w : World) (hz : z = if 0 < r ∨ 0 < s then 1 else 0)
    (hA : ∀ w, Calls Try.prog 32 #[.int .i64 an, .int .i64 den, .int .i64 ad] w fun e w' => e = .returned (.tuple #[.int .i64 x, .int .i64 r]) ∧ Below w.heap.size w w')
    (hB : ∀ w, Calls Try.prog 32 #[.int .i64 bn, .int .i64 den, .int .i64 bd] w fun e w' => e = .returned (.tuple #[.int .i64 y, .int .i64 s]) ∧ Below w.heap.size w w') :
    Calls Try.prog 35 #[.agg #[.int .i64 an, .int .i64 ad], .agg #[.int .i64 bn, .int .i64 bd], .int .i64 den] w fun e w' => e = .returned (.int .i64 z) ∧ Below w.heap.size w w' := by
  have z0 := Fr.new w an ad 23
  have y0 : Fr ((w.alloc (.cells #[.int .i64 an, .int .i64 ad] 23)).alloc (.cells #[.int .i64 bn, .int .i64 bd] 23)) (w.heap.size + 1) bn bd := by have := Fr.new (w.alloc (.cells #[.int .i64 an, .int .i64 ad] 23)) bn bd 23; simpa using this
  by_cases h1 : 0 < r
  · have Hz : Hid (z = 1) := by show _ = _; rw [hz, if_pos (.inl h1)]
    clear hz
    go_enter Try.func35, Try.ntmps35
    go_wp2_with fail
    go_call (hA _) as e w1 ⟨rfl, hb1⟩
    have hB1 : Below w.heap.size w w1 := ((below1 _ _).alloc (by simp) _).trans (hb1.mono (by simp; omega))
    obtain ⟨c0, c1, _, _⟩ := y0.tr hb1
    clear z0 y0
    go_wp2_with fail
    go_call (hB _) as e w2 ⟨rfl, hb2⟩
    go_wp2
    go_ret
    exact ⟨by rw [Hz.out]; rfl, tr hB1 hb2⟩
  · by_cases h2 : 0 < s
    · have Hz : Hid (z = 1) := by show _ = _; rw [hz, if_pos (.inr h2)]
      clear hz
      go_enter Try.func35, Try.ntmps35
      go_wp2_with fail
      go_call (hA _) as e w1 ⟨rfl, hb1⟩
      have hB1 : Below w.heap.size w w1 := ((below1 _ _).alloc (by simp) _).trans (hb1.mono (by simp; omega))
      obtain ⟨c0, c1, _, _⟩ := y0.tr hb1
      clear z0 y0
      go_wp2_with fail
      go_call (hB _) as e w2 ⟨rfl, hb2⟩
      go_wp2
      go_ret
      exact ⟨by rw [Hz.out]; rfl, tr hB1 hb2⟩
    · have Hz : Hid (z = 0) := by show _ = _; rw [hz, if_neg (by omega)]
      clear hz
      go_enter Try.func35, Try.ntmps35
      go_wp2_with fail
      go_call (hA _) as e w1 ⟨rfl, hb1⟩
      have hB1 : Below w.heap.size w w1 := ((below1 _ _).alloc (by simp) _).trans (hb1.mono (by simp; omega))
      obtain ⟨c0, c1, _, _⟩ := y0.tr hb1
      clear z0 y0
      go_wp2_with fail
      go_call (hB _) as e w2 ⟨rfl, hb2⟩
      go_wp2
      go_ret
      exact ⟨by rw [Hz.out]; rfl, tr hB1 hb2⟩

/-- What Both returns. -/
def sBoth (an ad bn bd : Int) : Int × Int × Int :=
  if badC an ad = true ∨ badC bn bd = true then (0, 0, 2)
  else if 1000000000000000 < bd / Int.gcd an bd * (ad / Int.gcd bn ad) then (0, 0, 10)
  else (an / Int.gcd an bd * (bn / Int.gcd bn ad), bd / Int.gcd an bd * (ad / Int.gcd bn ad), 0)

set_option maxRecDepth 100000 in
set_option maxHeartbeats 4000000 in
theorem refBoth_bad (an ad bn bd : Int) (w : World) (h : badC an ad = true ∨ badC bn bd = true) :
    Calls Try.prog 12 #[.agg #[.int .i64 an, .int .i64 ad], .agg #[.int .i64 bn, .int .i64 bd]] w fun e w' => e = .returned (.tuple #[.agg #[.int .i64 0, .int .i64 0], .int .i64 2]) ∧ Below w.heap.size w w' := by
  have hA := fun w => refChance_ok an ad w
  have hB := fun w => refChance_ok bn bd w
  have y0 : Fr (((w.alloc (.cells #[.int .i64 an, .int .i64 ad] 23)).alloc (.cells #[.int .i64 bn, .int .i64 bd] 23)).alloc (.cells #[.int .i64 0, .int .i64 0] 23)) (w.heap.size + 1 + 1) 0 0 := by have := Fr.new ((w.alloc (.cells #[.int .i64 an, .int .i64 ad] 23)).alloc (.cells #[.int .i64 bn, .int .i64 bd] 23)) 0 0 23; simpa using this
  have z0 : Fr (((w.alloc (.cells #[.int .i64 an, .int .i64 ad] 23)).alloc (.cells #[.int .i64 bn, .int .i64 bd] 23)).alloc (.cells #[.int .i64 0, .int .i64 0] 23)) (w.heap.size + 1) bn bd := by have := (Fr.new (w.alloc (.cells #[.int .i64 an, .int .i64 ad] 23)) bn bd 23).tr (below1 _ (.cells #[.int .i64 0, .int .i64 0] 23)); simpa using this
  by_cases h1 : badC an ad = true
  · rw [h1] at hA
    clear h h1 hB
    go_enter Try.func12, Try.ntmps12
    go_wp2_with fail
    go_call (hA _) as e w1 ⟨rfl, hb1⟩
    have hB1 : Below w.heap.size w w1 := (((below1 _ _).alloc (by simp) _).alloc (by simp; omega) _).trans (hb1.mono (by simp; omega))
    obtain ⟨g0, g1, f0, f1⟩ := y0.tr hb1
    clear y0 z0
    go_wp2
    have r0 := put0 (.int .i64 0) g0
    have r1 := put1 (.int .i64 0) (.int .i64 0) g1
    refine bodyPost_ret (v := .tuple #[.agg #[.int .i64 0, .int .i64 0], .int .i64 2]) (by simp [results, Try.results12, go_sem, r0, r1]) rfl ⟨rfl, ?_⟩
    exact (hB1.setCell (p := ⟨w.heap.size + 1 + 1, 0, none⟩) (by simp; omega) _).setCell (p := ⟨w.heap.size + 1 + 1, 1, none⟩) (by simp; omega) _
  · have h1' : badC an ad = false := by simpa using h1
    have h2 : badC bn bd = true := h.resolve_left h1
    rw [h1'] at hA
    rw [h2] at hB
    clear h h1 h1' h2
    go_enter Try.func12, Try.ntmps12
    go_wp2_with fail
    go_call (hA _) as e w1 ⟨rfl, hb1⟩
    have hB1 : Below w.heap.size w w1 := (((below1 _ _).alloc (by simp) _).alloc (by simp; omega) _).trans (hb1.mono (by simp; omega))
    have y1 := y0.tr hb1
    obtain ⟨c0, c1, _, _⟩ := z0.tr hb1
    clear y0 z0
    go_wp2_with fail
    go_call (hB _) as e w2 ⟨rfl, hb2⟩
    have hB2 := tr hB1 hb2
    obtain ⟨g0, g1, f0, f1⟩ := y1.tr hb2
    clear y1
    go_wp2
    have r0 := put0 (.int .i64 0) g0
    have r1 := put1 (.int .i64 0) (.int .i64 0) g1
    refine bodyPost_ret (v := .tuple #[.agg #[.int .i64 0, .int .i64 0], .int .i64 2]) (by simp [results, Try.results12, go_sem, r0, r1]) rfl ⟨rfl, ?_⟩
    exact (hB2.setCell (p := ⟨w.heap.size + 1 + 1, 0, none⟩) (by simp; omega) _).setCell (p := ⟨w.heap.size + 1 + 1, 1, none⟩) (by simp; omega) _
end Go.Proofs.Ytnpnnfbmnlgioaa
