/-
  The document's examples, as the statements of chapter 4 ask for them: known returns true.
-/
import Derived.Test.YtojlopfjhhiilaaGreatDoorHxV
namespace Go.Proofs.YtojlopfjhhiilaaGreatDoor
open Go Go.RowKit
set_option linter.unusedVariables false

theorem six_new (W : World) (x : List Int) : Below W.heap.size W (W.alloc (.cells (arr x) 3)) := below1 _ _
theorem kc_cast (w : World) : Calls Tryz.prog 23 #[.agg #[.int .i64 7, .int .i64 8, .int .i64 9, .int .i64 6, .int .i64 7, .int .i64 7]] w fun e w' => e = .returned (.tuple #[.int .i64 53, .int .i64 57, .int .i64 0]) ∧ Below w.heap.size w w' := by
  have := castF_any 7 8 9 6 7 7 w
  obtain ⟨a, b, c⟩ := k_cast
  rw [a, b, c] at this
  exact this
theorem kc_apply (w : World) (q : Nat) (hR : Reads w (some ⟨q, 0, none⟩) [3]) (hs : Src w) : Calls Tryz.prog 12 #[.int .i64 53, .slice (some ⟨q, 0, none⟩) 1 1] w fun e w' => e = .returned (.tuple #[.int .i64 42, .int .i64 0]) ∧ Below w.heap.size w w' := by
  have := applyF_any 53 (some ⟨q, 0, none⟩) [3] 1 (by simp) w hR hs
  obtain ⟨a, b⟩ := k_apply
  rw [a, b] at this
  exact this
theorem kc_chain (w : World) (hs : Src w) : Calls Tryz.prog 24 #[.int .i64 53] w fun e w' => (∃ q c, e = .returned (.tuple #[.slice q 3 c, .int .i64 1, .int .i64 0]) ∧ Reads w' q [53, 42, 21]) ∧ Below w.heap.size w w' := by
  have := chain_any 53 w hs
  obtain ⟨a, b, c⟩ := k_chain
  rw [a, b, c] at this
  exact this
theorem kc_orbit (w : World) (hs : Src w) : Calls Tryz.prog 5 #[.int .i64 53, .int .i64 3] w fun e w' => ∃ q, (∃ c, e = .returned (.tuple #[.slice q 4 c, .int .i64 0])) ∧ Reads w' q [10, 20, 43, 53] ∧ Below w.heap.size w w' := by
  have := orbit_any 53 3 w hs
  obtain ⟨a, b⟩ := k_orbit
  rw [a, b] at this
  exact this
theorem kc_moving (w : World) (q : Nat) (hR : Reads w (some ⟨q, 0, none⟩) coins) : Calls Tryz.prog 25 #[.slice (some ⟨q, 0, none⟩) 10 10] w fun e w' => ∃ g, (e = .returned (.tuple #[.slice (some ⟨g, 0, none⟩) 7 7, .int .i64 0]) ∧ Reads w' (some ⟨g, 0, none⟩) coinsM) ∧ Below w.heap.size w w' := by
  have := moving_ok (some ⟨q, 0, none⟩) coins 10 10 w rfl (by omega) (by omega) (by omega) hR coins_ok coinsL (fun m e => by subst e; exact coins_is) coins_mid rfl coins_gcd
  rw [coins_low] at this
  exact this
theorem kc_where (w : World) (q : Nat) (hR : ReadsS w (some ⟨q, 0, none⟩) [firstP, secondP]) (hf : Fst w) : Calls Tryz.prog 26 #[.slice (some ⟨q, 0, none⟩) 2 2] w fun e w' => e = .returned (.tuple #[.int .u64 (whereV [firstP, secondP]), .int .i64 0]) ∧ Below w.heap.size w w' := by
  have := where_any (some ⟨q, 0, none⟩) [firstP, secondP] 2 w (by simp) (fun k hk => by
    have : k = 0 ∨ k = 1 := by simp at hk; omega
    rcases this with rfl | rfl <;> decide) hR hf
  rw [k_whereE] at this
  exact this
theorem kc_patterns (w : World) (hf : Fst w) : Calls Tryz.prog 27 #[.int .u64 11] w fun e w' => ∃ q, (∃ c, e = .returned (.slice q 2 c)) ∧ ReadsS w' q [thirdP, fourthP] ∧ Below w.heap.size w w' := by
  have := patterns_any 11 w hf
  rw [k_patterns] at this
  exact this

theorem keepS {q3 q4 : Option Addr} {g5 gp op : Nat} {w W W' : World} (h : W.cell? ⟨gp, op, none⟩ = some (.string thirdP) ∧ W.cell? ⟨gp, op + 1, none⟩ = some (.string fourthP) ∧ Reads W q3 [53, 42, 21] ∧ Reads W q4 [10, 20, 43, 53] ∧ Reads W (some ⟨g5, 0, none⟩) coinsM ∧ Below w.heap.size w W) (hb : Below W.heap.size W W') : W'.cell? ⟨gp, op, none⟩ = some (.string thirdP) ∧ W'.cell? ⟨gp, op + 1, none⟩ = some (.string fourthP) ∧ Reads W' q3 [53, 42, 21] ∧ Reads W' q4 [10, 20, 43, 53] ∧ Reads W' (some ⟨g5, 0, none⟩) coinsM ∧ Below w.heap.size w W' :=
  ⟨cell_tr hb h.1, cell_tr hb h.2.1, h.2.2.1.below hb (Nat.le_refl _), h.2.2.2.1.below hb (Nat.le_refl _), h.2.2.2.2.1.below hb (Nat.le_refl _), tr h.2.2.2.2.2 hb⟩
theorem readsS_new2 (w : World) (T : TypeId) : ReadsS (w.alloc (.cells #[.string firstP, .string secondP] T)) (some ⟨w.heap.size, 0, none⟩) [firstP, secondP] := fun k hk => by
  have : k = 0 ∨ k = 1 := by simp at hk; omega
  rcases this with rfl | rfl
  · exact ⟨_, 0, rfl, by rw [Nat.zero_add, (Blk.new w T _).cell]; rfl⟩
  · exact ⟨_, 0, rfl, by rw [Nat.zero_add, (Blk.new w T _).cell]; rfl⟩

set_option maxRecDepth 100000 in
set_option maxHeartbeats 4000000 in
theorem known_any (w : World) (hs : Src w) (hf : Fst w) :
    Calls Tryz.prog 9 #[] w fun e w' => e = .returned (.bool true) ∧ Below w.heap.size w w' := by
  go_enter Tryz.func9, Tryz.ntmps9
  go_wp2_with fail
  refine (kc_cast _).mono ?_
  rintro e w1 ⟨rfl, hb1⟩
  go_wp2_with fail
  refine (kc_apply _ w1.heap.size (reads_new _ _ [3]) (hs.below (tr hb1 (below1 _ _)) (Nat.le_refl _))).mono ?_
  rintro e w2 ⟨rfl, hb2⟩
  have hb3 := tr (tr hb1 (below1 _ _)) hb2
  clear hb1 hb2
  go_wp2_with fail
  refine (kc_chain _ (hs.below hb3 (Nat.le_refl _))).mono ?_
  rintro e w3 ⟨⟨q3, c3, rfl, hr3⟩, hb4⟩
  have hb5 := tr hb3 hb4
  clear hb3 hb4
  go_wp2_with fail
  refine (kc_orbit _ (hs.below hb5 (Nat.le_refl _))).mono ?_
  rintro e w4 ⟨q4, ⟨c4, rfl⟩, hr4, hb6⟩
  have hr34 := hr3.below hb6 (Nat.le_refl _)
  have hb7 := tr hb5 hb6
  clear hb5 hb6 hr3
  go_wp2_with fail
  refine (kc_moving _ w4.heap.size (reads_new _ _ coins)).mono ?_
  rintro e w5 ⟨g5, ⟨rfl, hr5⟩, hb8⟩
  have hb9 := tr (below1 w4 (.cells (arr coins) 3)) hb8
  have hr35 := hr34.below hb9 (Nat.le_refl _)
  have hr45 := hr4.below hb9 (Nat.le_refl _)
  have hb10 := tr hb7 hb9
  clear hb7 hb8 hb9 hr34 hr4
  go_wp2_with fail
  refine (kc_where _ w5.heap.size (readsS_new2 w5 _) (hf.below (tr hb10 (below1 _ _)) (Nat.le_refl _))).mono ?_
  rintro e w6 ⟨rfl, hb11⟩
  have hb12 := tr (below1 w5 (.cells #[.string firstP, .string secondP] 9)) hb11
  have hr36 := hr35.below hb12 (Nat.le_refl _)
  have hr46 := hr45.below hb12 (Nat.le_refl _)
  have hr56 := hr5.below hb12 (Nat.le_refl _)
  have hb13 := tr hb10 hb12
  clear hb10 hb11 hb12 hr35 hr45 hr5
  go_wp2_with fail
  refine (kc_patterns _ (hf.below hb13 (Nat.le_refl _))).mono ?_
  rintro e w7 ⟨p7, ⟨c7, rfl⟩, hp7, hb14⟩
  have hr37 := hr36.below hb14 (Nat.le_refl _)
  have hr47 := hr46.below hb14 (Nat.le_refl _)
  have hr57 := hr56.below hb14 (Nat.le_refl _)
  have hb15 := tr hb13 hb14
  clear hb13 hb14 hr36 hr46 hr56
  obtain ⟨gp, op, rfl, t0⟩ := hp7 0 (by simp)
  obtain ⟨_, _, h1, t1⟩ := hp7 1 (by simp)
  cases h1
  clear hp7
  change w7.cell? ⟨gp, op + 0, none⟩ = some (.string thirdP) at t0
  change w7.cell? ⟨gp, op + 1, none⟩ = some (.string fourthP) at t1
  simp only [Nat.add_zero] at t0
  obtain ⟨f1, f2, f3⟩ := k_where
  generalize whereV [firstP, secondP] = S at f1 f2 f3 ⊢
  have n3 : (thirdP.toList == [49, 63, 48, 48, 48, 48]) = true := by rw [ByteArray.toList_eq]; rfl
  have n4 : (fourthP.toList == [63, 48, 48, 48, 48, 48]) = true := by rw [ByteArray.toList_eq]; rfl
  go_wp2_with fail
  refine (same_any q3 [53, 42, 21] 3 c3 _ [53, 42, 21] 3 _ _ (Lib.hid rfl) (Lib.hid rfl) (by omega) (hr37.below (below1 _ _) (Nat.le_refl _)) (reads_at _ _ [53, 42, 21] _ rfl)).mono ?_
  rintro e w8 ⟨rfl, r8, hw8⟩
  have hb16 : Below w7.heap.size w7 w8 := hw8 ▸ below_drewN (below1 _ _) r8
  clear hw8
  obtain ⟨t0, t1, hr3, hr4, hr5, hb17⟩ := keepS ⟨t0, t1, hr37, hr47, hr57, hb15⟩ hb16
  clear hr37 hr47 hr57 hb15 hb16
  go_wp2_with fail
  refine (same_any q4 [10, 20, 43, 53] 4 c4 _ [10, 20, 43, 53] 4 _ _ (Lib.hid rfl) (Lib.hid rfl) (by omega) (hr4.below (below1 _ _) (Nat.le_refl _)) (reads_at _ _ [10, 20, 43, 53] _ rfl)).mono ?_
  rintro e w9 ⟨rfl, r9, hw9⟩
  have hb18 : Below w8.heap.size w8 w9 := hw9 ▸ below_drewN (below1 _ _) r9
  clear hw9
  obtain ⟨t0, t1, hr3, hr4, hr5, hb17⟩ := keepS ⟨t0, t1, hr3, hr4, hr5, hb17⟩ hb18
  clear hb18
  go_wp2_with fail
  refine (same_any (some ⟨g5, 0, none⟩) coinsM 7 7 _ coinsM 7 _ _ (Lib.hid rfl) (Lib.hid rfl) (by omega) (hr5.below (below1 _ _) (Nat.le_refl _)) (reads_at _ _ coinsM _ rfl)).mono ?_
  rintro e w10 ⟨rfl, r10, hw10⟩
  have hb19 : Below w9.heap.size w9 w10 := hw10 ▸ below_drewN (below1 _ _) r10
  clear hw10
  obtain ⟨t0, t1, hr3, hr4, hr5, hb17⟩ := keepS ⟨t0, t1, hr3, hr4, hr5, hb17⟩ hb19
  clear hb19
  go_wp2_with fail
  go_ret
  exact ⟨rfl, hb17⟩
end Go.Proofs.YtojlopfjhhiilaaGreatDoor
