/-
  Package hexagram: whether a list has each hexagram once; the reference's word on it.
-/
import Derived.Test.YtoeflgmdaaefeaaGreatDoorHxVl
import Derived.Test.YtoeflgmdaaefeaaGreatDoorHxVn
namespace Go.Proofs.YtoeflgmdaaefeaaGreatDoor
open Go Go.RowKit Go.Shelf Go.Sort Go.Lib
set_option linter.unusedVariables false

set_option maxHeartbeats 1000000 in
theorem collect_any (B m c : Nat) (p : Option Addr) (xs : List Int) (w : World) (hc : w.cell? ⟨B, 0, none⟩ = some (.slice p m c)) (hlen : Hid (xs.length = m)) (hm : m ≤ 1000000) (hR : Reads w p xs) :
    Calls Tryz.prog 89 #[.func (.func 90) #[] #[.pointer (some ⟨B, 0, none⟩)]] w fun e W' => ∃ v, e = .returned v ∧ W'.ownsRow w.heap.size 3 1 v m (xs.map (Value.int .i64)) ∧ Below w.heap.size w W' := by
  have C := (callsIn_wide (n := 4)).1 (appendSeq_in B m c p xs w hc hlen hm hR)
  go_enter Tryz.func89, Tryz.ntmps89
  go_wp2_with fail
  refine C.mono ?_
  rintro e w' ⟨v, rfl, hown, hb⟩
  clear C
  go_wp2
  go_ret
  exact ⟨v, rfl, hown, hb⟩

theorem sort_own2 {base : Nat} (v : Value) (xs : List Int) (m : Nat) (hlen : Hid (xs.length = m)) (w0 w : World) (hne : m ≠ 0) (hl : m ≤ 1000000) (h : w.ownsRow base 3 1 v m (xs.map (Value.int .i64))) (hb : Below base w0 w) (hbw : base ≤ w.heap.size) :
    Calls Tryz.prog 57 #[v] w fun e w' => e = .returned (.tuple #[]) ∧ w'.ownsRow base 3 1 v m ((sortL xs).map (Value.int .i64)) ∧ Below base w0 w' := by
  obtain rfl := hlen.out
  have hv : v ≠ .slice none 0 0 := fun e => by
    subst e
    rcases h.2 with ⟨_, h0⟩ | ⟨g, cap, cur, e0, _⟩
    · exact hne h0
    · cases e0
  obtain ⟨g, cap, rfl, hg, hgw, h1, h2, h3, hH⟩ := holds_of_ownsRow h hv
  refine (Tryz.slices_Sort_int g 0 cap xs w hH hgw (by omega)).mono ?_
  rintro e w' ⟨rfl, n, os, rfl⟩
  have ho := ownsRow_putRow (q := n) (k := xs.length) (ys := sortL xs) h (sortL_length xs) (Nat.le_refl _)
  rw [List.take_of_length_le (by rw [sortL_length]; exact Nat.le_refl _)] at ho
  exact ⟨rfl, owns_below ho (below_grow (Below.refl _ _) (Nat.le_refl _) os), below_grow (below_putRow hb hg) (by simp [putRow, mapBlock, Sort.ahead]; omega) os⟩

set_option maxHeartbeats 1000000 in
theorem sorted_any (B m c : Nat) (p : Option Addr) (xs : List Int) (w : World) (hc : w.cell? ⟨B, 0, none⟩ = some (.slice p m c)) (hlen : Hid (xs.length = m)) (hm0 : m ≠ 0) (hm : m ≤ 1000000) (hR : Reads w p xs) :
    Calls Tryz.prog 64 #[.func (.func 90) #[] #[.pointer (some ⟨B, 0, none⟩)]] w fun e W' => ∃ v, e = .returned v ∧ W'.ownsRow w.heap.size 3 1 v m ((sortL xs).map (Value.int .i64)) ∧ Below w.heap.size w W' := by
  go_enter Tryz.func64, Tryz.ntmps64
  go_wp2_with fail
  refine (collect_any B m c p xs w hc hlen hm hR).mono ?_
  rintro e w1 ⟨v, rfl, hown, hb⟩
  have C := sort_own2 v xs m hlen w w1 hm0 hm hown hb hb.size
  clear hown
  go_wp2_with fail
  refine C.mono ?_
  rintro e w2 ⟨rfl, hown2, hb2⟩
  clear C
  go_wp2
  go_ret
  exact ⟨v, rfl, hown2, hb2⟩

theorem compact_own {base : Nat} (v : Value) (xs : List Int) (m : Nat) (hlen : Hid (xs.length = m)) (w0 w : World) (hne : m ≠ 0) (hl : m ≤ 1000000) (h : w.ownsRow base 3 1 v m (xs.map (Value.int .i64))) (hb : Below base w0 w) :
    Calls Tryz.prog 66 #[v] w fun e w' => ∃ q d, e = .returned (.slice q (Lib.compact xs).length d) ∧ Below base w0 w' := by
  obtain rfl := hlen.out
  have hv : v ≠ .slice none 0 0 := fun e => by
    subst e
    rcases h.2 with ⟨_, h0⟩ | ⟨g, cap, cur, e0, _⟩
    · exact hne h0
    · cases e0
  obtain ⟨g, cap, rfl, hg, hgw, h1, h2, h3, hH⟩ := holds_of_ownsRow h hv
  refine (Tryz.slices_Compact_int g 0 cap xs w hH (by omega) h1).mono ?_
  rintro e w' ⟨rfl, n, rfl⟩
  exact ⟨_, _, rfl, below_putRow hb hg⟩

set_option maxHeartbeats 1000000 in
theorem values_any (p : Option Addr) (m c : Nat) (w : World) :
    Calls Tryz.prog 65 #[.slice p m c] w fun e w' => e = .returned (.func (.func 90) #[] #[.pointer (some ⟨w.heap.size, 0, none⟩)]) ∧ w.alloc (.cells #[.slice p m c] 22) = w' := by
  go_enter Tryz.func65, Tryz.ntmps65
  go_wp2
  go_ret
  exact ⟨rfl, rfl⟩

theorem ordB_false {xs : List Int} {m : Nat} (h : xs.length = m) (h2 : m ≠ 64) : ordB xs = false := by
  unfold ordB
  rw [decide_eq_false (by omega)]
  rfl
theorem chk_all {xs : List Int} : chkH xs = 0 ↔ ∀ k, k < xs.length → 0 ≤ nth xs k ∧ nth xs k ≤ 63 := ⟨fun h k hk => chkH_zero h k hk, fun h => chkH_of h⟩
theorem ordB_chk {xs : List Int} (h : xs.length = 64) : ordB xs = (decide (chkH xs = 0) && decide ((Lib.compact (sortL xs)).length = 64)) := by
  unfold ordB
  rw [decide_eq_true h, Bool.true_and]
  have := ord_complete h
  rw [← chk_all] at this
  by_cases h1 : chkH xs = 0 <;> by_cases h2 : (Lib.compact (sortL xs)).length = 64 <;> simp [h1, h2, this]

set_option maxHeartbeats 1000000 in
theorem complete_any (p : Option Addr) (xs : List Int) (m c : Nat) (w : World) (hlen : Hid (xs.length = m)) (hm : m ≤ 1000000) (hR : Reads w p xs) :
    Calls Tryz.prog 30 #[.slice p m c] w fun e w' => e = .returned (.bool (ordB xs)) ∧ Below w.heap.size w w' := by
  by_cases h64 : m = 64
  · subst h64
    have CH := fun (V : World) (h : Reads V p xs) => checkH_any p xs c V (by have := hlen.out; omega) h
    rw [hlen.out] at CH
    have EO := Lib.hid (ordB_chk hlen.out)
    rcases chkH_or xs with h0 | h0
    · rw [h0] at CH
      have H0 := Lib.hid h0
      clear h0
      have CS := fun (V : World) (B : Nat) (h : V.cell? ⟨B, 0, none⟩ = some (.slice p 64 c)) (hr : Reads V p xs) => sorted_any B 64 c p xs V h hlen (by omega) (by omega) hr
      obtain ⟨N, hN⟩ : ∃ N, (Lib.compact (sortL xs)).length = N := ⟨_, rfl⟩
      have CC := fun (V : World) (v : Value) (W0 : World) (h : V.ownsRow W0.heap.size 3 1 v 64 ((sortL xs).map (Value.int .i64))) (hb : Below W0.heap.size W0 V) => compact_own v (sortL xs) 64 (Lib.hid ((sortL_length xs).trans hlen.out)) W0 V (by omega) (by omega) h hb
      rw [hN] at CC
      have HN := Lib.hid hN
      clear hN
      go_enter Tryz.func30, Tryz.ntmps30
      go_wp2_with fail
      refine (CH w hR).mono ?_
      rintro e w1 ⟨rfl, hb1⟩
      have hr1 := hR.below hb1 (Nat.le_refl _)
      clear CH
      go_wp2_with fail
      refine (values_any p 64 c w1).mono ?_
      rintro e w2 ⟨rfl, hw2⟩
      have hc2 : w2.cell? ⟨w1.heap.size, 0, none⟩ = some (.slice p 64 c) := by rw [← hw2, World.cell?_alloc_at _ _ _ _ rfl]; rfl
      have hb2 : Below w1.heap.size w1 w2 := hw2 ▸ below1 _ _
      have hr2 := hr1.below hb2 (Nat.le_refl _)
      have hb3 := tr hb1 hb2
      clear hw2 hb1 hb2 hr1
      go_wp2_with fail
      refine (CS w2 _ hc2 hr2).mono ?_
      rintro e w3 ⟨v, rfl, hown, hb4⟩
      clear CS hc2
      go_wp2_with fail
      refine (CC w3 v w2 hown hb4).mono ?_
      rintro e w4 ⟨q, d, rfl, hb5⟩
      clear CC hown
      go_wp2
      go_ret
      have e64 : (decide ((0 : Int) = 0) && decide (N = 64)) = ((N : Int) == 64) := by
        rw [decide_eq_true rfl, Bool.true_and, Bool.eq_iff_iff]
        simp
        omega
      exact ⟨by rw [EO.out, H0.out, HN.out, e64]; rfl, tr hb3 hb5⟩
    · rw [h0] at CH
      have E := Lib.hid (show ordB xs = false by rw [EO.out, h0]; rfl)
      clear h0
      go_enter Tryz.func30, Tryz.ntmps30
      go_wp2_with fail
      refine (CH w hR).mono ?_
      rintro e w1 ⟨rfl, hb1⟩
      go_wp2
      go_ret
      exact ⟨by rw [E.out]; rfl, hb1⟩
  · have E := Lib.hid (ordB_false hlen.out h64)
    have e1 : ((m : Int) != 64) = true := by simp; omega
    clear h64
    go_enter Tryz.func30, Tryz.ntmps30
    go_wp2
    go_ret
    exact ⟨by rw [E.out]; rfl, Below.refl _ _⟩

set_option maxHeartbeats 1000000 in
theorem place_any (p : Option Addr) (xs : List Int) (n c : Nat) (x : Int) (w : World) (hn : Hid (xs.length = n)) (hl : n ≤ 1000000) (hR : Reads w p xs) :
    Calls Tryz.prog 32 #[.slice p n c, .int .i64 x] w fun e w' => e = .returned (.int .i64 (idxI xs x)) ∧ w = w' := by
  go_enter Tryz.func32, Tryz.ntmps32
  go_wp2
  go_loop [5] (fun i => ∃ k : Nat, k ≤ n ∧ i = .int .i64 k ∧ Hid (∀ j, j < k → nth xs j ≠ x)) (fun i => n - (intOf i).toNat)
  case atStart => exact ⟨0, by omega, rfl, fun j hj => by omega⟩
  case round =>
    obtain ⟨k, hk, rfl, HN⟩ := hrel
    by_cases hlt : k < n
    · obtain ⟨q, o, rfl, hcell⟩ := hR k (by have := hn.out; omega)
      obtain ⟨v, hv⟩ : ∃ v, nth xs k = v := ⟨_, rfl⟩
      rw [hv] at hcell
      have HV := Lib.hid hv
      clear hv
      by_cases hq : v = x
      · subst hq
        have E := Lib.hid (idxI_at (by have := hn.out; omega) HN.out HV.out)
        go_wp2
        go_ret
        exact ⟨by rw [E.out]; rfl, rfl⟩
      · have e2 : (v == x) = false := by simpa using hq
        have HQ := Lib.hid hq
        clear hq
        go_wp2
        go_round
        case rel => exact ⟨k + 1, by omega, by go_num, fun j hj => by
          by_cases e : j = k
          · subst e; rw [HV.out]; exact HQ.out
          · exact HN.out j (by omega)⟩
        case measure => simp [intOf]; omega
    · obtain rfl : k = n := by omega
      have E := Lib.hid (idxI_none (x := x) (xs := xs) fun j hj => HN.out j (by have := hn.out; omega))
      go_wp2
      go_ret
      exact ⟨by rw [E.out]; rfl, rfl⟩

set_option maxHeartbeats 1000000 in
theorem refOrder_any (p : Option Addr) (xs : List Int) (n c : Nat) (w : World) (hn : Hid (xs.length = n)) (hl : n ≤ 1000000) (hR : Reads w p xs) :
    Calls Tryz.prog 11 #[.slice p n c] w fun e w' => e = .returned (.bool (ordB xs)) ∧ w = w' := by
  go_enter Tryz.func11, Tryz.ntmps11
  go_wp2
  go_loop [3] (fun i => ∃ k : Nat, k ≤ 64 ∧ i = .int .i64 k ∧ Hid (∀ j : Nat, j < k → (j : Int) ∈ xs)) (fun i => 64 - (intOf i).toNat)
  case atStart => exact ⟨0, by omega, rfl, fun j hj => by omega⟩
  case round =>
    obtain ⟨k, hk, rfl, HN⟩ := hrel
    by_cases hlt : k < 64
    · have C := place_any p xs n c (k : Int) w hn hl hR
      obtain ⟨v, hv⟩ : ∃ v, idxI xs (k : Int) = v := ⟨_, rfl⟩
      rw [hv] at C
      by_cases h0 : 0 ≤ v
      · have HM := Lib.hid (idx_mem.1 (by rw [hv]; exact h0))
        clear hv
        go_wp2_with fail
        refine C.mono ?_
        rintro e w' ⟨rfl, rfl⟩
        clear C
        go_wp2
        go_round
        case rel => exact ⟨k + 1, by omega, by go_num, fun j hj => by
          by_cases e : j = k
          · subst e; exact HM.out
          · exact HN.out j (by omega)⟩
        case measure => simp [intOf]; omega
      · have E := Lib.hid (show ordB xs = false by
          unfold ordB
          rw [decide_eq_false (p := Ord xs) fun h => h0 (by rw [← hv]; exact idx_mem.2 (h k hlt)), Bool.and_false])
        clear hv
        go_wp2_with fail
        refine C.mono ?_
        rintro e w' ⟨rfl, rfl⟩
        clear C
        go_wp2
        go_ret
        exact ⟨by rw [E.out]; rfl, rfl⟩
    · obtain rfl : k = 64 := by omega
      have E := Lib.hid (show ordB xs = decide (n = 64) by
        unfold ordB
        rw [decide_eq_true (p := Ord xs) HN.out, Bool.and_true, hn.out])
      by_cases h64 : n = 64
      · subst h64
        go_wp2
        go_ret
        exact ⟨by rw [E.out]; rfl, rfl⟩
      · have e1 : ((n : Int) == 64) = false := by simp; omega
        have E2 := Lib.hid (show ordB xs = false by rw [E.out]; simp [h64])
        clear h64
        go_wp2
        go_ret
        exact ⟨by rw [E2.out]; rfl, rfl⟩
end Go.Proofs.YtoeflgmdaaefeaaGreatDoor
