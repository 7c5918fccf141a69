/-
  What commonSum, checkMix and Mix of package odds do, for valid lists.
-/
import Derived.Test.YtnpnnfbmnlgioaaM
namespace Go.Proofs.Ytnpnnfbmnlgioaa
open Go.RowKit Go.Maps

/-- What comes of an entry of a map of lists. -/
theorem Chosen.entry {w : World} {cs : List Int} {ls : List (List Int)} {D : DataW Value} {n : Nat} (h : Chosen w cs ls D n) {x : Int} {c : Addr × Nat × Nat} {kl : Lit} {y : DataW Value × List MemPlace}
    (hkey : keyOf Try.prog 3 (.int .i64 x) = some kl) (hlk : has D kl = true) (hy : RS (.slice (some c.1) c.2.1 c.2.2) = some y) (hat : ∀ zd, D.atKey kl zd = y.1) :
    ∃ j g, j < n ∧ x = (j : Int) ∧ kl = .int .i64 j ∧ 0 < nth cs j ∧ c = (⟨g, 0, none⟩, (nthL ls j).length, (nthL ls j).length) ∧ Reads w (some ⟨g, 0, none⟩) (low (nthL ls j)) := by
  obtain ⟨j, hj, rfl, hp⟩ := h.no kl hlk
  obtain ⟨x', e1, e2, _⟩ := Maps.keyOf_int_inv Try.underlying3 hkey
  cases e1
  cases e2
  obtain ⟨_, g, hz, hr⟩ := h.yes j hj hp
  have e3 := (hat .nil).symm.trans (hz .nil)
  simp only [RS, Option.some.injEq] at hy
  subst hy
  simp only [DataW.held.injEq, Value.slice.injEq, Option.some.injEq] at e3
  obtain ⟨h1, h2, h3⟩ := e3
  exact ⟨j, g, hj, rfl, rfl, hp, by rcases c with ⟨a, b, d⟩; simp only at h1 h2 h3; subst h1; subst h2; subst h3; rfl, hr⟩

/-- What commonSum hands back. -/
def comPost (L : Int) (e : Ending) : Prop := (L ≤ 1000000000000000 → e = .returned (.tuple #[.int .i64 L, .int .i64 0])) ∧ (¬ L ≤ 1000000000000000 → e = .returned (.tuple #[.int .i64 0, .int .i64 10]))

set_option maxRecDepth 100000 in
set_option maxHeartbeats 4000000 in
theorem commonSum_any (b n : Nat) (cs : List Int) (ls : List (List Int)) (D : DataW Value) (w : World) (hown : w.ownsMap Try.prog 3 RS b n D) (hch : Chosen w cs ls D n) (hv : ∀ j, j < n → chk1 (nthL ls j) = 0) :
    Calls Try.prog 43 #[.map (some b)] w fun e w' => comPost (lcmTo cs ls n) e ∧ Below w.heap.size w w' := by
  have hpos : ∀ j, j < n → 0 < nth cs j → 1 ≤ lsum (low (nthL ls j)) := fun j hj _ => by
    obtain ⟨x1, x2, x3, x4⟩ := chk1_ok (hv j hj)
    exact (low_facts x2 x3).2.2.1
  obtain ⟨L1, L2, L3⟩ := lcmTo_facts hpos
  have Hpos := Lib.hid hpos
  have HL2 := Lib.hid L2
  have HL3 := Lib.hid L3
  have Hv := Lib.hid hv
  clear hpos L2 L3 hv
  obtain ⟨L, hL⟩ : ∃ L, lcmTo cs ls n = L := ⟨_, rfl⟩
  have HL := Lib.hid hL
  rw [hL] at L1
  rw [hL]
  clear hL
  go_enter Try.func43, Try.ntmps43
  go_wp2_with (at_range; refine wpList_range_own _ rfl _ 72 rfl 3 34 keyedI Try.underlying72 RS b n D rfl hown ?_; intro w0 hrg0 hg0 hs0)
  have hB0 : Below w.heap.size w w0 := (Below.refl _ w).grown hg0 (Nat.le_refl _) (fun k e => by cases e)
  have hch0 := hch.grown hg0 (fun b e => by cases e)
  clear hg0 hs0 hch hown
  go_frame
  go_loopw [4] (fun v wr => ∃ (left : Lit → Bool) (cnt : Nat) (C : Int), wr.ranges Try.prog 3 RS b w.heap.size n D left cnt ∧ v = .int .i64 C ∧ 1 ≤ C ∧ C ≤ 1000000000000000 ∧ Hid (C ∣ L) ∧ Hid (∀ j, j < n → 0 < nth cs j → left (.int .i64 j) = false → lsum (low (nthL ls j)) ∣ C) ∧ Hid (∀ kl, left kl = true → has D kl = true) ∧ Chosen wr cs ls D n ∧ Below w.heap.size w wr)
    (fun _ wr => wr.rangeLeft b w.heap.size)
  case atStart => exact ⟨_, _, 1, hrg0, rfl, by omega, by omega, Int.one_dvd _, (fun j hj hp hf => by rw [(hch0.yes j hj hp).1] at hf; cases hf), (fun kl h => h), hch0, hB0⟩
  case round =>
    obtain ⟨left, cnt, C, hrg, rfl, hC1, hC2, HC, Hdone, Hleft, hchr, hb⟩ := hrel
    go_wp2_with (at_next; refine wpList_next_ranges _ rfl _ rfl 3 keyedI RS (Value.int .i64) (fun c : Addr × Nat × Nat => .slice (some c.1) c.2.1 c.2.2) (fun key kl hkey => by obtain ⟨x, rfl, _⟩ := Maps.keyOf_int_inv Try.underlying3 hkey; exact ⟨x, rfl⟩) RS_inv b w.heap.size n D _ _ rfl hrg ?_ ?_)
    · intro _ hl0
      have HLC : Hid (C = L) := by
        show _ = _
        have h1 : L ∣ C := by rw [← HL.out]; exact HL3.out C fun j hj hp => Hdone.out j hj hp (hl0 _)
        exact Int.dvd_antisymm (by omega) (by omega) HC.out h1
      have hLle : L ≤ 1000000000000000 := by rw [← HLC.out]; exact hC2
      go_wp2
      go_ret2
      exact ⟨⟨fun _ => by rw [← HLC.out]; rfl, fun h => absurd hLle h⟩, hb⟩
    · intro x ca cn cc kl y1 y2 w1 cnt1 hkey hlk hy hat hrg1 hlt hg1 hs1 hen
      obtain ⟨j, g, hj, rfl, rfl, hp, hcc, hrd⟩ := hchr.entry (c := (ca, cn, cc)) (y := (y1, y2)) hkey (Hleft.out _ hlk) hy hat
      cases hcc
      obtain ⟨x1, x2, x3, x4⟩ := chk1_ok (Hv.out j hj)
      obtain ⟨z1, z2, z3, z4⟩ := low_facts x2 x3
      have hll := low_length (nthL ls j)
      have hch1 := hchr.grown hg1 (fun b e a ha => by cases e; obtain ⟨_, _, _, _, _, _, _, _, _, hr, _⟩ := hrg; simp [World.cell?, ha, hr])
      have hrd1 := hrd.grown hg1 (fun b e a ha => by cases e; obtain ⟨_, _, _, _, _, _, _, _, _, hr, _⟩ := hrg; simp [World.cell?, ha, hr])
      have hb1 := hb.grown hg1 hb.size (fun k e => by cases e; exact Nat.le_refl _)
      have Hdj : Hid (lsum (low (nthL ls j)) ∣ L) := by show _; rw [← HL.out]; exact HL2.out j hj hp
      have hLc : Hid (lcmI C (lsum (low (nthL ls j))) ∣ L) := lcmI_dvd HC.out Hdj.out
      have Hlt : Hid (cnt1 < cnt) := hlt
      have Hlm : Hid (wr.rangeLeft b w.heap.size = cnt) := hrg.left_eq
      have hT := total_any (some ⟨g, 0, none⟩) (low (nthL ls j)) (nthL ls j).length w1 (by rw [hll]; exact x1) z2 hrd1
      rw [hll] at hT
      clear hll hkey hlk hy hat hchr hg1 hs1 hlt hb hrd hrg
      go_wp2_with fail
      go_call hT as e w2 ⟨rfl, hb2⟩
      clear hT hen
      have hrg2 := hrg1.kept (grown_of_below hb2) (by simp) (by simp)
      have hch2 := hch1.grown (grown_of_below hb2) (fun b e => by cases e)
      by_cases hle : lcmI C (lsum (low (nthL ls j))) ≤ 1000000000000000
      · have hlp := lcmI_pos hC1 z3
        go_wp2_with fail
        go_call (multiple_ok C (lsum (low (nthL ls j))) w2 hC1 z3 hC2 (by omega) hle) as e w3 ⟨rfl, hb3⟩
        have hrg3 := hrg2.kept (grown_of_below hb3) (by simp) (by simp)
        have hch3 := hch2.grown (grown_of_below hb3) (fun b e => by cases e)
        have hbb := hb1.trans ((tr hb2 hb3).mono hb1.size)
        clear hrg1 hrg2 hch1 hch2 hb1 hb2 hb3
        go_wp2
        go_roundw
        case rel =>
          refine ⟨_, cnt1, _, hrg3, rfl, hlp, hle, hLc, ?_, ?_, hch3, hbb⟩
          · intro i hi hpi hf
            by_cases e : i = j
            · subst e; exact dvd_lcmI_right _ _
            · refine Int.dvd_trans (Hdone.out i hi hpi ?_) (dvd_lcmI_left _ _)
              have hne : (Lit.int .i64 (i : Int)).sameKey (.int .i64 (j : Int)) = false := sameKey_ne (by simp; omega)
              simpa [hne] using hf
          · intro kl hk
            exact Hleft.out kl (by simp at hk; exact hk.1)
        case measure => rw [hrg3.left_eq, Hlm.out]; exact Hlt.out
      · have hLn : ¬ L ≤ 1000000000000000 := fun h => hle (Int.le_trans (Int.le_of_dvd (by omega) hLc.out) h)
        go_wp2_with fail
        go_call (multiple_over C (lsum (low (nthL ls j))) w2 hC1 z3 hC2 (by omega) (by omega)) as e w3 ⟨rfl, hb3⟩
        go_wp2
        go_ret2
        exact ⟨⟨fun h => absurd h (by omega), fun _ => rfl⟩, hb1.trans ((tr hb2 hb3).mono hb1.size)⟩
end Go.Proofs.Ytnpnnfbmnlgioaa
