/-
  What canBeChosen, multiple and commonSum of package odds do, for valid lists.
  What commonSum, checkMix and Mix of package odds do, for valid lists.
  What Mix of package odds returns where nothing is refused.
  What Mix of package odds returns where nothing is refused.
  The walk of Mix of package odds where nothing is refused.
-/
import Derived.Test.YtnpnnfbmnlgioaaI
import Derived.Test.YtnpnnfbmnlgioaaW
import Derived.Maps.RangeWalk
import Derived.Maps.Ext
namespace Go.Proofs.Ytnpnnfbmnlgioaa
open Go.RowKit Go.Maps

/-- A slice among the elements of a map: itself. -/
def RS : Value → Option (DataW Value × List MemPlace)
  | .slice (some a) n c => some (.held (.slice (some a) n c), [])
  | _ => none
theorem RS_inv (v : Value) (y : DataW Value × List MemPlace) (h : RS v = some y) : ∃ c : Addr × Nat × Nat, v = .slice (some c.1) c.2.1 c.2.2 := by
  unfold RS at h
  split at h
  · exact ⟨(_, _, _), rfl⟩
  · cases h
theorem keyedI : Keyed Try.prog 3 := int_keyed Try.underlying3

/-- The map D has, of the first k cases, those with a weight above 0, each with its list in lowest terms. -/
structure Chosen (w : World) (cs : List Int) (ls : List (List Int)) (D : DataW Value) (k : Nat) : Prop where
  isMap : IsMap D
  no : ∀ kl, has D kl = true → ∃ j : Nat, j < k ∧ kl = .int .i64 j ∧ 0 < nth cs j
  yes : ∀ j : Nat, j < k → 0 < nth cs j → has D (.int .i64 j) = true ∧ ∃ g, (∀ zd, D.atKey (.int .i64 j) zd = .held (.slice (some ⟨g, 0, none⟩) (nthL ls j).length (nthL ls j).length)) ∧ Reads w (some ⟨g, 0, none⟩) (low (nthL ls j))

theorem grown_of_below {w w' : World} (h : Below w.heap.size w w') : w.grownBy w' none := ⟨h.os, h.tape, h.output, h.size, fun k hk _ => h.block k hk⟩
theorem Reads.grown {w w' : World} {row : Option Nat} {p : Option Addr} {xs : List Int} (h : Reads w p xs) (hg : w.grownBy w' row) (hr : ∀ b, row = some b → ∀ a, a.block = b → w.cell? a = none) : Reads w' p xs := fun k hk => by
  obtain ⟨q, o, e, hc⟩ := h k hk
  refine ⟨q, o, e, hg.cell hc (fun e => ?_)⟩
  have := hr q e.symm ⟨q, o + k, none⟩ rfl
  rw [this] at hc
  cases hc
theorem Chosen.grown {w w' : World} {row : Option Nat} {cs : List Int} {ls : List (List Int)} {D : DataW Value} {k : Nat} (h : Chosen w cs ls D k) (hg : w.grownBy w' row) (hr : ∀ b, row = some b → ∀ a, a.block = b → w.cell? a = none) : Chosen w' cs ls D k :=
  ⟨h.isMap, h.no, fun j hj hp => let ⟨a, g, b, c⟩ := h.yes j hj hp; ⟨a, g, b, c.grown hg hr⟩⟩
theorem ownsMap_cell {w : World} {P : Program} {K b n : Nat} {R : Value → Option (DataW Value × List MemPlace)} {D : DataW Value} (h : w.ownsMap P K R b n D) (a : Addr) (ha : a.block = b) : w.cell? a = none := by
  obtain ⟨es, clock, hb, _⟩ := h
  simp [World.cell?, ha, hb]
theorem keyI_wf (j : Nat) (h : j ≤ 1000000000000000) : (Lit.int .i64 (j : Int)).wf = true := WalkArith.wf_i64 (by omega)

theorem Chosen.put {w : World} {cs : List Int} {ls : List (List Int)} {D : DataW Value} {k g : Nat} (h : Chosen w cs ls D k) (hp : 0 < nth cs k) (hr : Reads w (some ⟨g, 0, none⟩) (low (nthL ls k))) :
    Chosen w cs ls (D.put (.int .i64 k) (.held (.slice (some ⟨g, 0, none⟩) (nthL ls k).length (nthL ls k).length))) (k + 1) := by
  refine ⟨h.isMap.put _ _, fun kl hkl => ?_, fun j hj hpj => ?_⟩
  · by_cases e : kl = .int .i64 k
    · exact ⟨k, by omega, e, hp⟩
    · rw [has_put_other e] at hkl
      obtain ⟨j, h1, h2, h3⟩ := h.no kl hkl
      exact ⟨j, by omega, h2, h3⟩
  · by_cases e : j = k
    · subst e
      exact ⟨has_put_same (k := .int .i64 (j : Int)) h.isMap trivial _, g, fun zd => atKey_put_same (k := .int .i64 (j : Int)) h.isMap trivial _ zd, hr⟩
    · have hne : (Lit.int .i64 (j : Int)) ≠ .int .i64 (k : Int) := by simp; omega
      obtain ⟨a, g', b, c⟩ := h.yes j (by omega) hpj
      exact ⟨by rw [has_put_other hne]; exact a, g', fun zd => by rw [atKey_put_other hne]; exact b zd, c⟩
theorem Chosen.skip {w : World} {cs : List Int} {ls : List (List Int)} {D : DataW Value} {k : Nat} (h : Chosen w cs ls D k) (hp : ¬ 0 < nth cs k) : Chosen w cs ls D (k + 1) :=
  ⟨h.isMap, fun kl hkl => let ⟨j, h1, h2, h3⟩ := h.no kl hkl; ⟨j, by omega, h2, h3⟩, fun j hj hpj => h.yes j (by
    by_cases e : j = k
    · subst e; exact absurd hpj hp
    · omega) hpj⟩

set_option maxRecDepth 100000 in
set_option maxHeartbeats 2000000 in
theorem canBeChosen_any (p : Option Addr) (cs : List Int) (c : Nat) (q : Option Addr) (ls : List (List Int)) (cl : Nat) (w : World) (hl : cs.length ≤ 4096) (hll : ls.length = cs.length) (hR : Reads w p cs) (hL : ReadsL w q ls) (hv : ∀ j, j < ls.length → chk1 (nthL ls j) = 0) :
    Calls Try.prog 42 #[.slice p cs.length c, .slice q ls.length cl] w fun e w' => ∃ b D, e = .returned (.map (some b)) ∧ w.heap.size ≤ b ∧ w'.ownsMap Try.prog 3 RS b cs.length D ∧ Chosen w' cs ls D cs.length ∧ Below w.heap.size w w' := by
  have Hv := Lib.hid hv
  have Hll := Lib.hid hll
  clear hv hll
  have hmm := @run_makeMap Try.prog
  go_enter Try.func42, Try.ntmps42
  go_wp2
  clear hmm
  go_loopw [11] (fun i wr => ∃ (k : Nat) (D : DataW Value), k ≤ cs.length ∧ i = .int .i64 k ∧ wr.ownsMap Try.prog 3 RS w.heap.size k D ∧ Chosen wr cs ls D k ∧ Below w.heap.size w wr) (fun i _ => cs.length - (intOf i).toNat)
  case atStart => exact ⟨0, .map [], Nat.zero_le _, rfl, World.ownsMap_made _ _ _ _, ⟨isMap_empty, fun kl h => by simp [has_eq] at h, fun j hj => by omega⟩, (Below.refl _ _).alloc (Nat.le_refl _) _⟩
  case round =>
    obtain ⟨k, D, hk, rfl, hown, hch, hb⟩ := hrel
    by_cases hlt : k < cs.length
    · obtain ⟨r, o, rfl, hcell⟩ := hR.below hb (Nat.le_refl _) k hlt
      by_cases hp : 0 < nth cs k
      · obtain ⟨r2, o2, rfl, r3, c3, hcell2, hR3⟩ := hL.below hb (Nat.le_refl _) k (by rw [Hll.out]; exact hlt)
        obtain ⟨x1, x2, x3, x4⟩ := chk1_ok (Hv.out k (by rw [Hll.out]; exact hlt))
        obtain ⟨y1, y2, y3, y4⟩ := low_facts x2 x3
        have hkl : (k : Int) < (ls.length : Int) := by rw [Hll.out]; omega
        go_wp2_with fail
        go_call (lowest_any r3 (nthL ls k) c3 wr x1 x2 y1 hR3) as e w1 ⟨g, rfl, hrow, hb1⟩
        have hrow' : Row w1 wr.heap.size g (nthL ls k).length (low (nthL ls k)) := hrow
        have hown1 := hown.kept (grown_of_below hb1) (by simp)
        have hch1 := hch.grown (grown_of_below hb1) (fun b e => by cases e)
        have hbb := hb.trans (hb1.mono hb.size)
        have hrd := hrow'.reads
        clear hrow hrow' hown hch hb1 hb
        go_wp2_with (at_mapUpdate; refine wpList_mapUpdate_own _ rfl _ _ _ 72 rfl 3 34 keyedI Try.underlying72 RS w.heap.size k D rfl hown1 (by unfold maxLen; omega) _ _ _ rfl rfl (keyOf_int_mk Try.underlying3 (keyI_wf k (by omega))) _ [] rfl ?_; intro w2 hown2 hgrow2)
        go_roundw
        case rel => exact ⟨k + 1, _, by omega, by go_num, hown2, (hch1.put hp hrd).grown hgrow2 (fun b e => by cases e; exact ownsMap_cell hown1), hbb.grown hgrow2 hbb.size (fun j e => by cases e; exact Nat.le_refl _)⟩
        case measure => simp [intOf]; omega
      · go_wp2
        go_roundw
        case rel => exact ⟨k + 1, D, by omega, by go_num, by obtain ⟨es, clock, h1, h2, h3, h4⟩ := hown; exact ⟨es, clock, h1, h2, by omega, h4⟩, hch.skip hp, hb⟩
        case measure => simp [intOf]; omega
    · obtain rfl : k = cs.length := by omega
      go_wp2
      go_ret
      exact ⟨_, D, rfl, Nat.le_refl _, hown, hch, hb⟩

/-- The least number of which both are divisors. -/
def lcmI (a b : Int) : Int := (Int.lcm a b : Int)
theorem lcmI_eq {a b : Int} (ha : 1 ≤ a) (hb : 1 ≤ b) : a * (b / (Int.gcd a b : Int)) = lcmI a b := by
  obtain ⟨m, rfl⟩ := Int.eq_ofNat_of_zero_le (show 0 ≤ a by omega)
  obtain ⟨n, rfl⟩ := Int.eq_ofNat_of_zero_le (show 0 ≤ b by omega)
  unfold lcmI
  rw [Int.gcd_natCast_natCast, ← Int.natCast_ediv, ← Int.natCast_mul]
  show _ = ((Nat.lcm m n : Nat) : Int)
  rw [Nat.lcm, Nat.mul_div_assoc _ (Nat.gcd_dvd_right m n)]
theorem lcmI_pos {a b : Int} (ha : 1 ≤ a) (hb : 1 ≤ b) : 1 ≤ lcmI a b := by
  unfold lcmI
  have : 0 < Int.lcm a b := Int.lcm_pos (by omega) (by omega)
  omega
theorem dvd_lcmI_left (a b : Int) : a ∣ lcmI a b := Int.dvd_lcm_left ..
theorem dvd_lcmI_right (a b : Int) : b ∣ lcmI a b := Int.dvd_lcm_right ..
theorem lcmI_dvd {a b m : Int} (ha : a ∣ m) (hb : b ∣ m) : lcmI a b ∣ m := Int.coe_lcm_dvd ha hb

/-- The least number of which the sums of all lists that can be chosen, of the first k, are divisors. -/
def lcmTo (cs : List Int) (ls : List (List Int)) : Nat → Int
  | 0 => 1
  | k + 1 => if 0 < nth cs k then lcmI (lcmTo cs ls k) (lsum (low (nthL ls k))) else lcmTo cs ls k
theorem lcmTo_facts {cs : List Int} {ls : List (List Int)} {k : Nat} (h : ∀ j, j < k → 0 < nth cs j → 1 ≤ lsum (low (nthL ls j))) :
    1 ≤ lcmTo cs ls k ∧ (∀ j, j < k → 0 < nth cs j → lsum (low (nthL ls j)) ∣ lcmTo cs ls k) ∧ (∀ m, (∀ j, j < k → 0 < nth cs j → lsum (low (nthL ls j)) ∣ m) → lcmTo cs ls k ∣ m) := by
  induction k with
  | zero => exact ⟨by simp [lcmTo], fun j hj => by omega, fun m _ => by simp [lcmTo]⟩
  | succ k ih =>
    obtain ⟨h1, h2, h3⟩ := ih fun j hj hp => h j (by omega) hp
    unfold lcmTo
    by_cases hp : 0 < nth cs k
    · rw [if_pos hp]
      refine ⟨lcmI_pos h1 (h k (by omega) hp), fun j hj hpj => ?_, fun m hm => lcmI_dvd (h3 m fun j hj hpj => hm j (by omega) hpj) (hm k (by omega) hp)⟩
      by_cases e : j = k
      · subst e; exact dvd_lcmI_right _ _
      · exact Int.dvd_trans (h2 j (by omega) hpj) (dvd_lcmI_left _ _)
    · rw [if_neg hp]
      refine ⟨h1, fun j hj hpj => ?_, fun m hm => h3 m fun j hj hpj => hm j (by omega) hpj⟩
      by_cases e : j = k
      · subst e; exact absurd hpj hp
      · exact h2 j (by omega) hpj

set_option maxHeartbeats 1000000 in
theorem multiple_ok (a b : Int) (w : World) (ha : 1 ≤ a) (hb : 1 ≤ b) (ha2 : a ≤ 1000000000000000) (hb2 : b ≤ 1000000000000000) (h : lcmI a b ≤ 1000000000000000) :
    Calls Try.prog 64 #[.int .i64 a, .int .i64 b, .int .i64 10] w fun e w' => e = .returned (.tuple #[.int .i64 (lcmI a b), .int .i64 0]) ∧ Below w.heap.size w w' := by
  have hg := gcd_pos (a := a) hb
  have hgb : (Int.gcd a b : Int) ≤ b := Int.le_of_dvd (by omega) (Int.gcd_dvd_right ..)
  have hd : 1 ≤ b / (Int.gcd a b : Int) := (Int.le_ediv_iff_mul_le (by omega)).2 (by omega)
  have hle : a ≤ 1000000000000000 / (b / (Int.gcd a b : Int)) := (le_div hd).2 (by rw [lcmI_eq ha hb]; exact h)
  have Hl := Lib.hid (lcmI_eq ha hb)
  have hdb : b / (Int.gcd a b : Int) ≤ b := Int.ediv_le_self _ (by omega)
  rw [← Hl.out]
  go_enter Try.func64, Try.ntmps64
  go_wp2_with fail
  go_call (divisor2 a b w.heap.size _ (by omega) (by omega) (by go_simp) (by go_simp)) as e w1 ⟨rfl, hb1⟩
  go_wp2_with fail
  go_call (product_ok a (b / (Int.gcd a b : Int)) w1 (by omega) hd hle) as e w' ⟨rfl, rfl⟩
  go_wp2
  go_ret2
  exact ⟨rfl, (below1 _ _).trans (hb1.mono (by simp))⟩

set_option maxHeartbeats 1000000 in
theorem multiple_over (a b : Int) (w : World) (ha : 1 ≤ a) (hb : 1 ≤ b) (ha2 : a ≤ 1000000000000000) (hb2 : b ≤ 1000000000000000) (h : ¬ lcmI a b ≤ 1000000000000000) :
    Calls Try.prog 64 #[.int .i64 a, .int .i64 b, .int .i64 10] w fun e w' => e = .returned (.tuple #[.int .i64 0, .int .i64 10]) ∧ Below w.heap.size w w' := by
  have hg := gcd_pos (a := a) hb
  have hgb : (Int.gcd a b : Int) ≤ b := Int.le_of_dvd (by omega) (Int.gcd_dvd_right ..)
  have hd : 1 ≤ b / (Int.gcd a b : Int) := (Int.le_ediv_iff_mul_le (by omega)).2 (by omega)
  have hle : ¬ a ≤ 1000000000000000 / (b / (Int.gcd a b : Int)) := fun h1 => h (by rw [← lcmI_eq ha hb]; exact (le_div hd).1 h1)
  have hdb : b / (Int.gcd a b : Int) ≤ b := Int.ediv_le_self _ (by omega)
  clear h
  go_enter Try.func64, Try.ntmps64
  go_wp2_with fail
  go_call (divisor2 a b w.heap.size _ (by omega) (by omega) (by go_simp) (by go_simp)) as e w1 ⟨rfl, hb1⟩
  go_wp2_with fail
  go_call (product_over a (b / (Int.gcd a b : Int)) w1 (by omega) hd (by omega)) as e w' ⟨rfl, rfl⟩
  go_wp2
  go_ret2
  exact ⟨rfl, (below1 _ _).trans (hb1.mono (by simp))⟩

end Go.Proofs.Ytnpnnfbmnlgioaa

namespace Go.Proofs.Ytnpnnfbmnlgioaa
open Go.RowKit Go.Maps

/-- What comes of an entry of a map of lists. -/
theorem Chosen.entry {w : World} {cs : List Int} {ls : List (List Int)} {D : DataW Value} {n : Nat} (h : Chosen w cs ls D n) {x : Int} {c : Addr × Nat × Nat} {kl : Lit} {y : DataW Value × List MemPlace}
    (hkey : keyOf Try.prog 3 (.int .i64 x) = some kl) (hlk : has D kl = true) (hy : RS (.slice (some c.1) c.2.1 c.2.2) = some y) (hat : ∀ zd, D.atKey kl zd = y.1) :
    ∃ j g, j < n ∧ x = (j : Int) ∧ kl = .int .i64 j ∧ 0 < nth cs j ∧ c = (⟨g, 0, none⟩, (nthL ls j).length, (nthL ls j).length) ∧ Reads w (some ⟨g, 0, none⟩) (low (nthL ls j)) := by
  obtain ⟨j, hj, rfl, hp⟩ := h.no kl hlk
  obtain ⟨x', e1, e2, _⟩ := Maps.keyOf_int_inv Try.underlying3 hkey
  cases e1
  cases e2
  obtain ⟨_, g, hz, hr⟩ := h.yes j hj hp
  have e3 := (hat .nil).symm.trans (hz .nil)
  simp only [RS, Option.some.injEq] at hy
  subst hy
  simp only [DataW.held.injEq, Value.slice.injEq, Option.some.injEq] at e3
  obtain ⟨h1, h2, h3⟩ := e3
  exact ⟨j, g, hj, rfl, rfl, hp, by rcases c with ⟨a, b, d⟩; simp only at h1 h2 h3; subst h1; subst h2; subst h3; rfl, hr⟩

/-- What commonSum hands back. -/
def comPost (L : Int) (e : Ending) : Prop := (L ≤ 1000000000000000 → e = .returned (.tuple #[.int .i64 L, .int .i64 0])) ∧ (¬ L ≤ 1000000000000000 → e = .returned (.tuple #[.int .i64 0, .int .i64 10]))

set_option maxRecDepth 100000 in
set_option maxHeartbeats 4000000 in
theorem commonSum_any (b n : Nat) (cs : List Int) (ls : List (List Int)) (D : DataW Value) (w : World) (hown : w.ownsMap Try.prog 3 RS b n D) (hch : Chosen w cs ls D n) (hv : ∀ j, j < n → chk1 (nthL ls j) = 0) :
    Calls Try.prog 43 #[.map (some b)] w fun e w' => comPost (lcmTo cs ls n) e ∧ Below w.heap.size w w' := by
  have hpos : ∀ j, j < n → 0 < nth cs j → 1 ≤ lsum (low (nthL ls j)) := fun j hj _ => by
    obtain ⟨x1, x2, x3, x4⟩ := chk1_ok (hv j hj)
    exact (low_facts x2 x3).2.2.1
  obtain ⟨L1, L2, L3⟩ := lcmTo_facts hpos
  have Hpos := Lib.hid hpos
  have HL2 := Lib.hid L2
  have HL3 := Lib.hid L3
  have Hv := Lib.hid hv
  clear hpos L2 L3 hv
  obtain ⟨L, hL⟩ : ∃ L, lcmTo cs ls n = L := ⟨_, rfl⟩
  have HL := Lib.hid hL
  rw [hL] at L1
  rw [hL]
  clear hL
  go_enter Try.func43, Try.ntmps43
  go_wp2_with (at_range; refine wpList_range_own _ rfl _ 72 rfl 3 34 keyedI Try.underlying72 RS b n D rfl hown ?_; intro w0 hrg0 hg0 hs0)
  have hB0 : Below w.heap.size w w0 := (Below.refl _ w).grown hg0 (Nat.le_refl _) (fun k e => by cases e)
  have hch0 := hch.grown hg0 (fun b e => by cases e)
  clear hg0 hs0 hch hown
  go_frame
  go_loopw [4] (fun v wr => ∃ (left : Lit → Bool) (cnt : Nat) (C : Int), wr.ranges Try.prog 3 RS b w.heap.size n D left cnt ∧ v = .int .i64 C ∧ 1 ≤ C ∧ C ≤ 1000000000000000 ∧ Hid (C ∣ L) ∧ Hid (∀ j, j < n → 0 < nth cs j → left (.int .i64 j) = false → lsum (low (nthL ls j)) ∣ C) ∧ Hid (∀ kl, left kl = true → has D kl = true) ∧ Chosen wr cs ls D n ∧ Below w.heap.size w wr)
    (fun _ wr => wr.rangeLeft b w.heap.size)
  case atStart => exact ⟨_, _, 1, hrg0, rfl, by omega, by omega, Int.one_dvd _, (fun j hj hp hf => by rw [(hch0.yes j hj hp).1] at hf; cases hf), (fun kl h => h), hch0, hB0⟩
  case round =>
    obtain ⟨left, cnt, C, hrg, rfl, hC1, hC2, HC, Hdone, Hleft, hchr, hb⟩ := hrel
    go_wp2_with (at_next; refine wpList_next_ranges _ rfl _ rfl 3 keyedI RS (Value.int .i64) (fun c : Addr × Nat × Nat => .slice (some c.1) c.2.1 c.2.2) (fun key kl hkey => by obtain ⟨x, rfl, _⟩ := Maps.keyOf_int_inv Try.underlying3 hkey; exact ⟨x, rfl⟩) RS_inv b w.heap.size n D _ _ rfl hrg ?_ ?_)
    · intro _ hl0
      have HLC : Hid (C = L) := by
        show _ = _
        have h1 : L ∣ C := by rw [← HL.out]; exact HL3.out C fun j hj hp => Hdone.out j hj hp (hl0 _)
        exact Int.dvd_antisymm (by omega) (by omega) HC.out h1
      have hLle : L ≤ 1000000000000000 := by rw [← HLC.out]; exact hC2
      go_wp2
      go_ret2
      exact ⟨⟨fun _ => by rw [← HLC.out]; rfl, fun h => absurd hLle h⟩, hb⟩
    · intro x ca cn cc kl y1 y2 w1 cnt1 hkey hlk hy hat hrg1 hlt hg1 hs1 hen
      obtain ⟨j, g, hj, rfl, rfl, hp, hcc, hrd⟩ := hchr.entry (c := (ca, cn, cc)) (y := (y1, y2)) hkey (Hleft.out _ hlk) hy hat
      cases hcc
      obtain ⟨x1, x2, x3, x4⟩ := chk1_ok (Hv.out j hj)
      obtain ⟨z1, z2, z3, z4⟩ := low_facts x2 x3
      have hll := low_length (nthL ls j)
      have hch1 := hchr.grown hg1 (fun b e a ha => by cases e; obtain ⟨_, _, _, _, _, _, _, _, _, hr, _⟩ := hrg; simp [World.cell?, ha, hr])
      have hrd1 := hrd.grown hg1 (fun b e a ha => by cases e; obtain ⟨_, _, _, _, _, _, _, _, _, hr, _⟩ := hrg; simp [World.cell?, ha, hr])
      have hb1 := hb.grown hg1 hb.size (fun k e => by cases e; exact Nat.le_refl _)
      have Hdj : Hid (lsum (low (nthL ls j)) ∣ L) := by show _; rw [← HL.out]; exact HL2.out j hj hp
      have hLc : Hid (lcmI C (lsum (low (nthL ls j))) ∣ L) := lcmI_dvd HC.out Hdj.out
      have Hlt : Hid (cnt1 < cnt) := hlt
      have Hlm : Hid (wr.rangeLeft b w.heap.size = cnt) := hrg.left_eq
      have hT := total_any (some ⟨g, 0, none⟩) (low (nthL ls j)) (nthL ls j).length w1 (by rw [hll]; exact x1) z2 hrd1
      rw [hll] at hT
      clear hll hkey hlk hy hat hchr hg1 hs1 hlt hb hrd hrg
      go_wp2_with fail
      go_call hT as e w2 ⟨rfl, hb2⟩
      clear hT hen
      have hrg2 := hrg1.kept (grown_of_below hb2) (by simp) (by simp)
      have hch2 := hch1.grown (grown_of_below hb2) (fun b e => by cases e)
      by_cases hle : lcmI C (lsum (low (nthL ls j))) ≤ 1000000000000000
      · have hlp := lcmI_pos hC1 z3
        go_wp2_with fail
        go_call (multiple_ok C (lsum (low (nthL ls j))) w2 hC1 z3 hC2 (by omega) hle) as e w3 ⟨rfl, hb3⟩
        have hrg3 := hrg2.kept (grown_of_below hb3) (by simp) (by simp)
        have hch3 := hch2.grown (grown_of_below hb3) (fun b e => by cases e)
        have hbb := hb1.trans ((tr hb2 hb3).mono hb1.size)
        clear hrg1 hrg2 hch1 hch2 hb1 hb2 hb3
        go_wp2
        go_roundw
        case rel =>
          refine ⟨_, cnt1, _, hrg3, rfl, hlp, hle, hLc, ?_, ?_, hch3, hbb⟩
          · intro i hi hpi hf
            by_cases e : i = j
            · subst e; exact dvd_lcmI_right _ _
            · refine Int.dvd_trans (Hdone.out i hi hpi ?_) (dvd_lcmI_left _ _)
              have hne : (Lit.int .i64 (i : Int)).sameKey (.int .i64 (j : Int)) = false := sameKey_ne (by simp; omega)
              simpa [hne] using hf
          · intro kl hk
            exact Hleft.out kl (by simp at hk; exact hk.1)
        case measure => rw [hrg3.left_eq, Hlm.out]; exact Hlt.out
      · have hLn : ¬ L ≤ 1000000000000000 := fun h => hle (Int.le_trans (Int.le_of_dvd (by omega) hLc.out) h)
        go_wp2_with fail
        go_call (multiple_over C (lsum (low (nthL ls j))) w2 hC1 z3 hC2 (by omega) (by omega)) as e w3 ⟨rfl, hb3⟩
        go_wp2
        go_ret2
        exact ⟨⟨fun h => absurd h (by omega), fun _ => rfl⟩, hb1.trans ((tr hb2 hb3).mono hb1.size)⟩
end Go.Proofs.Ytnpnnfbmnlgioaa

namespace Go.Proofs.Ytnpnnfbmnlgioaa
open Go.RowKit Go.Maps

set_option maxHeartbeats 400000 in
theorem mixLen_any (p : Option Addr) (n c : Nat) (a : Addr) (q : Nat) (o m cl : Nat) (r : Option Addr) (n0 c0 : Nat) (w : World) (_hn : n ≤ 1000000000000000) (_hn0 : n0 ≤ 1000000000000000) (hm : 1 ≤ m) (ha : w.cell? a = some (.slice (some ⟨q, o, none⟩) m cl)) (h0 : w.cell? ⟨q, o, none⟩ = some (.slice r n0 c0)) (he : n = n0) :
    Calls Try.prog 63 #[.slice p n c, .pointer (some a)] w fun e w' => e = .returned (.bool false) ∧ w = w' := by
  subst he
  have hm' : (0 : Int) < (m : Int) := by omega
  go_enter Try.func63, Try.ntmps63
  go_wp2
  go_ret
  exact ⟨rfl, rfl⟩

set_option maxHeartbeats 1000000 in
theorem indexFunc_mix (a : Addr) (q o cl : Nat) (ls : List (List Int)) (c : Nat) (w : World) (n : Nat) (hn : n ≤ 1000000000000000) (hl : ls.length ≤ 1000000000000000) (ha : w.cell? a = some (.slice (some ⟨q, o, none⟩) ls.length cl)) (hL : ReadsL w (some ⟨q, o, none⟩) ls) (hv : ∀ j, j < ls.length → (nthL ls j).length = n) :
    Calls Try.prog 74 #[.slice (some ⟨q, o, none⟩) ls.length c, .func (.func 63) #[] #[.pointer (some a)]] w fun e w' => e = .returned (.int .i64 (-1)) ∧ w = w' := by
  have Hv := Lib.hid hv
  clear hv
  go_enter Try.func74, Try.ntmps74
  go_wp2
  go_loop [8] (fun i => ∃ k : Nat, k ≤ ls.length ∧ i = .int .i64 k) (fun i => ls.length - (intOf i).toNat)
  case atStart => exact ⟨0, Nat.zero_le _, rfl⟩
  case round =>
    obtain ⟨k, hk, rfl⟩ := hrel
    by_cases hlt : k < ls.length
    · obtain ⟨q1, o1, e1, r1, c1, hc1, _⟩ := hL k hlt
      cases e1
      obtain ⟨q2, o2, e2, r2, c2, hc2, _⟩ := hL 0 (by omega)
      cases e2
      rw [Nat.add_zero] at hc2
      have n1 := Hv.out k hlt
      have n2 := Hv.out 0 (by omega)
      rw [n1] at hc1
      rw [n2] at hc2
      clear n1 n2
      go_wp2_with fail
      go_call (mixLen_any r1 n c1 a q o ls.length cl r2 n c2 w hn hn (by omega) ha hc2 rfl) as e w' ⟨rfl, rfl⟩
      go_wp2
      go_round
      case rel => exact ⟨k + 1, by omega, by go_num⟩
      case measure => simp [intOf]; omega
    · go_wp2
      go_ret
      exact ⟨rfl, rfl⟩

set_option maxHeartbeats 400000 in
theorem containsFunc_mix (a : Addr) (q o cl : Nat) (ls : List (List Int)) (c : Nat) (w : World) (n : Nat) (hn : n ≤ 1000000000000000) (hl : ls.length ≤ 1000000000000000) (ha : w.cell? a = some (.slice (some ⟨q, o, none⟩) ls.length cl)) (hL : ReadsL w (some ⟨q, o, none⟩) ls) (hv : ∀ j, j < ls.length → (nthL ls j).length = n) :
    Calls Try.prog 62 #[.slice (some ⟨q, o, none⟩) ls.length c, .func (.func 63) #[] #[.pointer (some a)]] w fun e w' => e = .returned (.bool false) ∧ w = w' := by
  have Hv := Lib.hid hv
  clear hv
  go_enter Try.func62, Try.ntmps62
  go_wp2_with fail
  refine (indexFunc_mix a q o cl ls c w n hn hl ha hL Hv.out).mono ?_
  rintro e w' ⟨rfl, rfl⟩
  go_wp2
  go_ret
  exact ⟨rfl, rfl⟩

set_option maxHeartbeats 1000000 in
theorem checkMix_ok (p : Option Addr) (cs : List Int) (c : Nat) (q o : Nat) (ls : List (List Int)) (cl : Nat) (w : World) (n : Nat) (hn : n ≤ 1000000000000000) (hl : cs.length ≤ 1000000000000000) (hll : ls.length = cs.length) (hR : Reads w p cs) (hL : ReadsL w (some ⟨q, o, none⟩) ls) (h0 : chk1 cs = 0) (h1 : chkL ls = 0) (hv : ∀ j, j < ls.length → (nthL ls j).length = n) :
    Calls Try.prog 40 #[.slice p cs.length c, .slice (some ⟨q, o, none⟩) ls.length cl] w fun e w' => e = .returned (.int .i64 0) ∧ Below w.heap.size w w' := by
  have Hv := Lib.hid hv
  have H0 := Lib.hid h0
  have H1 := Lib.hid h1
  have hll' : ((ls.length : Int) != (cs.length : Int)) = false := by simp [hll]
  have Hll := Lib.hid hll
  have hB0 : Below w.heap.size w ((w.alloc (.cells #[.slice (some ⟨q, o, none⟩) ls.length cl] 35)).alloc (.cells #[.slice p cs.length c] 34)) := (below1 _ _).alloc (by simp) _
  clear hv h0 h1 hll
  go_enter Try.func40, Try.ntmps40
  go_wp2_with fail
  go_call (check1 p cs c (w.heap.size + 1) _ (by omega) (by go_simp) (hR.below hB0 (Nat.le_refl _))) as e w1 ⟨rfl, hb1⟩
  rw [H0.out]
  have hB1 : Below w.heap.size w w1 := hB0.trans (hb1.mono (by simp; omega))
  have hc : w1.cell? ⟨w.heap.size, 0, none⟩ = some (.slice (some ⟨q, o, none⟩) ls.length cl) := cell_tr hb1 (by go_simp)
  clear hb1 hB0
  go_wp2_with fail
  go_call (check_any (some ⟨q, o, none⟩) ls cl w1 (by have := Hll.out; omega) (fun k hk => by have := Hv.out k hk; omega) (hL.below hB1 (Nat.le_refl _))) as e w2 ⟨rfl, hb2⟩
  rw [H1.out]
  have hc2 := cell_tr hb2 hc
  have hB2 := tr hB1 hb2
  clear hb2 hc
  go_wp2_with fail
  go_call (containsFunc_mix ⟨w.heap.size, 0, none⟩ q o cl ls cl w2 n hn (by have := Hll.out; omega) hc2 (hL.below hB2 (Nat.le_refl _)) Hv.out) as e w' ⟨rfl, rfl⟩
  go_wp2
  go_ret
  exact ⟨rfl, hB2⟩
end Go.Proofs.Ytnpnnfbmnlgioaa

namespace Go.Proofs.Ytnpnnfbmnlgioaa
open Go.RowKit Go.Maps

/-- F 0, .., F (n - 1). -/
def tab (n : Nat) (F : Nat → Int) : List Int := (List.range n).map F
theorem tab_length (n : Nat) (F : Nat → Int) : (tab n F).length = n := by simp [tab]
theorem nth_tab {n k : Nat} (F : Nat → Int) (h : k < n) : nth (tab n F) k = F k := by
  rw [nth_eq (by rw [tab_length]; exact h)]; simp [tab]
theorem tab_set (n k : Nat) (F : Nat → Int) (v : Int) : (tab n F).set k v = tab n (fun i => if i = k then v else F i) := by
  apply List.ext_getElem
  · simp [tab]
  · intro i h1 h2
    simp only [tab, List.getElem_set, List.getElem_map, List.getElem_range]
    by_cases e : k = i
    · subst e; simp
    · simp [e, Ne.symm e]
theorem tab_congr {n : Nat} {F G : Nat → Int} (h : ∀ k, k < n → F k = G k) : tab n F = tab n G := by
  unfold tab
  apply List.map_congr_left
  intro k hk
  exact h k (by simpa using hk)
theorem tab_zero (n : Nat) : tab n (fun _ => 0) = List.replicate n 0 := by
  unfold tab
  apply List.ext_getElem <;> simp

/-- What case j brings to outcome k. -/
def mixOne (cs : List Int) (ls : List (List Int)) (L : Int) (j k : Nat) : Int := nth cs j * (L / lsum (low (nthL ls j))) * nth (low (nthL ls j)) k
/-- What the cases that are no longer to come, of the first m, bring to outcome k. -/
def mixF (cs : List Int) (ls : List (List Int)) (L : Int) (left : Nat → Bool) : Nat → Nat → Int
  | 0, _ => 0
  | m + 1, k => mixF cs ls L left m k + if 0 < nth cs m ∧ left m = false then mixOne cs ls L m k else 0
theorem mixF_none {cs : List Int} {ls : List (List Int)} {L : Int} {left : Nat → Bool} {m : Nat} (h : ∀ j, j < m → 0 < nth cs j → left j = true) (k : Nat) : mixF cs ls L left m k = 0 := by
  induction m with
  | zero => rfl
  | succ m ih =>
    simp only [mixF]
    rw [ih fun j hj hp => h j (by omega) hp, if_neg]
    · rfl
    · rintro ⟨hp, hf⟩
      rw [h m (by omega) hp] at hf
      cases hf
theorem mixF_congr {cs : List Int} {ls : List (List Int)} {L : Int} {left left' : Nat → Bool} {m : Nat} (h : ∀ j, j < m → 0 < nth cs j → left j = left' j) (k : Nat) : mixF cs ls L left m k = mixF cs ls L left' m k := by
  induction m with
  | zero => rfl
  | succ m ih =>
    simp only [mixF]
    rw [ih fun j hj hp => h j (by omega) hp]
    congr 1
    by_cases hp : 0 < nth cs m
    · rw [h m (by omega) hp]
    · rw [if_neg (by simp [hp]), if_neg (by simp [hp])]
theorem mixF_step {cs : List Int} {ls : List (List Int)} {L : Int} {left left' : Nat → Bool} {m j : Nat} (hj : j < m) (hp : 0 < nth cs j) (h1 : left j = true) (h2 : left' j = false) (h : ∀ i, i ≠ j → left' i = left i) (k : Nat) :
    mixF cs ls L left' m k = mixF cs ls L left m k + mixOne cs ls L j k := by
  induction m with
  | zero => omega
  | succ m ih =>
    simp only [mixF]
    by_cases e : j = m
    · subst e
      rw [mixF_congr (left := left') (left' := left) fun i hi _ => h i (by omega), if_pos ⟨hp, h2⟩, if_neg (by simp [h1])]
      omega
    · rw [ih (by omega), h m (by omega)]
      omega
theorem mixOne_bd {cs : List Int} {ls : List (List Int)} {L : Int} {j : Nat} (hc : 0 ≤ nth cs j) (hL : 0 ≤ L) (hx : Small (low (nthL ls j))) (ht : 1 ≤ lsum (low (nthL ls j))) (k : Nat) :
    0 ≤ mixOne cs ls L j k ∧ mixOne cs ls L j k ≤ nth cs j * L := by
  have h1 : 0 ≤ L / lsum (low (nthL ls j)) := Int.ediv_nonneg hL (by omega)
  have h2 := hx.pos k
  have h3 := nth_le_lsum hx.pos k
  unfold mixOne
  refine ⟨Int.mul_nonneg (Int.mul_nonneg hc h1) h2, ?_⟩
  rw [Int.mul_assoc]
  refine Int.mul_le_mul_of_nonneg_left ?_ hc
  have h4 := Int.mul_le_mul_of_nonneg_left h3 h1
  have h5 : L / lsum (low (nthL ls j)) * lsum (low (nthL ls j)) ≤ L := Int.ediv_mul_le _ (by omega)
  omega
theorem mixF_bd {cs : List Int} {ls : List (List Int)} {L : Int} {left : Nat → Bool} {m : Nat} (hc : Pos cs) (hL : 0 ≤ L) (hx : ∀ j, j < m → Small (low (nthL ls j)) ∧ 1 ≤ lsum (low (nthL ls j))) (hm : m ≤ cs.length) (k : Nat) :
    0 ≤ mixF cs ls L left m k ∧ mixF cs ls L left m k ≤ psum cs m * L := by
  induction m with
  | zero => simp [mixF, psum]
  | succ m ih =>
    have h1 := ih (fun j hj => hx j (by omega)) (by omega)
    have h2 := mixOne_bd (hc m) hL (hx m (by omega)).1 (hx m (by omega)).2 k
    have h3 : 0 ≤ nth cs m * L := Int.mul_nonneg (hc m) hL
    simp only [mixF]
    rw [psum_succ (by omega), Int.add_mul]
    split <;> omega
theorem mixF_ge {cs : List Int} {ls : List (List Int)} {L : Int} {left : Nat → Bool} {m j : Nat} (hc : Pos cs) (hL : 0 ≤ L) (hx : ∀ j, j < m → Small (low (nthL ls j)) ∧ 1 ≤ lsum (low (nthL ls j))) (hj : j < m) (hp : 0 < nth cs j) (hl : left j = false) (k : Nat) :
    mixOne cs ls L j k ≤ mixF cs ls L left m k := by
  induction m with
  | zero => omega
  | succ m ih =>
    have h2 := mixOne_bd (hc m) hL (hx m (by omega)).1 (hx m (by omega)).2 k
    simp only [mixF]
    by_cases e : j = m
    · subst e
      rw [if_pos ⟨hp, hl⟩]
      have : 0 ≤ mixF cs ls L left j k := by
        clear ih h2 hp hl
        induction j with
        | zero => simp [mixF]
        | succ j ih =>
          have h3 := mixOne_bd (hc j) hL (hx j (by omega)).1 (hx j (by omega)).2 k
          have := ih (fun i hi => hx i (by omega)) (by omega)
          simp only [mixF]
          split <;> omega
      omega
    · have := ih (fun i hi => hx i (by omega)) (by omega)
      split <;> omega
theorem exists_pos {xs : List Int} (h : 1 ≤ lsum xs) : ∃ k, k < xs.length ∧ 1 ≤ nth xs k := by
  induction xs with
  | nil => simp [lsum] at h
  | cons x r ih =>
    by_cases hx : 1 ≤ x
    · exact ⟨0, by simp, by simpa [nth] using hx⟩
    · rw [lsum_cons] at h
      obtain ⟨k, hk, h1⟩ := ih (by omega)
      exact ⟨k + 1, by simpa using hk, by simpa [nth] using h1⟩

/-- The weights of a mixture before they are brought to lowest terms. -/
def mixL (cs : List Int) (ls : List (List Int)) (n : Nat) : List Int := tab n fun k => mixF cs ls (lcmTo cs ls cs.length) (fun _ => false) cs.length k

theorem Chosen.below {w w' : World} {cs : List Int} {ls : List (List Int)} {D : DataW Value} {k B : Nat} (h : Chosen w cs ls D k) (hb : Below B w w') (hB : w.heap.size ≤ B) : Chosen w' cs ls D k :=
  ⟨h.isMap, h.no, fun j hj hp => let ⟨a, g, b, c⟩ := h.yes j hj hp; ⟨a, g, b, c.below hb hB⟩⟩
theorem set_grown (w : World) (g k : Nat) (v : Value) : w.grownBy (w.setCell ⟨g, k, none⟩ v) (some g) :=
  ⟨rfl, rfl, rfl, by simp, fun i _ hi => Below.heap_setCell _ _ _ _ (fun e => hi (by rw [e]))⟩

/-- What a mixture is good for. -/
theorem mix_facts {cs : List Int} {ls : List (List Int)} {n : Nat} (hc : Small cs) (hcs : 1 ≤ lsum cs) (hx : ∀ j, j < cs.length → Small (low (nthL ls j)) ∧ 1 ≤ lsum (low (nthL ls j)) ∧ (nthL ls j).length = n)
    (h : lsum cs * lcmTo cs ls cs.length ≤ 1000000000000000) : Small (mixL cs ls n) ∧ 1 ≤ lsum (mixL cs ls n) := by
  obtain ⟨L1, L2, _⟩ := lcmTo_facts (cs := cs) (ls := ls) (k := cs.length) fun j hj _ => (hx j hj).2.1
  have hbd := fun k => mixF_bd (cs := cs) (ls := ls) (L := lcmTo cs ls cs.length) (left := fun _ => false) (m := cs.length) hc.pos (by omega) (fun j hj => ⟨(hx j hj).1, (hx j hj).2.1⟩) (Nat.le_refl _) k
  rw [psum_all] at hbd
  have hp : Pos (mixL cs ls n) := fun k => by
    by_cases hk : k < n
    · unfold mixL; rw [nth_tab _ hk]; exact (hbd k).1
    · unfold mixL; rw [nth_out (by rw [tab_length]; exact hk)]; omega
  refine ⟨fun k hk => ?_, ?_⟩
  · unfold mixL at hk ⊢
    rw [tab_length] at hk
    rw [nth_tab _ hk]
    have := hbd k
    omega
  · obtain ⟨j, hj, hj1⟩ := exists_pos hcs
    obtain ⟨k, hk, hk1⟩ := exists_pos (hx j hj).2.1
    rw [low_length, (hx j hj).2.2] at hk
    have h1 := mixF_ge (cs := cs) (ls := ls) (L := lcmTo cs ls cs.length) (left := fun _ => false) (m := cs.length) hc.pos (by omega) (fun j hj => ⟨(hx j hj).1, (hx j hj).2.1⟩) hj (by omega) rfl k
    have ht := (hx j hj).2.1
    have hd := L2 j hj (by omega)
    have h2 : 1 ≤ lcmTo cs ls cs.length / lsum (low (nthL ls j)) := (Int.le_ediv_iff_mul_le (by omega)).2 (by rw [Int.one_mul]; exact Int.le_of_dvd (by omega) hd)
    have h3 : 1 ≤ mixOne cs ls (lcmTo cs ls cs.length) j k := by
      unfold mixOne
      have h4 := Int.mul_le_mul hj1 h2 (by omega) (by omega)
      have h5 := Int.mul_le_mul h4 hk1 (by omega) (by omega)
      simpa using h5
    have h6 := nth_le_lsum hp k
    rw [mixL, nth_tab _ hk] at h6
    unfold mixL
    omega
end Go.Proofs.Ytnpnnfbmnlgioaa

namespace Go.Proofs.Ytnpnnfbmnlgioaa
open Go.RowKit Go.Maps

theorem total_mix (g : Nat) (xs : List Int) (n : Nat) (w : World) (hn : n ≤ 4096) (hs : Small xs) (hl : xs.length = n) (hR : Reads w (some ⟨g, 0, none⟩) xs) :
    Calls Try.prog 44 #[.slice (some ⟨g, 0, none⟩) n n] w fun e W' => e = .returned (.int .i64 (lsum xs)) ∧ Below w.heap.size w W' := by
  subst hl
  exact total_any _ xs _ w hn hs hR

set_option maxRecDepth 100000 in
set_option maxHeartbeats 8000000 in
theorem mix_ok (p : Option Addr) (c0 : List Int) (c : Nat) (q o : Nat) (ls : List (List Int)) (cl : Nat) (w : World) (n : Nat) (hn : n ≤ 4096) (hll : ls.length = c0.length) (hR : Reads w p c0) (hL : ReadsL w (some ⟨q, o, none⟩) ls) (h0 : chk1 c0 = 0) (h1 : chkL ls = 0)
    (hv : ∀ j, j < ls.length → (nthL ls j).length = n) (cs : List Int) (hcs : cs = low c0) (L : Int) (hLd : L = lcmTo cs ls cs.length) (hL2 : L ≤ 1000000000000000) (hCL : lsum cs ≤ 1000000000000000 / L) (hne : 1 ≤ ls.length) (hvv : ∀ j, j < ls.length → chk1 (nthL ls j) = 0) :
    Calls Try.prog 17 #[.slice p c0.length c, .slice (some ⟨q, o, none⟩) ls.length cl] w fun e w' => ∃ g, e = .returned (.tuple #[.slice (some ⟨g, 0, none⟩) n n, .int .i64 0]) ∧ Reads w' (some ⟨g, 0, none⟩) (low (mixL cs ls n)) ∧ Below w.heap.size w w' := by
  obtain ⟨i0, hi, hz0, hz1, hz2⟩ := info_parts (show (Try.prog.info? 3).map (fun i => (i.zero, i.size, i.bytes)) = some (some (.int .i64 0), 1, 8) by kernel_rfl)
  obtain ⟨a1, a2, a3, a4⟩ := chk1_ok h0
  obtain ⟨l1, l2, l3, l4⟩ := low_facts a2 a3
  rw [← hcs] at l2 l3 l4
  have hcl : cs.length = c0.length := by rw [hcs, low_length]
  have hvx : ∀ j, j < ls.length → Small (low (nthL ls j)) ∧ 1 ≤ lsum (low (nthL ls j)) := fun j hj => by
    obtain ⟨x1, x2, x3, x4⟩ := chk1_ok (hvv j hj)
    have := low_facts x2 x3
    exact ⟨this.2.1, this.2.2.1⟩
  have hvy : ∀ j, j < cs.length → Small (low (nthL ls j)) ∧ 1 ≤ lsum (low (nthL ls j)) ∧ (nthL ls j).length = n := fun j hj => ⟨(hvx j (by omega)).1, (hvx j (by omega)).2, hv j (by omega)⟩
  obtain ⟨L1, L3, _⟩ := lcmTo_facts (cs := cs) (ls := ls) (k := cs.length) fun j hj _ => (hvy j hj).2.1
  rw [← hLd] at L1 L3
  have hCL2 := (le_div L1).1 hCL
  obtain ⟨M1, M2⟩ := mix_facts l2 l3 hvy (by rw [← hLd]; exact hCL2)
  have hMl : (mixL cs ls n).length = n := tab_length _ _
  obtain ⟨m1, m2, m3, m4⟩ := low_facts M1 M2
  have hbd : ∀ (left : Nat → Bool) k, 0 ≤ mixF cs ls L left cs.length k ∧ mixF cs ls L left cs.length k ≤ 1000000000000000 := fun left k => by
    have := mixF_bd (cs := cs) (ls := ls) (L := L) (left := left) (m := cs.length) l2.pos (by omega) (fun j hj => ⟨(hvy j hj).1, (hvy j hj).2.1⟩) (Nat.le_refl _) k
    rw [psum_all] at this
    omega
  have hmD : mixL cs ls n = tab n fun k => mixF cs ls L (fun _ => false) cs.length k := by unfold mixL; rw [← hLd]
  rw [hcl] at hmD L3 hLd
  have hbd' : ∀ (left : Nat → Bool) k, 0 ≤ mixF cs ls L left c0.length k ∧ mixF cs ls L left c0.length k ≤ 1000000000000000 := fun left k => by have := hbd left k; rwa [hcl] at this
  have HmD := Lib.hid hmD
  have Hbd := Lib.hid hbd'
  have HL3 := Lib.hid L3
  have Hvx := Lib.hid hvx
  have Hvv := Lib.hid hvv
  have Hv := Lib.hid hv
  have H0 := Lib.hid h0
  have H1 := Lib.hid h1
  have Hcs : Hid (c0.map (· / gcdl c0) = cs) := hcs.symm
  have Hcl := Lib.hid hcl
  have Hll := Lib.hid hll
  have HLd := Lib.hid hLd
  have HMl := Lib.hid hMl
  clear h0 h1 hcs hcl hll hLd hmD hbd hbd' L3 hvx hvy hvv hv hMl
  go_enter Try.func17, Try.ntmps17
  go_wp2_with fail
  go_call (checkMix_ok p c0 c q o ls cl w n (by omega) (by omega) Hll.out hR hL H0.out H1.out Hv.out) as e w1 ⟨rfl, hb1⟩
  go_wp2_with fail
  go_call (lowest_any p c0 c w1 a1 a2 l1 (hR.below hb1 (Nat.le_refl _))) as e w2 ⟨gc, rfl, hrowc, hb2⟩
  rw [Hcs.out] at hrowc
  have hRc := hrowc.reads
  go_wp2_with fail
  have hT := canBeChosen_any (some ⟨gc, 0, none⟩) cs cs.length (some ⟨q, o, none⟩) ls cl w2 (by rw [Hcl.out]; exact a1) (by rw [Hcl.out]; exact Hll.out) hRc (hL.below (tr hb1 hb2) (Nat.le_refl _)) Hvv.out
  rw [Hcl.out] at hT
  refine hT.mono ?_
  rintro e w3 ⟨b, D, rfl, hbge, hown, hch, hb3⟩
  clear hT
  have hsz12 := tr hb1 hb2
  go_wp2_with fail
  go_call (commonSum_any b c0.length cs ls D w3 hown hch (fun j hj => Hvv.out j (by have := Hll.out; omega))) as e w4 ⟨hcp, hb4⟩
  have he := hcp.1 (by rw [← HLd.out]; exact hL2)
  rw [← HLd.out] at he
  subst he
  clear hcp
  have hown4 := hown.kept (grown_of_below hb4) (by simp)
  have hch4 := hch.below hb4 (Nat.le_refl _)
  have hRc4 := hRc.below (tr hb3 hb4) (Nat.le_refl _)
  go_wp2_with fail
  have hT := total_any (some ⟨gc, 0, none⟩) cs cs.length w4 (by rw [Hcl.out]; exact a1) l2 hRc4
  rw [Hcl.out] at hT
  refine hT.mono ?_
  rintro e w5 ⟨rfl, hb5⟩
  clear hT
  go_wp2_with fail
  go_call (product_ok (lsum cs) L w5 (by omega) L1 hCL) as e w' ⟨rfl, rfl⟩
  have hown5 := hown4.kept (grown_of_below hb5) (by simp)
  have hch5 := hch4.below hb5 (Nat.le_refl _)
  have hRc5 := hRc4.below hb5 (Nat.le_refl _)
  have hb15 := tr hsz12 (tr hb3 (tr hb4 hb5))
  have hbB : b < w5.heap.size := hown5.lt
  obtain ⟨q1, o1, e1, r1, c1, hc1, _⟩ := hL.below hb15 (Nat.le_refl _) 0 (by omega)
  cases e1
  rw [Nat.add_zero, Hv.out 0 (by omega)] at hc1
  clear hb1 hb2 hb3 hb4 hb5 hown hch hown4 hch4 hRc hRc4 hrowc hsz12 hbge
  have hlp : (0 : Int) < (ls.length : Int) := by omega
  go_wp2_with (at_make; refine wpList_make_full _ rfl _ _ 34 rfl w5.heap.size 3 i0 (.int .i64 0) 1 Try.underlying34 hi hz0 hz1 .i64 .i64 _ _ n rfl rfl rfl rfl ?c1 ?c2 ?c3 ?_)
  case c1 => rw [hz2]; omega
  case c2 => unfold maxLen; omega
  case c3 => exact Nat.le_refl _
  intro w6 hownr hgr
  have hrow := Row.made hownr
  have hb6 : Below w5.heap.size w5 w6 := (Below.refl _ w5).grown hgr (Nat.le_refl _) (fun k e => by cases e)
  have hown6 := hown5.kept (grown_of_below hb6) (by simp)
  clear hownr hgr hown5
  obtain ⟨g, hg⟩ : ∃ g, w5.heap.size = g := ⟨_, rfl⟩
  rw [hg] at hrow ⊢
  have Hg := Lib.hid hg
  clear hg
  go_wp2_with (at_range; refine wpList_range_own _ rfl _ 72 rfl 3 34 keyedI Try.underlying72 RS b c0.length D rfl hown6 ?_; intro w7 hrg7 hg7 hs7)
  have hb7 : Below w5.heap.size w5 w7 := hb6.grown hg7 hb6.size (fun k e => by cases e)
  have hrow7 : Row w7 g g n (List.replicate n 0) := ⟨hrow.1, hrow.2.kept hg7 (Or.inr (by simp [Value.ownBlock]))⟩
  have hgl := hrow.lt.2
  obtain ⟨r, hr⟩ : ∃ r, w6.heap.size = r := ⟨_, rfl⟩
  rw [hr] at hrg7 hgl ⊢
  have Hr := Lib.hid hr
  clear hr hb6 hg7 hs7 hrow hown6
  have hbg : b < g := by have := Hg.out; omega
  have hg5 : w5.heap.size ≤ g := by have := Hg.out; omega
  go_frame
  go_loopw [13] (fun _ wr => ∃ (left : Lit → Bool) (cnt : Nat), wr.ranges Try.prog 3 RS b r c0.length D left cnt ∧ Row wr g g n (tab n (mixF cs ls L (fun j => left (.int .i64 (j : Int))) c0.length)) ∧ Hid (∀ kl, left kl = true → has D kl = true) ∧ Below w5.heap.size w5 wr)
    (fun _ wr => wr.rangeLeft b r)
  case atStart =>
    refine ⟨_, _, hrg7, ?_, (fun kl h => h), hb7⟩
    have e : tab n (mixF cs ls L (fun j => has D (.int .i64 (j : Int))) c0.length) = List.replicate n 0 := by
      rw [← tab_zero]
      exact tab_congr fun k _ => mixF_none (fun j hj hp => (hch5.yes j hj hp).1) k
    rw [e]; exact hrow7
  case round =>
    obtain ⟨left, cnt, hrg, hrw, Hleft, hb⟩ := hrel
    go_wp2_with (at_next; refine wpList_next_ranges _ rfl _ rfl 3 keyedI RS (Value.int .i64) (fun c : Addr × Nat × Nat => .slice (some c.1) c.2.1 c.2.2) (fun key kl hkey => by obtain ⟨x, rfl, _⟩ := Maps.keyOf_int_inv Try.underlying3 hkey; exact ⟨x, rfl⟩) RS_inv b r c0.length D _ _ rfl hrg ?_ ?_)
    · intro _ hl0
      have e : tab n (mixF cs ls L (fun j => left (.int .i64 (j : Int))) c0.length) = mixL cs ls n := by
        rw [HmD.out]
        exact tab_congr fun k _ => mixF_congr (fun j _ _ => hl0 _) k
      rw [e] at hrw
      have hT := lowest_any (some ⟨g, 0, none⟩) (mixL cs ls n) n wr (by rw [HMl.out]; exact hn) M1 m1 hrw.reads
      rw [HMl.out] at hT
      have hBf := tr hb15 hb
      clear hrg hl0 e hrw
      go_wp2_with fail
      go_call hT as e w8 ⟨g8, rfl, hrow8, hb8⟩
      go_wp2
      go_ret2
      exact ⟨g8, rfl, hrow8.reads, tr hBf hb8⟩
    · intro x ca cn cc kl y1 y2 w8 cnt1 hkey hlk hy hat hrg1 hlt hg1 hs1 hen
      obtain ⟨j, gj, hj, rfl, rfl, hp, hcc, hrd⟩ := hch5.entry (c := (ca, cn, cc)) (y := (y1, y2)) hkey (Hleft.out _ hlk) hy hat
      cases hcc
      have hjl : j < ls.length := by have := Hll.out; omega
      obtain ⟨z2, z3⟩ := Hvx.out j hjl
      have hll := low_length (nthL ls j)
      rw [Hv.out j hjl] at hll hen ⊢
      have hb8 : Below w5.heap.size w5 w8 := hb.grown hg1 hb.size (fun k e => by cases e; omega)
      have hrd8 := hrd.below hb8 (Nat.le_refl _)
      have hrw8 : Row w8 g g n (tab n (mixF cs ls L (fun j => left (.int .i64 (j : Int))) c0.length)) := ⟨hrw.1, hrw.2.kept hg1 (Or.inr (by simp [Value.ownBlock]; omega))⟩
      have Hlt : Hid (cnt1 < cnt) := hlt
      have Hlm : Hid (wr.rangeLeft b r = cnt) := hrg.left_eq
      have Hleft1 : Hid (∀ kl, (left kl && !kl.sameKey (.int .i64 (j : Int))) = true → has D kl = true) := fun kl hk => Hleft.out kl (by simp at hk; exact hk.1)
      have Hlkj : Hid (left (.int .i64 (j : Int)) = true) := hlk
      clear hkey hlk hy hat hg1 hs1 hlt hrg hrw hb
      have cc0 : 0 ≤ nth cs j := by omega
      obtain ⟨F, hF⟩ : ∃ F, F = mixF cs ls L (fun j => left (.int .i64 (j : Int))) c0.length := ⟨_, rfl⟩
      rw [← hF] at hrw8
      obtain ⟨t, ht⟩ : ∃ t, t = lsum (low (nthL ls j)) := ⟨_, rfl⟩
      rw [← ht] at z3
      have hLt0 : 0 ≤ L / t := Int.ediv_nonneg (by omega) (by omega)
      have hLt1 : L / t ≤ L := Int.ediv_le_self _ (by omega)
      have hone : ∀ k, mixOne cs ls L j k = nth cs j * (L / t) * nth (low (nthL ls j)) k := fun k => by rw [ht]; rfl
      have hnew : ∀ k, mixF cs ls L (fun i => left (.int .i64 (i : Int)) && !(Lit.int .i64 (i : Int)).sameKey (.int .i64 (j : Int))) c0.length k = F k + mixOne cs ls L j k := fun k => by
        rw [hF]
        refine mixF_step hj hp Hlkj.out (by simp [Lit.sameKey]) (fun i hi => ?_) k
        have hne : (Lit.int .i64 (i : Int)).sameKey (.int .i64 (j : Int)) = false := sameKey_ne (by simp; omega)
        simp [hne]
      have hFb : ∀ k, 0 ≤ F k := fun k => by rw [hF]; exact (Hbd.out _ k).1
      have hGb : ∀ k, F k + mixOne cs ls L j k ≤ 1000000000000000 := fun k => by rw [← hnew k]; exact (Hbd.out _ k).2
      have hO0 : ∀ k, 0 ≤ mixOne cs ls L j k := fun k => by rw [hone]; exact Int.mul_nonneg (Int.mul_nonneg cc0 hLt0) (z2.pos k)
      have hfac : nth cs j * (L / t) ≤ 1000000000000000 := by
        obtain ⟨k, hk, hk1⟩ := exists_pos (show 1 ≤ lsum (low (nthL ls j)) by omega)
        have h1 := hGb k
        have h2 := hFb k
        rw [hone] at h1
        have h3 : nth cs j * (L / t) * 1 ≤ nth cs j * (L / t) * nth (low (nthL ls j)) k := Int.mul_le_mul_of_nonneg_left hk1 (Int.mul_nonneg cc0 hLt0)
        omega
      have hfac0 : 0 ≤ nth cs j * (L / t) := Int.mul_nonneg cc0 hLt0
      have e1 : IntKind.i64.wrap (L.tdiv t) = L / t := wdiv (by omega) (by omega) z3
      have e2 : IntKind.i64.wrap (nth cs j * (L / t)) = nth cs j * (L / t) := IntWalk.i64_in _ (by omega)
      have E := Lib.hid (And.intro e1 e2)
      have Hnew := Lib.hid hnew
      have Hone := Lib.hid hone
      have HFb := Lib.hid hFb
      have HGb := Lib.hid hGb
      have HO0 := Lib.hid hO0
      have Ht := Lib.hid ht
      have HF := Lib.hid hF
      clear e1 e2 hnew hone hFb hGb hO0 ht hF
      have hcj := (hRc5.below hb8 (Nat.le_refl _)).at0 (k := j) (by rw [Hcl.out]; exact hj)
      have hj0 : (j : Int) < (c0.length : Int) := by omega
      have hzt : ¬ t = 0 := by omega
      go_wp2_with fail
      obtain ⟨e1, e2⟩ := E.out
      go_region_held3 (fun w' => w'.cell? ⟨gc, j, none⟩ = some (.int .i64 (nth cs j)) ∧ Below w8.heap.size w8 w')
        (first
          | exact ⟨hcj, (Below.refl _ _).drew⟩
          | assumption
          | exact ⟨cell_tr hbk (by exact hcj), tr (Below.drew (Below.refl w8.heap.size w8)) hbk⟩)
        (first | (go_at_call 44; refine (total_mix gj (low (nthL ls j)) n _ (by omega) z2 hll (hrd8.below (Below.drew (Below.refl w8.heap.size w8)) (Nat.le_refl _))).mono ?_; rintro e w' ⟨rfl, hbk⟩; rw [← Ht.out]))
      clear e1 e2
      rename_i hh
      obtain ⟨_, hbx⟩ := hh
      have hgw8 : g < w8.heap.size := hrw8.lt.2
      have hrg2 := hrg1.kept (grown_of_below hbx) (by simp) (by simp)
      have hrw2 := hrw8.kept hbx hgw8
      have hBw := hb8.trans (hbx.mono hb8.size)
      clear hrg1 hrw8 hb8 hbx hrd8 hcj
      go_wp2
      obtain ⟨wo, rfl⟩ : ∃ wo : World, wo = wr := ⟨_, rfl⟩
      go_loopw [70] (fun i wr => ∃ m : Nat, m ≤ n ∧ i = .int .i64 m ∧ wr.ranges Try.prog 3 RS b r c0.length D (fun z => left z && !z.sameKey (.int .i64 (j : Int))) cnt1 ∧ Row wr g g n (tab n (fun k => if k < m then F k + mixOne cs ls L j k else F k)) ∧ Below w5.heap.size w5 wr) (fun i _ => n - (intOf i).toNat)
      case atStart =>
        refine ⟨0, Nat.zero_le _, rfl, hrg2, ?_, hBw⟩
        rw [tab_congr (G := F) (fun k _ => by simp)]
        exact hrw2
      case round =>
        obtain ⟨m, hm, rfl, hrgm, hrwm, hbm⟩ := hrel
        by_cases hmt : m < n
        · have hcx := (hrd.below hbm (Nat.le_refl _)).at0 (k := m) (by rw [hll]; exact hmt)
          have hcr := hrwm.cell hmt
          have hfr := hrwm.frozen m
          rw [nth_tab _ hmt, if_neg (by omega)] at hcr
          have p0 := HO0.out m
          have p1 := HFb.out m
          have p2 := HGb.out m
          rw [Hone.out] at p0 p2
          have hmi : (m : Int) < (n : Int) := by omega
          have Hset := Lib.hid (hrwm.set m (F m + nth cs j * (L / t) * nth (low (nthL ls j)) m))
          have hrgs := hrgm.kept (set_grown _ g m (.int .i64 (F m + nth cs j * (L / t) * nth (low (nthL ls j)) m))) (by simp; omega) (by simp; omega)
          have Hrgs := Lib.hid hrgs
          clear hrgs
          go_wp2
          go_roundw
          case rel =>
            refine ⟨m + 1, by omega, by go_num, Hrgs.out, ?_, hbm.setCell (p := ⟨g, m, none⟩) hg5 _⟩
            have h := Hset.out
            rw [tab_set] at h
            rw [tab_congr (G := fun i => if i = m then F m + nth cs j * (L / t) * nth (low (nthL ls j)) m else if i < m then F i + mixOne cs ls L j i else F i) (fun k _ => by
              by_cases e : k = m
              · subst e; simp [Hone.out]
              · by_cases h1 : k < m
                · rw [if_pos (by omega), if_neg e, if_pos h1]
                · rw [if_neg (by omega), if_neg e, if_neg h1])]
            exact h
          case measure => simp [intOf]; omega
        · obtain rfl : m = n := by omega
          have hfin : tab m (fun k => if k < m then F k + mixOne cs ls L j k else F k) = tab m (mixF cs ls L (fun i => left (.int .i64 (i : Int)) && !(Lit.int .i64 (i : Int)).sameKey (.int .i64 (j : Int))) c0.length) :=
            tab_congr fun k hk => by rw [if_pos hk, Hnew.out]
          rw [hfin] at hrwm
          have Hle := Lib.hid hrgm.left_eq
          clear hfin
          go_wp2
          go_roundw
          case rel => exact ⟨_, cnt1, hrgm, hrwm, Hleft1, hbm⟩
          case measure => rw [Hle.out, Hlm.out]; exact Hlt.out
end Go.Proofs.Ytnpnnfbmnlgioaa

