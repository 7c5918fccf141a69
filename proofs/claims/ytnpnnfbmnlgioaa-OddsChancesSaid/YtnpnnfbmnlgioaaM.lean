/-
  What canBeChosen, multiple and commonSum of package odds do, for valid lists.
-/
import Derived.Test.YtnpnnfbmnlgioaaI
import Derived.Test.YtnpnnfbmnlgioaaW
import Derived.Maps.RangeWalk
import Derived.Maps.Ext
namespace Go.Proofs.Ytnpnnfbmnlgioaa
open Go.RowKit Go.Maps

/-- A slice among the elements of a map: itself. -/
def RS : Value → Option (DataW Value × List MemPlace)
  | .slice (some a) n c => some (.held (.slice (some a) n c), [])
  | _ => none
theorem RS_inv (v : Value) (y : DataW Value × List MemPlace) (h : RS v = some y) : ∃ c : Addr × Nat × Nat, v = .slice (some c.1) c.2.1 c.2.2 := by
  unfold RS at h
  split at h
  · exact ⟨(_, _, _), rfl⟩
  · cases h
theorem keyedI : Keyed Try.prog 3 := int_keyed Try.underlying3

/-- The map D has, of the first k cases, those with a weight above 0, each with its list in lowest terms. -/
structure Chosen (w : World) (cs : List Int) (ls : List (List Int)) (D : DataW Value) (k : Nat) : Prop where
  isMap : IsMap D
  no : ∀ kl, has D kl = true → ∃ j : Nat, j < k ∧ kl = .int .i64 j ∧ 0 < nth cs j
  yes : ∀ j : Nat, j < k → 0 < nth cs j → has D (.int .i64 j) = true ∧ ∃ g, (∀ zd, D.atKey (.int .i64 j) zd = .held (.slice (some ⟨g, 0, none⟩) (nthL ls j).length (nthL ls j).length)) ∧ Reads w (some ⟨g, 0, none⟩) (low (nthL ls j))

theorem grown_of_below {w w' : World} (h : Below w.heap.size w w') : w.grownBy w' none := ⟨h.os, h.tape, h.output, h.size, fun k hk _ => h.block k hk⟩
theorem Reads.grown {w w' : World} {row : Option Nat} {p : Option Addr} {xs : List Int} (h : Reads w p xs) (hg : w.grownBy w' row) (hr : ∀ b, row = some b → ∀ a, a.block = b → w.cell? a = none) : Reads w' p xs := fun k hk => by
  obtain ⟨q, o, e, hc⟩ := h k hk
  refine ⟨q, o, e, hg.cell hc (fun e => ?_)⟩
  have := hr q e.symm ⟨q, o + k, none⟩ rfl
  rw [this] at hc
  cases hc
theorem Chosen.grown {w w' : World} {row : Option Nat} {cs : List Int} {ls : List (List Int)} {D : DataW Value} {k : Nat} (h : Chosen w cs ls D k) (hg : w.grownBy w' row) (hr : ∀ b, row = some b → ∀ a, a.block = b → w.cell? a = none) : Chosen w' cs ls D k :=
  ⟨h.isMap, h.no, fun j hj hp => let ⟨a, g, b, c⟩ := h.yes j hj hp; ⟨a, g, b, c.grown hg hr⟩⟩
theorem ownsMap_cell {w : World} {P : Program} {K b n : Nat} {R : Value → Option (DataW Value × List MemPlace)} {D : DataW Value} (h : w.ownsMap P K R b n D) (a : Addr) (ha : a.block = b) : w.cell? a = none := by
  obtain ⟨es, clock, hb, _⟩ := h
  simp [World.cell?, ha, hb]
theorem keyI_wf (j : Nat) (h : j ≤ 1000000000000000) : (Lit.int .i64 (j : Int)).wf = true := WalkArith.wf_i64 (by omega)

theorem Chosen.put {w : World} {cs : List Int} {ls : List (List Int)} {D : DataW Value} {k g : Nat} (h : Chosen w cs ls D k) (hp : 0 < nth cs k) (hr : Reads w (some ⟨g, 0, none⟩) (low (nthL ls k))) :
    Chosen w cs ls (D.put (.int .i64 k) (.held (.slice (some ⟨g, 0, none⟩) (nthL ls k).length (nthL ls k).length))) (k + 1) := by
  refine ⟨h.isMap.put _ _, fun kl hkl => ?_, fun j hj hpj => ?_⟩
  · by_cases e : kl = .int .i64 k
    · exact ⟨k, by omega, e, hp⟩
    · rw [has_put_other e] at hkl
      obtain ⟨j, h1, h2, h3⟩ := h.no kl hkl
      exact ⟨j, by omega, h2, h3⟩
  · by_cases e : j = k
    · subst e
      exact ⟨has_put_same (k := .int .i64 (j : Int)) h.isMap trivial _, g, fun zd => atKey_put_same (k := .int .i64 (j : Int)) h.isMap trivial _ zd, hr⟩
    · have hne : (Lit.int .i64 (j : Int)) ≠ .int .i64 (k : Int) := by simp; omega
      obtain ⟨a, g', b, c⟩ := h.yes j (by omega) hpj
      exact ⟨by rw [has_put_other hne]; exact a, g', fun zd => by rw [atKey_put_other hne]; exact b zd, c⟩
theorem Chosen.skip {w : World} {cs : List Int} {ls : List (List Int)} {D : DataW Value} {k : Nat} (h : Chosen w cs ls D k) (hp : ¬ 0 < nth cs k) : Chosen w cs ls D (k + 1) :=
  ⟨h.isMap, fun kl hkl => let ⟨j, h1, h2, h3⟩ := h.no kl hkl; ⟨j, by omega, h2, h3⟩, fun j hj hpj => h.yes j (by
    by_cases e : j = k
    · subst e; exact absurd hpj hp
    · omega) hpj⟩

set_option maxRecDepth 100000 in
set_option maxHeartbeats 2000000 in
theorem canBeChosen_any (p : Option Addr) (cs : List Int) (c : Nat) (q : Option Addr) (ls : List (List Int)) (cl : Nat) (w : World) (hl : cs.length ≤ 4096) (hll : ls.length = cs.length) (hR : Reads w p cs) (hL : ReadsL w q ls) (hv : ∀ j, j < ls.length → chk1 (nthL ls j) = 0) :
    Calls Try.prog 42 #[.slice p cs.length c, .slice q ls.length cl] w fun e w' => ∃ b D, e = .returned (.map (some b)) ∧ w.heap.size ≤ b ∧ w'.ownsMap Try.prog 3 RS b cs.length D ∧ Chosen w' cs ls D cs.length ∧ Below w.heap.size w w' := by
  have Hv := Lib.hid hv
  have Hll := Lib.hid hll
  clear hv hll
  have hmm := @run_makeMap Try.prog
  go_enter Try.func42, Try.ntmps42
  go_wp2
  clear hmm
  go_loopw [11] (fun i wr => ∃ (k : Nat) (D : DataW Value), k ≤ cs.length ∧ i = .int .i64 k ∧ wr.ownsMap Try.prog 3 RS w.heap.size k D ∧ Chosen wr cs ls D k ∧ Below w.heap.size w wr) (fun i _ => cs.length - (intOf i).toNat)
  case atStart => exact ⟨0, .map [], Nat.zero_le _, rfl, World.ownsMap_made _ _ _ _, ⟨isMap_empty, fun kl h => by simp [has_eq] at h, fun j hj => by omega⟩, (Below.refl _ _).alloc (Nat.le_refl _) _⟩
  case round =>
    obtain ⟨k, D, hk, rfl, hown, hch, hb⟩ := hrel
    by_cases hlt : k < cs.length
    · obtain ⟨r, o, rfl, hcell⟩ := hR.below hb (Nat.le_refl _) k hlt
      by_cases hp : 0 < nth cs k
      · obtain ⟨r2, o2, rfl, r3, c3, hcell2, hR3⟩ := hL.below hb (Nat.le_refl _) k (by rw [Hll.out]; exact hlt)
        obtain ⟨x1, x2, x3, x4⟩ := chk1_ok (Hv.out k (by rw [Hll.out]; exact hlt))
        obtain ⟨y1, y2, y3, y4⟩ := low_facts x2 x3
        have hkl : (k : Int) < (ls.length : Int) := by rw [Hll.out]; omega
        go_wp2_with fail
        go_call (lowest_any r3 (nthL ls k) c3 wr x1 x2 y1 hR3) as e w1 ⟨g, rfl, hrow, hb1⟩
        have hrow' : Row w1 wr.heap.size g (nthL ls k).length (low (nthL ls k)) := hrow
        have hown1 := hown.kept (grown_of_below hb1) (by simp)
        have hch1 := hch.grown (grown_of_below hb1) (fun b e => by cases e)
        have hbb := hb.trans (hb1.mono hb.size)
        have hrd := hrow'.reads
        clear hrow hrow' hown hch hb1 hb
        go_wp2_with (at_mapUpdate; refine wpList_mapUpdate_own _ rfl _ _ _ 72 rfl 3 34 keyedI Try.underlying72 RS w.heap.size k D rfl hown1 (by unfold maxLen; omega) _ _ _ rfl rfl (keyOf_int_mk Try.underlying3 (keyI_wf k (by omega))) _ [] rfl ?_; intro w2 hown2 hgrow2)
        go_roundw
        case rel => exact ⟨k + 1, _, by omega, by go_num, hown2, (hch1.put hp hrd).grown hgrow2 (fun b e => by cases e; exact ownsMap_cell hown1), hbb.grown hgrow2 hbb.size (fun j e => by cases e; exact Nat.le_refl _)⟩
        case measure => simp [intOf]; omega
      · go_wp2
        go_roundw
        case rel => exact ⟨k + 1, D, by omega, by go_num, by obtain ⟨es, clock, h1, h2, h3, h4⟩ := hown; exact ⟨es, clock, h1, h2, by omega, h4⟩, hch.skip hp, hb⟩
        case measure => simp [intOf]; omega
    · obtain rfl : k = cs.length := by omega
      go_wp2
      go_ret
      exact ⟨_, D, rfl, Nat.le_refl _, hown, hch, hb⟩

/-- The least number of which both are divisors. -/
def lcmI (a b : Int) : Int := (Int.lcm a b : Int)
theorem lcmI_eq {a b : Int} (ha : 1 ≤ a) (hb : 1 ≤ b) : a * (b / (Int.gcd a b : Int)) = lcmI a b := by
  obtain ⟨m, rfl⟩ := Int.eq_ofNat_of_zero_le (show 0 ≤ a by omega)
  obtain ⟨n, rfl⟩ := Int.eq_ofNat_of_zero_le (show 0 ≤ b by omega)
  unfold lcmI
  rw [Int.gcd_natCast_natCast, ← Int.natCast_ediv, ← Int.natCast_mul]
  show _ = ((Nat.lcm m n : Nat) : Int)
  rw [Nat.lcm, Nat.mul_div_assoc _ (Nat.gcd_dvd_right m n)]
theorem lcmI_pos {a b : Int} (ha : 1 ≤ a) (hb : 1 ≤ b) : 1 ≤ lcmI a b := by
  unfold lcmI
  have : 0 < Int.lcm a b := Int.lcm_pos (by omega) (by omega)
  omega
theorem dvd_lcmI_left (a b : Int) : a ∣ lcmI a b := Int.dvd_lcm_left ..
theorem dvd_lcmI_right (a b : Int) : b ∣ lcmI a b := Int.dvd_lcm_right ..
theorem lcmI_dvd {a b m : Int} (ha : a ∣ m) (hb : b ∣ m) : lcmI a b ∣ m := Int.coe_lcm_dvd ha hb

/-- The least number of which the sums of all lists that can be chosen, of the first k, are divisors. -/
def lcmTo (cs : List Int) (ls : List (List Int)) : Nat → Int
  | 0 => 1
  | k + 1 => if 0 < nth cs k then lcmI (lcmTo cs ls k) (lsum (low (nthL ls k))) else lcmTo cs ls k
theorem lcmTo_facts {cs : List Int} {ls : List (List Int)} {k : Nat} (h : ∀ j, j < k → 0 < nth cs j → 1 ≤ lsum (low (nthL ls j))) :
    1 ≤ lcmTo cs ls k ∧ (∀ j, j < k → 0 < nth cs j → lsum (low (nthL ls j)) ∣ lcmTo cs ls k) ∧ (∀ m, (∀ j, j < k → 0 < nth cs j → lsum (low (nthL ls j)) ∣ m) → lcmTo cs ls k ∣ m) := by
  induction k with
  | zero => exact ⟨by simp [lcmTo], fun j hj => by omega, fun m _ => by simp [lcmTo]⟩
  | succ k ih =>
    obtain ⟨h1, h2, h3⟩ := ih fun j hj hp => h j (by omega) hp
    unfold lcmTo
    by_cases hp : 0 < nth cs k
    · rw [if_pos hp]
      refine ⟨lcmI_pos h1 (h k (by omega) hp), fun j hj hpj => ?_, fun m hm => lcmI_dvd (h3 m fun j hj hpj => hm j (by omega) hpj) (hm k (by omega) hp)⟩
      by_cases e : j = k
      · subst e; exact dvd_lcmI_right _ _
      · exact Int.dvd_trans (h2 j (by omega) hpj) (dvd_lcmI_left _ _)
    · rw [if_neg hp]
      refine ⟨h1, fun j hj hpj => ?_, fun m hm => h3 m fun j hj hpj => hm j (by omega) hpj⟩
      by_cases e : j = k
      · subst e; exact absurd hpj hp
      · exact h2 j (by omega) hpj

set_option maxHeartbeats 1000000 in
theorem multiple_ok (a b : Int) (w : World) (ha : 1 ≤ a) (hb : 1 ≤ b) (ha2 : a ≤ 1000000000000000) (hb2 : b ≤ 1000000000000000) (h : lcmI a b ≤ 1000000000000000) :
    Calls Try.prog 64 #[.int .i64 a, .int .i64 b, .int .i64 10] w fun e w' => e = .returned (.tuple #[.int .i64 (lcmI a b), .int .i64 0]) ∧ Below w.heap.size w w' := by
  have hg := gcd_pos (a := a) hb
  have hgb : (Int.gcd a b : Int) ≤ b := Int.le_of_dvd (by omega) (Int.gcd_dvd_right ..)
  have hd : 1 ≤ b / (Int.gcd a b : Int) := (Int.le_ediv_iff_mul_le (by omega)).2 (by omega)
  have hle : a ≤ 1000000000000000 / (b / (Int.gcd a b : Int)) := (le_div hd).2 (by rw [lcmI_eq ha hb]; exact h)
  have Hl := Lib.hid (lcmI_eq ha hb)
  have hdb : b / (Int.gcd a b : Int) ≤ b := Int.ediv_le_self _ (by omega)
  rw [← Hl.out]
  go_enter Try.func64, Try.ntmps64
  go_wp2_with fail
  go_call (divisor2 a b w.heap.size _ (by omega) (by omega) (by go_simp) (by go_simp)) as e w1 ⟨rfl, hb1⟩
  go_wp2_with fail
  go_call (product_ok a (b / (Int.gcd a b : Int)) w1 (by omega) hd hle) as e w' ⟨rfl, rfl⟩
  go_wp2
  go_ret2
  exact ⟨rfl, (below1 _ _).trans (hb1.mono (by simp))⟩

set_option maxHeartbeats 1000000 in
theorem multiple_over (a b : Int) (w : World) (ha : 1 ≤ a) (hb : 1 ≤ b) (ha2 : a ≤ 1000000000000000) (hb2 : b ≤ 1000000000000000) (h : ¬ lcmI a b ≤ 1000000000000000) :
    Calls Try.prog 64 #[.int .i64 a, .int .i64 b, .int .i64 10] w fun e w' => e = .returned (.tuple #[.int .i64 0, .int .i64 10]) ∧ Below w.heap.size w w' := by
  have hg := gcd_pos (a := a) hb
  have hgb : (Int.gcd a b : Int) ≤ b := Int.le_of_dvd (by omega) (Int.gcd_dvd_right ..)
  have hd : 1 ≤ b / (Int.gcd a b : Int) := (Int.le_ediv_iff_mul_le (by omega)).2 (by omega)
  have hle : ¬ a ≤ 1000000000000000 / (b / (Int.gcd a b : Int)) := fun h1 => h (by rw [← lcmI_eq ha hb]; exact (le_div hd).1 h1)
  have hdb : b / (Int.gcd a b : Int) ≤ b := Int.ediv_le_self _ (by omega)
  clear h
  go_enter Try.func64, Try.ntmps64
  go_wp2_with fail
  go_call (divisor2 a b w.heap.size _ (by omega) (by omega) (by go_simp) (by go_simp)) as e w1 ⟨rfl, hb1⟩
  go_wp2_with fail
  go_call (product_over a (b / (Int.gcd a b : Int)) w1 (by omega) hd (by omega)) as e w' ⟨rfl, rfl⟩
  go_wp2
  go_ret2
  exact ⟨rfl, (below1 _ _).trans (hb1.mono (by simp))⟩

end Go.Proofs.Ytnpnnfbmnlgioaa
