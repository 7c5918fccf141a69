/-
  OddsMaps: for every list of weights, every list of what the outcomes are mapped to, every number of outcomes behind the map and every value, the function returns true and leaves both lists as they are. Nothing is asked of the input.
-/
import Derived.Test.YtagodfaclohkmaaZa
import Derived.Test.YtagodfaclohkmaaVc
import Derived.WalkKit
import Derived.ProofKit
import Derived.OpenShut
import Derived.ChangeOld
import Derived.Below
import Derived.Deep.RegionHeld3
import Derived.Lib.SmallJoins
namespace Go.Proofs.Ytagodfaclohkmaa
open Go.ChangeShapes Go.WideShapes Go.ChangeAt Go.RowKit
set_option linter.unusedVariables false

theorem oddsMaps_specs (xs ts : List Int) (n : Int) (hl : xs.length ≤ 1000000000000000) (hlt : ts.length ≤ 1000000000000000) : ∃ (L : List Int) (E : Int), L.length ≤ 4096 ∧
    (∀ p c pt ct w, Reads w p xs → Reads w pt ts → Calls Try.prog 29 #[.slice p xs.length c, .slice pt ts.length ct, .int .i64 n] w fun e w' => (∃ p' c', e = .returned (.tuple #[.slice p' L.length c', .int .i64 E]) ∧ Reads w' p' L) ∧ Below w.heap.size w w') ∧
    (∀ p c pt ct w, Reads w p xs → Reads w pt ts → Calls Try.prog 31 #[.slice p xs.length c, .slice pt ts.length ct, .int .i64 n] w fun e w' => ∃ p' c', e = .returned (.tuple #[.slice p' L.length c', .int .i64 E]) ∧ Reads w' p' L ∧ Below w.heap.size w w') :=
  ⟨(sMap xs ts n).1, (sMap xs ts n).2, sMap_length xs ts n, fun p c pt ct w h1 h2 => map_any p xs c pt ts ct n w hl hlt h1 h2, fun p c pt ct w h1 h2 => refMap_any p xs c pt ts ct n w hl hlt h1 h2⟩
theorem oddsMaps_picks (xs : List Int) (v : Int) (hl : xs.length ≤ 1000000000000000) (hv1 : -9223372036854775808 ≤ v) (hv2 : v ≤ 9223372036854775807) : ∃ (V U : Int),
    (∀ p c w, Reads w p xs → Calls Try.prog 30 #[.slice p xs.length c, .int .i64 v] w fun e w' => e = .returned (.tuple #[.int .i64 V, .int .i64 U]) ∧ Below w.heap.size w w') ∧
    (∀ p c w, Reads w p xs → Calls Try.prog 32 #[.slice p xs.length c, .int .i64 v] w fun e w' => e = .returned (.tuple #[.int .i64 V, .int .i64 U]) ∧ Below w.heap.size w w') :=
  ⟨(sPick xs v).1, (sPick xs v).2, fun p c w h => pick_any p xs c v w hl h, fun p c w h => refPick_any p xs c v w hl hv1 hv2 h⟩

set_option maxRecDepth 100000 in
set_option maxHeartbeats 8000000 in
theorem oddsMaps_walk (p : Option Addr) (xs : List Int) (c : Nat) (pt : Option Addr) (ts : List Int) (ct : Nat) (n v : Int) (w : World) (hv1 : -9223372036854775808 ≤ v) (hv2 : v ≤ 9223372036854775807) (hC : Came w p xs c) (hCt : Came w pt ts ct) :
    Calls Try.prog 4 #[.slice p xs.length c, .slice pt ts.length ct, .agg #[.int .i64 n, .int .i64 v]] w fun e w' => e = .returned (.bool true) ∧ Below w.heap.size w w' := by
  by_cases h1 : longB xs.length = true
  · have H1 := Lib.hid h1
    clear h1
    go_enter Try.func4, Try.ntmps4
    go_wp2_with fail
    go_call (long_any p xs c _) as e w1 ⟨rfl, hb1⟩
    rw [H1.out]
    go_wp2_with fail
    go_call (known_any _) as e w2 ⟨rfl, hb2⟩
    go_wp2
    go_returns
    exact ⟨rfl, tr ((below1 _ _).trans (hb1.mono (by simp))) hb2⟩
  · have h1' : longB xs.length = false := by simpa using h1
    have hln := longB_false h1'
    have H1 := Lib.hid h1'
    clear h1 h1'
    by_cases h2 : 400 < ts.length
    · go_enter Try.func4, Try.ntmps4
      go_wp2_with fail
      go_call (long_any p xs c _) as e w1 ⟨rfl, hb1⟩
      rw [H1.out]
      go_wp2_with fail
      go_call (known_any _) as e w2 ⟨rfl, hb2⟩
      go_wp2
      go_returns
      exact ⟨rfl, tr ((below1 _ _).trans (hb1.mono (by simp))) hb2⟩
    · obtain ⟨L, E, hL, hF, hG⟩ := oddsMaps_specs xs ts n (by omega) (by omega)
      obtain ⟨V, U, hP, hQ⟩ := oddsMaps_picks xs v (by omega) hv1 hv2
      go_enter Try.func4, Try.ntmps4
      go_wp2_with fail
      go_call (long_any p xs c _) as e w1 ⟨rfl, hb1⟩
      rw [H1.out]
      have k0 : w1.cell? ⟨w.heap.size, 0, none⟩ = some (.int .i64 n) := cell_tr hb1 (by go_simp)
      have k1 : w1.cell? ⟨w.heap.size, 1, none⟩ = some (.int .i64 v) := cell_tr hb1 (by go_simp)
      have hB1 : Below w.heap.size w w1 := (below1 _ _).trans (hb1.mono (by simp))
      have hC1 := hC.below hB1 (Nat.le_refl _)
      have hCt1 := hCt.below hB1 (Nat.le_refl _)
      clear hb1
      go_wp2_with fail
      go_region_held3 (fun w' => w'.cell? ⟨w.heap.size, 0, none⟩ = some (.int .i64 n) ∧ Below w1.heap.size w1 w')
        (first
          | exact ⟨k0, Below.refl _ _⟩
          | exact ⟨k0, (Below.refl _ _).drew⟩
          | assumption
          | exact ⟨cell_tr hbm (And.left (by assumption)), tr (And.right (by assumption)) hbm⟩
          | exact ⟨cell_tr hbA (And.left (by assumption)), tr (And.right (by assumption)) hbA⟩
          | exact ⟨cell_tr hbB (And.left (by assumption)), tr (And.right (by assumption)) hbB⟩)
        (first
          | (go_at_call 17; refine (own_any p xs c _ (by omega) (hC1.below (B := w1.heap.size) (by first | exact Below.refl _ _ | exact (Below.refl _ _).drew | exact And.right (by assumption)) (Nat.le_refl _))).mono ?_; rintro e w' ⟨⟨pa, ca, rfl, hra⟩, hbA⟩)
          | (go_at_call 17; refine (own_any pt ts ct _ (by omega) (hCt1.below (B := w1.heap.size) (by first | exact Below.refl _ _ | exact (Below.refl _ _).drew | exact And.right (by assumption)) (Nat.le_refl _))).mono ?_; rintro e w' ⟨⟨pb, cb, rfl, hrb⟩, hbB⟩)
          | (go_at_call 29; refine (hF _ _ _ _ _ (by first | exact hra | exact hra.below hbB (Nat.le_refl _)) (by first | exact hrb | exact hrb.below hbA (Nat.le_refl _))).mono ?_; rintro e w' ⟨⟨pm, cm, rfl, hrm⟩, hbm⟩))
      rename_i hh
      obtain ⟨k0', hbx⟩ := hh
      rename World => w3
      have hB3 := tr hB1 hbx
      have k1' := cell_tr hbx k1
      have hC3 := hC.below hB3 (Nat.le_refl _)
      clear hbA hra hbB hrb hbm k0 k1 hC1 hCt1 hB1 hbx
      go_wp2_with fail
      go_region_held3 (fun w' => w'.cell? ⟨w.heap.size, 1, none⟩ = some (.int .i64 v) ∧ Below w3.heap.size w3 w')
        (first
          | exact ⟨k1', Below.refl _ _⟩
          | exact ⟨k1', (Below.refl _ _).drew⟩
          | assumption
          | exact ⟨cell_tr hbm (And.left (by assumption)), tr (And.right (by assumption)) hbm⟩
          | exact ⟨cell_tr hbA (And.left (by assumption)), tr (And.right (by assumption)) hbA⟩)
        (first
          | (go_at_call 17; refine (own_any p xs c _ (by omega) (hC3.below (B := w3.heap.size) (by first | exact Below.refl _ _ | exact (Below.refl _ _).drew | exact And.right (by assumption)) (Nat.le_refl _))).mono ?_; rintro e w' ⟨⟨pa, ca, rfl, hra⟩, hbA⟩)
          | (go_at_call 30; refine (hP _ _ _ hra).mono ?_; rintro e w' ⟨rfl, hbm⟩))
      rename_i hh
      obtain ⟨k1, hbx⟩ := hh
      rename World => w4
      have hB4 := tr hB3 hbx
      have k0 := cell_tr hbx k0'
      have hr4 := hrm.below hbx (Nat.le_refl _)
      clear hbA hra hbm k0' k1' hC3 hB3 hbx hrm
      go_wp2_with fail
      go_call (hG p c pt ct _ (hC.2.1.below hB4 (Nat.le_refl _)) (hCt.2.1.below hB4 (Nat.le_refl _))) as e w5 ⟨p5, c5, rfl, hr5, hb5⟩
      have hB5 := tr hB4 hb5
      have k15 := cell_tr hb5 k1
      have hr45 := hr4.below hb5 (Nat.le_refl _)
      clear hB4 k0 k1 hr4 hb5
      go_wp2_with fail
      go_call (hQ p c _ (hC.2.1.below hB5 (Nat.le_refl _))) as e w6 ⟨rfl, hb6⟩
      have hB6 := tr hB5 hb6
      have hr46 := hr45.below hb6 (Nat.le_refl _)
      have hr56 := hr5.below hb6 (Nat.le_refl _)
      clear hB5 hb6 hr45 hr5 k15
      go_wp2_with fail
      go_call (equal_same L hL _ _ _ _ _ hr46 hr56) as e w7 ⟨rfl, hb7⟩
      have hB7 := tr hB6 hb7
      clear hB6 hb7 hr46 hr56
      go_wp2_with fail
      go_call (known_any _) as e w8 ⟨rfl, hb8⟩
      go_wp2
      go_returns
      exact ⟨rfl, tr hB7 hb8⟩

theorem oddsMaps_own : ownKnob Try.prog.godebug = none := by kernel_rfl
theorem oddsMaps_laidOut : laidOutB Try.prog = true := by kernel_rfl
theorem oddsMaps_cells : Try.prog.cellsOf 40 = 2 := by kernel_rfl

set_option maxRecDepth 100000 in
theorem oddsMaps_lifted (os : Os) (started : os.Started) (H : Type) (enc : TypeId × Value → H) :
    ReturnsInHanded {} Try.checked os 4 .any (Rows.oddsMapsSpec.pre6 enc Try.prog Try.f4 Rows.oddsMapsRow.domain false) (Rows.oddsMapsSpec.post enc Try.prog Try.f4 false true false false) := by
  refine returnsInHanded_of_change (C := Try.checked) oddsMaps_own started (by kernel_rfl) Try.func4
    (ChangeSpec.witness6 (enc := enc) (C := Try.checked) false ⟨#[], #[.slice none 0 0, .slice none 0 0, .agg #[.int .i64 0, .int .i64 0]], []⟩ 8 (by kernel_rfl) (by kernel_rfl) (by kernel_rfl) (by kernel_rfl)) ?_
  intro W base args ds gs before hval0 hW hcnd _
  have hval : ∀ (j : Nat) t v, Try.f4.params[j]? = some t → args[j]? = some v → Value.okWide Try.prog W .any base t v := hval0
  have hW' := hW
  obtain ⟨p, q, hA0, hV, rfl, hfz, hnd⟩ := hW
  have hA : DataW.TrodAll enc Try.prog W 0 (fun _ => true) true Try.f4.params.toList args.toList ds p := hA0
  rw [Try.params4] at hA hval
  obtain ⟨v0, v1, v2, d0, d1, d2, p0, p1, p2, rfl, rfl, rfl, h0, h1, h2⟩ := trodAll_three hA
  obtain ⟨rfl, rfl⟩ := trodVars_none hV
  have lt0 : ∀ x ∈ p0, x.block < W.heap.size := by obtain ⟨m, hm⟩ := h0; exact DataW.trod_lt m _ _ _ hm
  have lt1 : ∀ x ∈ p1, x.block < W.heap.size := by obtain ⟨m, hm⟩ := h1; exact DataW.trod_lt m _ _ _ hm
  have lt2 : ∀ x ∈ p2, x.block < W.heap.size := by obtain ⟨m, hm⟩ := h2; exact DataW.trod_lt m _ _ _ hm
  obtain ⟨a0, xs0, c0, rfl, hC0, _⟩ := came_open (hval 0 22 v0 rfl rfl) h0
  obtain ⟨a1, xs1, c1, rfl, hC1, _⟩ := came_open (hval 1 22 v1 rfl rfl) h1
  have k2 := h2
  obtain ⟨e0, e1, y0, y1, m, rfl, hd2, hp2, hy0, hy1⟩ := Go.Joins.open_agg2 Try.underlying40 (by kernel_rfl) oddsMaps_cells (hval 2 40 v2 rfl rfl) h2
  obtain ⟨n, g0, -, wn⟩ := DataW.trod_int Try.underlying3 hy0
  obtain ⟨v, g1, -, wv⟩ := DataW.trod_int Try.underlying3 hy1
  simp only [List.cons.injEq, and_true] at g0 g1
  subst g0 g1
  have hv : -9223372036854775808 ≤ v ∧ v ≤ 9223372036854775807 := by
    simp [Lit.wf, IntKind.min, IntKind.max, IntKind.signed, IntKind.bits] at wv
    omega
  clear hA0 hval0 hd2 hp2 hy0 hy1
  refine (oddsMaps_walk a0 xs0 c0 a1 xs1 c1 n v W hv.1 hv.2 hC0 hC1).mono fun e W' ⟨he, bel⟩ => ?_
  subst he
  exact ⟨_, rfl, _, _, _, [], _, [], hW', trodAll_mk1 (shut_bool Try.underlying4 _), (trodAll_cons_mk (Below.trod oddsMaps_laidOut (by kernel_rfl) (of_decide_eq_true (by kernel_rfl)) h0 bel lt0) (trodAll_cons_mk (Below.trod oddsMaps_laidOut (by kernel_rfl) (of_decide_eq_true (by kernel_rfl)) h1 bel lt1) (trodAll_cons_mk (Below.trod oddsMaps_laidOut (by kernel_rfl) (of_decide_eq_true (by kernel_rfl)) k2 bel lt2) trodAll_mk0))), rfl, bel.frame _, fun h => by cases h⟩

theorem oddsMaps_holds : Rows.OddsMapsSaid :=
  OpenClaim.holds_of_wide 4 Try.f4 rfl rfl rfl rfl rfl rfl rfl ⟨rfl, rfl, rfl, rfl, rfl⟩ rfl rfl rfl rfl rfl (by kernel_rfl) Try.func4 (by kernel_rfl)
    (of_decide_eq_true (by kernel_rfl)) (by unfold Func.isWrapper; first | (rw [if_pos (by decide +kernel)]; kernel_rfl) | (rw [if_neg (by decide +kernel)]; exact ⟨rfl, rfl⟩))
    (fun os started H enc _ => oddsMaps_lifted os started H enc)
end Go.Proofs.Ytagodfaclohkmaa
