/-
  Twelve figures and two houses that came in, opened; what the law takes from them.
  The law on rulers and partners.
  HousePartners at whatever input.
-/
import Derived.Test.YtdnccdobnhbpeaaDoorHcV
import Derived.Test.YtdnccdobnhbpeaaDoorHoOa
import Derived.Test.YtdnccdobnhbpeaaDoorHdB
import Derived.Test.YtdnccdobnhbpeaaDoorHoJq
import Derived.BigQuiet
import Derived.Deep.Light
namespace Go.Proofs.YtdnccdobnhbpeaaDoor
open Go Go.ChangeShapes Go.WideShapes Go.ChangeAt Go.RowKit
set_option linter.unusedVariables false

theorem cell_int {P : Program} {w : World} {r : Reach} {base : Nat} {t : TypeId} {v : Value} {k : IntKind} (ht : P.underlying t = some (.int k)) (h : Cell.okWide P w r base t v) : ∃ n, v = .int k n ∧ k.min ≤ n ∧ n ≤ k.max := by
  unfold Cell.okWide at h
  rw [ht] at h
  unfold Cell.ok at h
  rw [ht] at h
  cases v <;> simp at h
  obtain ⟨rfl, h⟩ := h
  exact ⟨_, rfl, by simpa [IntKind.has] using h⟩
set_option maxRecDepth 100000 in
theorem came_sky {W : World} {v : Value} {j : Nat} (hv : Value.okWide Tryd.prog W .any j 61 v) :
    ∃ zs : List Int, v = .agg (bys zs) ∧ zs.length = 14 ∧ ∀ k, k < 14 → 0 ≤ nth zs k ∧ nth zs k < 256 := by
  simp only [Value.okWide, Tryd.underlying61] at hv
  obtain ⟨cs, rfl, hsz, ts, hts, _, hc⟩ := hv
  have hts2 : Tryd.prog.cellTypes Tryd.prog.depth 61 = some (List.replicate 14 5) := by kernel_rfl
  rw [hts2] at hts
  cases hts
  have h4 : Tryd.prog.cellsOf 61 = 14 := by kernel_rfl
  rw [h4] at hsz
  obtain ⟨l⟩ := cs
  have hl : l.length = 14 := by simpa using hsz
  have key : ∀ i, i < 14 → ∃ z : Int, l[i]? = some (.int .u8 z) ∧ 0 ≤ z ∧ z < 256 := fun i hi => by
    have hg : l[i]? = some l[i] := List.getElem?_eq_getElem (by omega)
    obtain ⟨u, e, h⟩ := hc i l[i] (by simp)
    obtain rfl : u = 5 := by
      have e' : (List.replicate 14 5)[i % (List.replicate 14 5).length]? = some u := e
      rw [List.length_replicate, Nat.mod_eq_of_lt hi, List.getElem?_replicate, if_pos hi] at e'
      exact (Option.some.inj e').symm
    obtain ⟨z, hz, h0, h1⟩ := cell_int Tryd.underlying5 h
    simp [IntKind.min, IntKind.max, IntKind.signed, IntKind.bits] at h0 h1
    exact ⟨z, by rw [hg, hz], h0, by omega⟩
  have hn : ∀ k, k < 14 → ∃ z : Int, l[k]? = some (.int .u8 z) ∧ nth (l.map (fun v => match v with | .int _ z => z | _ => 0)) k = z ∧ 0 ≤ z ∧ z < 256 := fun k hk => by
    obtain ⟨z, hz, h0, h1⟩ := key k hk
    refine ⟨z, hz, ?_, h0, h1⟩
    unfold nth
    rw [List.getD_eq_getElem?_getD, List.getElem?_map, hz]
    rfl
  refine ⟨l.map (fun v => match v with | .int _ z => z | _ => 0), ?_, by simpa using hl, fun k hk => ?_⟩
  · congr 1
    apply Array.ext'
    simp only [bys, List.map_map]
    apply List.ext_getElem
    · simp
    · intro i h1 h2
      obtain ⟨z, hz, _, _⟩ := key i (by simpa [hl] using h1)
      have hz' : l[i] = .int .u8 z := by
        have := List.getElem?_eq_getElem (l := l) (i := i) h1
        rw [hz] at this
        exact (Option.some.inj this).symm
      simp [hz']
  · obtain ⟨z, _, e, h0, h1⟩ := hn k hk
    rw [e]
    exact ⟨h0, h1⟩
theorem sky_list (zs : List Int) : skyTo zs 12 = [nth zs 0 % 16, nth zs 1 % 16, nth zs 2 % 16, nth zs 3 % 16, nth zs 4 % 16, nth zs 5 % 16, nth zs 6 % 16, nth zs 7 % 16, nth zs 8 % 16, nth zs 9 % 16, nth zs 10 % 16, nth zs 11 % 16] := rfl
theorem sky_fig (zs : List Int) : chkF (skyTo zs 12) = 0 := chkF_of fun k hk => by
  have hk12 : k < 12 := by rw [skyTo_len] at hk; exact hk
  have e : nth (skyTo zs 12) k = nth zs k % 16 := by
    unfold nth
    rw [List.getD_eq_getElem?_getD, List.getElem?_eq_getElem hk]
    simp [skyTo, hk12, nth]
  rw [e]
  exact ⟨by omega, by omega⟩
theorem sky_a (zs : List Int) : Hou (skyA zs) := by unfold Hou skyA; omega
theorem sky_b (zs : List Int) : Hou (skyB zs) := by unfold Hou skyB; omega
theorem sky_ne (zs : List Int) : skyA zs ≠ skyB zs := by unfold skyA skyB; omega
end Go.Proofs.YtdnccdobnhbpeaaDoor

namespace Go.Proofs.YtdnccdobnhbpeaaDoor
open Go Go.RowKit Go.Shelf Go.Maps Go.ChangeShapes
set_option linter.unusedVariables false
set_option linter.unusedSimpArgs false

theorem compN_comm (f g : Nat) : compN f g = compN g f := by
  unfold compN
  by_cases h : f = g
  · rw [h]
  · have h' : ¬ g = f := fun e => h e.symm
    have h1 : (nth rulL f = nth rulL g) ↔ (nth rulL g = nth rulL f) := ⟨Eq.symm, Eq.symm⟩
    have h2 : (f % 2 = g % 2) ↔ (g % 2 = f % 2) := ⟨Eq.symm, Eq.symm⟩
    simp only [if_neg h, if_neg h', h1, h2, Nat.add_comm f g]
theorem partN_part {k : Nat} (hk : k < 12) : partN (partN (k + 1)) = k + 1 ∧ 1 ≤ partN (k + 1) ∧ partN (k + 1) ≤ 12 ∧ partN (k + 1) ≠ k + 1 := by
  unfold partN
  split <;> split <;> omega
/-- Whether one of the first so many is it. -/
def inTo (xs : List Int) (f : Int) (k : Nat) : Bool := (List.range k).any fun i => decide (nth xs i = f)
theorem inTo_succ (xs : List Int) (f : Int) (k : Nat) : inTo xs f (k + 1) = (inTo xs f k || decide (nth xs k = f)) := by
  unfold inTo
  rw [List.range_succ, List.any_append]
  simp
theorem ruled_in : ((List.range 9).all fun j => (List.range 16).all fun f => (inTo (ruledV (Int.ofNat j)) (Int.ofNat f) (ruledV (Int.ofNat j)).length == decide ((Int.ofNat j) = nth rulL f)) && decide (1 ≤ (ruledV (Int.ofNat j)).length) && decide ((ruledV (Int.ofNat j)).length ≤ 16)) = true := by kernel_rfl
theorem ruled_facts {j : Nat} (hj : j ≤ 8) {f : Int} (hf : Fig f) : inTo (ruledV (j : Int)) f (ruledV (j : Int)).length = decide ((j : Int) = nth rulL f.toNat) ∧ 1 ≤ (ruledV (j : Int)).length ∧ (ruledV (j : Int)).length ≤ 16 := by
  have h := ruled_in
  simp only [List.all_eq_true, List.mem_range] at h
  obtain ⟨n, hn, rfl⟩ := fig_nat hf
  have h1 := h j (by omega) n hn
  simp only [Bool.and_eq_true, beq_iff_eq, decide_eq_true_eq] at h1
  exact ⟨h1.1.1, h1.1.2, h1.2⟩
theorem chkH_in {a : Int} (h : Hou a) : chkH [a] = 0 := by
  rcases chkH_one (a := a) with ⟨e, _⟩ | ⟨_, e⟩
  · exact e
  · exact absurd h e
theorem ruled_err : ((List.range 9).all fun j => decide (ruledE (Int.ofNat j) = 0)) = true := by kernel_rfl
theorem ruledE_ok {j : Nat} (hj : j ≤ 8) : ruledE (j : Int) = 0 := by
  have h := ruled_err
  simp only [List.all_eq_true, List.mem_range, decide_eq_true_eq] at h
  exact h j (by omega)
set_option maxRecDepth 100000 in
set_option maxHeartbeats 8000000 in
theorem partners_walk (s0 s1 s2 s3 s4 s5 s6 s7 s8 s9 s10 s11 : Int) (HC : Hid (chkF [s0, s1, s2, s3, s4, s5, s6, s7, s8, s9, s10, s11] = 0)) (k0 : Nat) (hk0 : k0 < 12) (b : Int) (hb : Hou b) (HAB : Hid ((((k0 : Int) + 1) == b) = false)) (zs : List Int) (hz : zs.length = 14) (hzb : ∀ k, k < 14 → 0 ≤ nth zs k ∧ nth zs k < 256) (HS : Hid (arr (skyTo zs 12) = #[.int .i64 s0, .int .i64 s1, .int .i64 s2, .int .i64 s3, .int .i64 s4, .int .i64 s5, .int .i64 s6, .int .i64 s7, .int .i64 s8, .int .i64 s9, .int .i64 s10, .int .i64 s11])) (HA : Hid (skyA zs = (k0 : Int) + 1)) (HBv : Hid (skyB zs = b)) (w : World) (h6 : 6 ≤ w.heap.size) (hr : Rul w) :
    Calls Tryd.prog 7 #[.agg (bys zs)] w fun e w' => e = .returned (.bool true) ∧ Below w.heap.size w w' := by
  have hX := Blk.new w 61 (bys zs)
  have hB0 := below1 w (.cells (bys zs) 61)
  have HX := Lib.hid hX
  clear hX
  have HIs := Lib.hid (show (Tryd.prog.info? 61).map (·.size) = some (bys zs).size by rw [show (bys zs).size = 14 by simp [bys, hz]]; exact info_sky)
  have HIh := Lib.hid (show (Tryd.prog.info? 24).map (·.size) = some (#[.int .i64 s0, .int .i64 s1, .int .i64 s2, .int .i64 s3, .int .i64 s4, .int .i64 s5, .int .i64 s6, .int .i64 s7, .int .i64 s8, .int .i64 s9, .int .i64 s10, .int .i64 s11] : Array Value).size from info_houses)
  go_enter Tryd.func7, Tryd.ntmps7
  go_wp2_with (refine wpList_load_row rfl 61 (.tmp 1) rfl w.heap.size rfl 61 (bys zs) (0, 0) _ HX.out Tryd.underlying61 rfl HIs.out ?_)
  refine (sky_any zs hz hzb _).mono ?_
  rintro e w2 ⟨rfl, hb2⟩
  rw [HS.out, HA.out, HBv.out]
  have hB2 : Below w.heap.size w w2 := hB0.trans (hb2.mono hB0.size)
  clear hb2 hB0 HX HIs
  have HFf := Lib.hid (show Fig (nth [s0, s1, s2, s3, s4, s5, s6, s7, s8, s9, s10, s11] k0) from chkF_zero HC.out k0 hk0)
  obtain ⟨f, hf⟩ : ∃ f, nth [s0, s1, s2, s3, s4, s5, s6, s7, s8, s9, s10, s11] k0 = f := ⟨_, rfl⟩
  rw [hf] at HFf
  have HF := Lib.hid hf
  clear hf
  have HZ := Lib.hid (newAt (W := w2) (o := .cells #[.int .i64 0, .int .i64 0, .int .i64 0, .int .i64 0, .int .i64 0, .int .i64 0, .int .i64 0, .int .i64 0, .int .i64 0, .int .i64 0, .int .i64 0, .int .i64 0] 24) rfl)
  have HH' : Hid (Blk ((w2.alloc (.cells #[.int .i64 0, .int .i64 0, .int .i64 0, .int .i64 0, .int .i64 0, .int .i64 0, .int .i64 0, .int .i64 0, .int .i64 0, .int .i64 0, .int .i64 0, .int .i64 0] 24)).setRow w2.heap.size #[.int .i64 s0, .int .i64 s1, .int .i64 s2, .int .i64 s3, .int .i64 s4, .int .i64 s5, .int .i64 s6, .int .i64 s7, .int .i64 s8, .int .i64 s9, .int .i64 s10, .int .i64 s11]) w2.heap.size 24 #[.int .i64 s0, .int .i64 s1, .int .i64 s2, .int .i64 s3, .int .i64 s4, .int .i64 s5, .int .i64 s6, .int .i64 s7, .int .i64 s8, .int .i64 s9, .int .i64 s10, .int .i64 s11]) := Lib.hid (Blk.row HZ.out #[.int .i64 s0, .int .i64 s1, .int .i64 s2, .int .i64 s3, .int .i64 s4, .int .i64 s5, .int .i64 s6, .int .i64 s7, .int .i64 s8, .int .i64 s9, .int .i64 s10, .int .i64 s11])
  have hcf : ((w2.alloc (.cells #[.int .i64 0, .int .i64 0, .int .i64 0, .int .i64 0, .int .i64 0, .int .i64 0, .int .i64 0, .int .i64 0, .int .i64 0, .int .i64 0, .int .i64 0, .int .i64 0] 24)).setRow w2.heap.size #[.int .i64 s0, .int .i64 s1, .int .i64 s2, .int .i64 s3, .int .i64 s4, .int .i64 s5, .int .i64 s6, .int .i64 s7, .int .i64 s8, .int .i64 s9, .int .i64 s10, .int .i64 s11]).cell? ⟨w2.heap.size, k0, none⟩ = some (.int .i64 f) := (HH'.out.cell _).trans (by rw [← HF.out]; exact arr_get (xs := [s0, s1, s2, s3, s4, s5, s6, s7, s8, s9, s10, s11]) hk0)
  have hkI : (k0 : Int) < 12 := by omega
  have hkw : IntKind.i64.wrap ((k0 : Int) + 1 - 1) = (k0 : Int) := by rw [show (k0 : Int) + 1 - 1 = k0 by omega]; exact IntWalk.i64_in _ (by omega)
  go_wp2_with (first
    | (refine wpList_store_row rfl 24 (.tmp 3) (.tmp 25) rfl w2.heap.size #[.int .i64 s0, .int .i64 s1, .int .i64 s2, .int .i64 s3, .int .i64 s4, .int .i64 s5, .int .i64 s6, .int .i64 s7, .int .i64 s8, .int .i64 s9, .int .i64 s10, .int .i64 s11] rfl rfl 24 _ HZ.out HIh.out rfl (by simp [Value.oneCell']) ?_)
    | fail)
  clear hcf hkw
  obtain ⟨S3, hS3⟩ : ∃ S3, w2.heap.size = S3 := ⟨_, rfl⟩
  generalize hW3 : World.setRow _ _ _ = W3
  rw [hW3] at HH'
  rw [hS3] at HH' hW3
  rw [hS3]
  have hB3 : Below w.heap.size w W3 := by
    rw [← hW3]
    exact below_setRow (hB2.alloc hB2.size _) (by rw [← hS3]; exact hB2.size) _
  clear hW3 HZ hB2 hS3
  have hw3 : 6 ≤ W3.heap.size := Nat.le_trans h6 hB3.size
  refine (ruler_any f W3 hw3 (hr.below hB3 (Nat.le_refl _))).mono ?_
  rintro e w4 ⟨rfl, hb4⟩
  have hcf : chkF [f] = 0 := chkF_of fun k hk => by
    have e : k = 0 := by simp at hk; omega
    subst e
    exact HFf.out
  have hrv : rulV f = nth rulL f.toNat := by unfold rulV; rw [if_pos hcf]
  rw [hcf, hrv]
  obtain ⟨P, hP⟩ : ∃ P, nth rulL f.toNat = P := ⟨_, rfl⟩
  rw [hP]
  have HP := Lib.hid hP
  clear hP hcf hrv
  have hB4 := hB3.trans (hb4.mono hB3.size)
  have HH4 := Lib.hid (HH'.out.below hb4 HH'.out.lt)
  clear hb4 hB3 HH' hw3 hkI w2
  go_wp2
  go_loopw [9] (fun i wr => ∃ j : Nat, j ≤ 9 ∧ i = .int .i64 j ∧ Hid (Blk wr S3 24 #[.int .i64 s0, .int .i64 s1, .int .i64 s2, .int .i64 s3, .int .i64 s4, .int .i64 s5, .int .i64 s6, .int .i64 s7, .int .i64 s8, .int .i64 s9, .int .i64 s10, .int .i64 s11]) ∧ Below w.heap.size w wr) (fun i _ => 9 - (intOf i).toNat)
  case atStart => exact ⟨0, by omega, rfl, HH4, hB4⟩
  case round =>
    obtain ⟨j, hj, rfl, HHj, hBj⟩ := hrel
    clear HH4 hB4
    have hwj : 6 ≤ wr.heap.size := Nat.le_trans h6 hBj.size
    by_cases hlt : j < 9
    · have hjI : (j : Int) ≤ 8 := by omega
      obtain ⟨HI0, hn1, hn16⟩ := ruled_facts (j := j) (by omega) HFf.out
      rw [HP.out] at HI0
      have HI := Lib.hid HI0
      clear HI0
      go_wp2_with fail
      refine (ruled_any (j : Int) wr hwj (hr.below hBj (Nat.le_refl _))).mono ?_
      rintro e w5 ⟨⟨q, c, rfl, hRd⟩, hb5⟩
      rw [ruledE_ok (by omega)]
      obtain ⟨xs, hxs⟩ : ∃ xs, ruledV (j : Int) = xs := ⟨_, rfl⟩
      rw [hxs] at hRd HI hn1 hn16 ⊢
      obtain ⟨n, hn⟩ : ∃ n, xs.length = n := ⟨_, rfl⟩
      rw [hn] at HI hn1 hn16 ⊢
      have HN := Lib.hid hn
      clear hn hxs
      have HHj5 := Lib.hid (HHj.out.below hb5 HHj.out.lt)
      have hBj5 := hBj.trans (hb5.mono hBj.size)
      clear hb5 HHj hBj hwj
      have HRd := Lib.hid hRd
      clear hRd
      have hn1' : ¬ ((n : Int) < 1) := by omega
      go_wp2
      go_loopw [12, 13] (fun u i wz => ∃ t : Nat, t ≤ n ∧ i = .int .i64 t ∧ u = .bool (inTo xs f t) ∧ wz = w5) (fun _ i _ => n - (intOf i).toNat)
      case atStart => exact ⟨0, by omega, rfl, rfl, rfl⟩
      case round =>
        obtain ⟨t, ht, rfl, rfl, rfl⟩ := hrel
        by_cases htn : t < n
        · obtain ⟨g', o', rfl, hc⟩ := HRd.out t (by rw [HN.out]; exact htn)
          obtain ⟨y, hy⟩ : ∃ y, nth xs t = y := ⟨_, rfl⟩
          rw [hy] at hc
          have HFS := Lib.hid (show inTo xs f (t + 1) = (inTo xs f t || decide (y = f)) by rw [inTo_succ, hy])
          clear hy
          have hti : (t : Int) < (n : Int) := Int.ofNat_lt.2 htn
          cases hin : inTo xs f t
          · rw [hin] at HFS
            go_wp2
            go_roundw
            case rel => (go_light; refine ⟨t + 1, by omega, by go_num, ?_, trivial⟩; rw [HFS.out]; simp <;> rfl)
            case measure => (go_light; simp [intOf]; omega)
          · rw [hin] at HFS
            go_wp2
            go_roundw
            case rel => (go_light; refine ⟨t + 1, by omega, by go_num, ?_, trivial⟩; rw [HFS.out]; simp <;> rfl)
            case measure => (go_light; simp [intOf]; omega)
        · obtain rfl : n = t := Nat.le_antisymm (Nat.le_of_not_lt htn) ht
          have hti : ¬ ((n : Int) < (n : Int)) := Int.lt_irrefl _
          rw [HI.out]
          by_cases hjp : (j : Int) = P
          · subst hjp
            go_wp2
            go_roundw
            case rel => (go_light; exact ⟨j + 1, by omega, by go_num, HHj5, hBj5⟩)
            case measure => (go_light; simp [intOf]; omega)
          · have hjb : ((j : Int) == P) = false := by simp [hjp]
            rw [show decide ((j : Int) = P) = false from decide_eq_false hjp]
            go_wp2
            go_roundw
            case rel => (go_light; exact ⟨j + 1, by omega, by go_num, HHj5, hBj5⟩)
            case measure => (go_light; simp [intOf]; omega)
    · obtain rfl : j = 9 := by omega
      have HNk := Lib.hid (show chkH [(k0 : Int) + 1] = 0 from chkH_in ⟨by omega, by omega⟩)
      obtain ⟨p1, p2, p3, p4⟩ := partN_part hk0
      obtain ⟨k1, hk1⟩ : ∃ k1, partN (k0 + 1) = k1 + 1 := ⟨partN (k0 + 1) - 1, by omega⟩
      rw [hk1] at p1 p2 p3 p4
      have HNk1 := Lib.hid (show chkH [(k1 : Int) + 1] = 0 from chkH_in ⟨by omega, by omega⟩)
      have HK1 := Lib.hid hk1
      have HP1 := Lib.hid p1
      have hk1l : k1 < 12 := by omega
      have hne : ¬ (k1 : Int) = (k0 : Int) := by omega
      have hneb : ((k1 : Int) + 1 == (k0 : Int) + 1) = false := by simp; omega
      have hak : Hou ((k0 : Int) + 1) := ⟨by omega, by omega⟩
      clear hk1 p1 p2 p3 p4 hlt hj
      have hsk : S3 < wr.heap.size := HHj.out.lt
      have HH := HHj
      clear HHj
      go_wp2_with (refine wpList_load_row rfl 24 (.tmp 3) rfl S3 rfl 24 #[.int .i64 s0, .int .i64 s1, .int .i64 s2, .int .i64 s3, .int .i64 s4, .int .i64 s5, .int .i64 s6, .int .i64 s7, .int .i64 s8, .int .i64 s9, .int .i64 s10, .int .i64 s11] (0, 0) _ HH.out Tryd.underlying24 rfl HIh.out ?_)
      refine (partner_ok s0 s1 s2 s3 s4 s5 s6 s7 s8 s9 s10 s11 k0 hk0 HC HNk wr hwj (hr.below hBj (Nat.le_refl _))).mono ?_
      rintro e w5 ⟨rfl, hb5⟩
      rw [HK1.out, show ((k1 + 1 : Nat) : Int) = (k1 : Int) + 1 by omega, show k1 + 1 - 1 = k1 by omega]
      obtain ⟨KC, hKC⟩ : ∃ KC, Int.ofNat (compN (nth [s0, s1, s2, s3, s4, s5, s6, s7, s8, s9, s10, s11] k0).toNat (nth [s0, s1, s2, s3, s4, s5, s6, s7, s8, s9, s10, s11] k1).toNat) = KC := ⟨_, rfl⟩
      rw [hKC]
      have HKC := Lib.hid hKC
      clear hKC
      have hB5 := hBj.trans (hb5.mono hBj.size)
      have HH5 := Lib.hid (HH.out.below hb5 hsk)
      have hs5 : S3 < w5.heap.size := HH5.out.lt
      clear HH hb5 hsk hBj hwj
      have HH := HH5
      clear HH5
      go_wp2_with (refine wpList_load_row rfl 24 (.tmp 3) rfl S3 rfl 24 #[.int .i64 s0, .int .i64 s1, .int .i64 s2, .int .i64 s3, .int .i64 s4, .int .i64 s5, .int .i64 s6, .int .i64 s7, .int .i64 s8, .int .i64 s9, .int .i64 s10, .int .i64 s11] (0, 0) _ HH.out Tryd.underlying24 rfl HIh.out ?_)
      have hw5 : 6 ≤ w5.heap.size := Nat.le_trans h6 hB5.size
      refine (partner_ok s0 s1 s2 s3 s4 s5 s6 s7 s8 s9 s10 s11 k1 hk1l HC HNk1 w5 hw5 (hr.below hB5 (Nat.le_refl _))).mono ?_
      rintro e w6 ⟨rfl, hb6⟩
      rw [HP1.out, show ((k0 + 1 : Nat) : Int) = (k0 : Int) + 1 by omega, show k0 + 1 - 1 = k0 by omega, compN_comm, HKC.out]
      have hB6 := hB5.trans (hb6.mono hB5.size)
      have HH6 := Lib.hid (HH.out.below hb6 hs5)
      have hs6 : S3 < w6.heap.size := HH6.out.lt
      clear HH hb6 hs5 hB5 hw5
      have HH := HH6
      clear HH6
      go_wp2_with (refine wpList_load_row rfl 24 (.tmp 3) rfl S3 rfl 24 #[.int .i64 s0, .int .i64 s1, .int .i64 s2, .int .i64 s3, .int .i64 s4, .int .i64 s5, .int .i64 s6, .int .i64 s7, .int .i64 s8, .int .i64 s9, .int .i64 s10, .int .i64 s11] (0, 0) _ HH.out Tryd.underlying24 rfl HIh.out ?_)
      have hw6 : 6 ≤ w6.heap.size := Nat.le_trans h6 hB6.size
      refine (judgeS_any s0 s1 s2 s3 s4 s5 s6 s7 s8 s9 s10 s11 HC ((k0 : Int) + 1) b hak hb HAB w6 hw6).mono ?_
      rintro e w7 ⟨rfl, hb7⟩
      obtain ⟨V, hV⟩ : ∃ V, jdg [s0, s1, s2, s3, s4, s5, s6, s7, s8, s9, s10, s11] ((k0 : Int) + 1) b = V := ⟨_, rfl⟩
      rw [hV]
      have HV := Lib.hid hV
      clear hV
      have hB7 := hB6.trans (hb7.mono hB6.size)
      have HH7 := Lib.hid (HH.out.below hb7 hs6)
      have hs7 : S3 < w7.heap.size := HH7.out.lt
      clear HH hb7 hs6 hB6 hw6
      have HH := HH7
      clear HH7
      go_wp2_with (refine wpList_load_row rfl 24 (.tmp 3) rfl S3 rfl 24 #[.int .i64 s0, .int .i64 s1, .int .i64 s2, .int .i64 s3, .int .i64 s4, .int .i64 s5, .int .i64 s6, .int .i64 s7, .int .i64 s8, .int .i64 s9, .int .i64 s10, .int .i64 s11] (0, 0) _ HH.out Tryd.underlying24 rfl HIh.out ?_)
      have hw7 : 6 ≤ w7.heap.size := Nat.le_trans h6 hB7.size
      refine (leastS_any s0 s1 s2 s3 s4 s5 s6 s7 s8 s9 s10 s11 HC ((k0 : Int) + 1) b hak hb HAB w7 hw7).mono ?_
      rintro e w8 ⟨lo, hi, rfl, HQ, hb8⟩
      rw [HV.out] at HQ
      obtain ⟨q1, q2, q3, q4⟩ := HQ.out
      have hB8 := hB7.trans (hb8.mono hB7.size)
      clear HH hb8 hs7 hB7 hw7 HQ HV
      go_wp2_with fail
      refine (known_any _ (Nat.le_trans h6 hB8.size) (hr.below hB8 (Nat.le_refl _))).mono ?_
      rintro e w9 ⟨rfl, hb9⟩
      go_wp2
      go_ret
      exact ⟨rfl, hB8.trans (hb9.mono hB8.size)⟩
end Go.Proofs.YtdnccdobnhbpeaaDoor

namespace Go.Proofs.YtdnccdobnhbpeaaDoor
open Go Go.RowKit
set_option linter.unusedVariables false

theorem partners_law (zs : List Int) (hz : zs.length = 14) (hzb : ∀ k, k < 14 → 0 ≤ nth zs k ∧ nth zs k < 256) (w : World) (h6 : 6 ≤ w.heap.size) (hr : Rul w) :
    Calls Tryd.prog 7 #[.agg (bys zs)] w fun e w' => e = .returned (.bool true) ∧ Below w.heap.size w w' := by
  have hne := sky_ne zs
  have hF := sky_fig zs
  rw [sky_list] at hF
  obtain ⟨k0, hk0⟩ : ∃ k0 : Nat, skyA zs = (k0 : Int) + 1 := ⟨(skyA zs - 1).toNat, by have := (sky_a zs).1; omega⟩
  have hk12 : k0 < 12 := by have := (sky_a zs).2; omega
  rw [hk0] at hne
  exact partners_walk (nth zs 0 % 16) (nth zs 1 % 16) (nth zs 2 % 16) (nth zs 3 % 16) (nth zs 4 % 16) (nth zs 5 % 16) (nth zs 6 % 16) (nth zs 7 % 16) (nth zs 8 % 16) (nth zs 9 % 16) (nth zs 10 % 16) (nth zs 11 % 16) (Lib.hid hF) k0 hk12 (skyB zs) (sky_b zs) (Lib.hid (by simpa using hne)) zs hz hzb (Lib.hid (by rw [sky_list]; rfl)) (Lib.hid hk0) (Lib.hid rfl) w h6 hr
end Go.Proofs.YtdnccdobnhbpeaaDoor

