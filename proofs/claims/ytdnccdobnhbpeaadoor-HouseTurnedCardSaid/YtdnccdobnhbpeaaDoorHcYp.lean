/-
  Twelve figures and two houses that came in, opened; what the law takes from them.
-/
import Derived.Test.YtdnccdobnhbpeaaDoorHcV
import Derived.Test.YtdnccdobnhbpeaaDoorHoOa
namespace Go.Proofs.YtdnccdobnhbpeaaDoor
open Go Go.ChangeShapes Go.WideShapes Go.ChangeAt Go.RowKit
set_option linter.unusedVariables false

theorem cell_int {P : Program} {w : World} {r : Reach} {base : Nat} {t : TypeId} {v : Value} {k : IntKind} (ht : P.underlying t = some (.int k)) (h : Cell.okWide P w r base t v) : ∃ n, v = .int k n ∧ k.min ≤ n ∧ n ≤ k.max := by
  unfold Cell.okWide at h
  rw [ht] at h
  unfold Cell.ok at h
  rw [ht] at h
  cases v <;> simp at h
  obtain ⟨rfl, h⟩ := h
  exact ⟨_, rfl, by simpa [IntKind.has] using h⟩
set_option maxRecDepth 100000 in
theorem came_sky {W : World} {v : Value} {j : Nat} (hv : Value.okWide Tryd.prog W .any j 61 v) :
    ∃ zs : List Int, v = .agg (bys zs) ∧ zs.length = 14 ∧ ∀ k, k < 14 → 0 ≤ nth zs k ∧ nth zs k < 256 := by
  simp only [Value.okWide, Tryd.underlying61] at hv
  obtain ⟨cs, rfl, hsz, ts, hts, _, hc⟩ := hv
  have hts2 : Tryd.prog.cellTypes Tryd.prog.depth 61 = some (List.replicate 14 5) := by kernel_rfl
  rw [hts2] at hts
  cases hts
  have h4 : Tryd.prog.cellsOf 61 = 14 := by kernel_rfl
  rw [h4] at hsz
  obtain ⟨l⟩ := cs
  have hl : l.length = 14 := by simpa using hsz
  have key : ∀ i, i < 14 → ∃ z : Int, l[i]? = some (.int .u8 z) ∧ 0 ≤ z ∧ z < 256 := fun i hi => by
    have hg : l[i]? = some l[i] := List.getElem?_eq_getElem (by omega)
    obtain ⟨u, e, h⟩ := hc i l[i] (by simp)
    obtain rfl : u = 5 := by
      have e' : (List.replicate 14 5)[i % (List.replicate 14 5).length]? = some u := e
      rw [List.length_replicate, Nat.mod_eq_of_lt hi, List.getElem?_replicate, if_pos hi] at e'
      exact (Option.some.inj e').symm
    obtain ⟨z, hz, h0, h1⟩ := cell_int Tryd.underlying5 h
    simp [IntKind.min, IntKind.max, IntKind.signed, IntKind.bits] at h0 h1
    exact ⟨z, by rw [hg, hz], h0, by omega⟩
  have hn : ∀ k, k < 14 → ∃ z : Int, l[k]? = some (.int .u8 z) ∧ nth (l.map (fun v => match v with | .int _ z => z | _ => 0)) k = z ∧ 0 ≤ z ∧ z < 256 := fun k hk => by
    obtain ⟨z, hz, h0, h1⟩ := key k hk
    refine ⟨z, hz, ?_, h0, h1⟩
    unfold nth
    rw [List.getD_eq_getElem?_getD, List.getElem?_map, hz]
    rfl
  refine ⟨l.map (fun v => match v with | .int _ z => z | _ => 0), ?_, by simpa using hl, fun k hk => ?_⟩
  · congr 1
    apply Array.ext'
    simp only [bys, List.map_map]
    apply List.ext_getElem
    · simp
    · intro i h1 h2
      obtain ⟨z, hz, _, _⟩ := key i (by simpa [hl] using h1)
      have hz' : l[i] = .int .u8 z := by
        have := List.getElem?_eq_getElem (l := l) (i := i) h1
        rw [hz] at this
        exact (Option.some.inj this).symm
      simp [hz']
  · obtain ⟨z, _, e, h0, h1⟩ := hn k hk
    rw [e]
    exact ⟨h0, h1⟩
theorem sky_list (zs : List Int) : skyTo zs 12 = [nth zs 0 % 16, nth zs 1 % 16, nth zs 2 % 16, nth zs 3 % 16, nth zs 4 % 16, nth zs 5 % 16, nth zs 6 % 16, nth zs 7 % 16, nth zs 8 % 16, nth zs 9 % 16, nth zs 10 % 16, nth zs 11 % 16] := rfl
theorem sky_fig (zs : List Int) : chkF (skyTo zs 12) = 0 := chkF_of fun k hk => by
  have hk12 : k < 12 := by rw [skyTo_len] at hk; exact hk
  have e : nth (skyTo zs 12) k = nth zs k % 16 := by
    unfold nth
    rw [List.getD_eq_getElem?_getD, List.getElem?_eq_getElem hk]
    simp [skyTo, hk12, nth]
  rw [e]
  exact ⟨by omega, by omega⟩
theorem sky_a (zs : List Int) : Hou (skyA zs) := by unfold Hou skyA; omega
theorem sky_b (zs : List Int) : Hou (skyB zs) := by unfold Hou skyB; omega
theorem sky_ne (zs : List Int) : skyA zs ≠ skyB zs := by unfold skyA skyB; omega
end Go.Proofs.YtdnccdobnhbpeaaDoor
