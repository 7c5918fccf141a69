/-
  Package shield: charts of mothers, with the error; what the statements compare.
-/
import Derived.Test.YtojlopfjhhiilaaDoorShD
namespace Go.Proofs.YtojlopfjhhiilaaDoor
open Go Go.RowKit
set_option linter.unusedVariables false

theorem reads_at (W : World) (T : TypeId) (xs : List Int) (n : Nat) (h : W.heap.size = n) : Reads (W.alloc (.cells (arr xs) T)) (some ⟨n, 0, none⟩) xs := fun k hk =>
  ⟨n, 0, rfl, by subst h; rw [Nat.zero_add, (Blk.new W T (arr xs)).cell, arr_get hk]⟩
theorem Blk.reads {w : World} {g : Nat} {t : TypeId} {xs : List Int} (h : Blk w g t (arr xs)) : Reads w (some ⟨g, 0, none⟩) xs := fun k hk =>
  ⟨g, 0, rfl, by rw [Nat.zero_add, h.cell, arr_get hk]⟩
theorem chkF_zero {xs : List Int} (h : chkF xs = 0) : ∀ k, k < xs.length → Fig (nth xs k) := fun k hk => by
  unfold chkF at h
  split at h
  · simp at h
  · rename_i h1
    simp [anyB, outB] at h1
    have := h1 _ (nth_mem hk)
    exact ⟨by omega, by omega⟩
theorem chkF_of {xs : List Int} (h : ∀ k, k < xs.length → Fig (nth xs k)) : chkF xs = 0 := by
  unfold chkF
  rw [if_neg]
  intro h1
  simp [anyB, outB] at h1
  obtain ⟨x, hx, h2⟩ := h1
  obtain ⟨i, hi, rfl⟩ := List.getElem_of_mem hx
  have := h i hi
  rw [nth_eq hi] at this
  obtain ⟨a, b⟩ := this
  omega
theorem chkF_or (xs : List Int) : chkF xs = 0 ∨ chkF xs = 2 := by unfold chkF; split <;> simp

theorem results_cell_slot {P : Program} {fn : Func} {p q : Tmp} {ty : TypeId} (h : fn.results = #[.cell p ty, .tmp q]) (tmps : Array Value) (w : World) (g : Nat) (t : TypeId) (cs : Array Value) (fr : Nat × Nat) (d : TypeDesc)
    (hp : tmps.getD p undef = .pointer (some ⟨g, 0, none⟩)) (hg : w.heap[g]? = some (.cells cs t fr))
    (hu : P.underlying ty = some d) (hd : (match d with | .struct _ | .array _ _ => true | _ => false) = true) (hi : (P.info? ty).map (·.size) = some cs.size) (v : Value) (hv : tmps.getD q undef = v) :
    (results fn tmps).run P w = .ok (.tuple #[.agg cs, v]) w := by
  have hp' : tmps[p]?.getD undef = .pointer (some ⟨g, 0, none⟩) := by simpa using hp
  have hv' : tmps[q]?.getD undef = v := by simpa using hv
  simp [results, h, hp', hv', asAddr, run_loadVar_row w g t ty cs fr d hg hu hd hi]

/-- The chart of the document's second example. -/
def loneL : List Int := [15, 0, 0, 0, 1, 1, 1, 1, 15, 0, 0, 0, 15, 0, 15, 0]
theorem lone_is : dP [15, 0, 0, 0] 16 = loneL := by decide
/-- The chart of mothers, if they are. -/
def deriveV (m : List Int) : List Int := if chkF m = 0 then dP m 16 else List.replicate 16 0
theorem deriveV_length (m : List Int) (h : m.length = 4) : (deriveV m).length = 16 := by
  unfold deriveV
  split
  · exact dTo_length m h _
  · simp
set_option maxRecDepth 100000 in
set_option maxHeartbeats 1000000 in
theorem derive_any (m0 m1 m2 m3 : Int) (w : World) (hp : Par w) :
    Calls Tryd.prog 29 #[.agg #[.int .i64 m0, .int .i64 m1, .int .i64 m2, .int .i64 m3]] w fun e w' => e = .returned (.tuple #[.agg (arr (deriveV [m0, m1, m2, m3])), .int .i64 (chkF [m0, m1, m2, m3])]) ∧ Below w.heap.size w w' := by
  have hB0 : Below w.heap.size w ((w.alloc (.cells (arr [m0, m1, m2, m3]) 66)).alloc (.cells (arr (List.replicate 16 0)) 24)) := ((Below.refl _ _).alloc (Nat.le_refl _) _).alloc (by simp) _
  have hM : Blk ((w.alloc (.cells (arr [m0, m1, m2, m3]) 66)).alloc (.cells (arr (List.replicate 16 0)) 24)) w.heap.size 66 (arr [m0, m1, m2, m3]) := (Blk.new _ _ _).alloc _
  have hR : Blk ((w.alloc (.cells (arr [m0, m1, m2, m3]) 66)).alloc (.cells (arr (List.replicate 16 0)) 24)) (w.heap.size + 1) 24 (arr (List.replicate 16 0)) := newAt (by simp)
  have hL := Lib.hid (deriveV_length [m0, m1, m2, m3] rfl)
  have HI := Lib.hid (show (Tryd.prog.info? 24).map (·.size) = some (arr (deriveV [m0, m1, m2, m3])).size by rw [arr_size, hL.out]; exact info_shield)
  have HO := Lib.hid (show (arr (List.replicate 16 0)).size = (arr (deriveV [m0, m1, m2, m3])).size by rw [arr_size, arr_size, hL.out]; rfl)
  have HM := Lib.hid hM
  have HR := Lib.hid hR
  clear hM hR
  rcases chkF_or [m0, m1, m2, m3] with h | h
  · have hz := Lib.hid (chkF_zero h)
    have H := Lib.hid h
    have E := Lib.hid (show deriveV [m0, m1, m2, m3] = dP [m0, m1, m2, m3] 16 by unfold deriveV; rw [if_pos h])
    clear h
    go_enter Tryd.func29, Tryd.ntmps29
    go_wp2_with fail
    refine (checkF_any (some ⟨w.heap.size, 0, none⟩) [m0, m1, m2, m3] 4 _ (by simp) HM.out.reads).mono ?_
    rintro e w1 ⟨rfl, hb1⟩
    rw [H.out]
    have hb2 : Below w.heap.size w w1 := hB0.trans (hb1.mono (by simp; omega))
    have hM1 : Blk w1 w.heap.size 66 (arr [m0, m1, m2, m3]) := HM.out.below hb1 (by simp; omega)
    have HM1 := Lib.hid hM1
    have HR1 := Lib.hid (HR.out.below hb1 (by simp))
    clear hM1
    go_wp2_with (refine wpList_load_row rfl 66 (.tmp 1) rfl w.heap.size rfl 66 (arr [m0, m1, m2, m3]) (0, 0) _ HM1.out Tryd.underlying66 rfl (by kernel_rfl) ?_)
    refine (derived_any m0 m1 m2 m3 (fun k hk => hz.out k hk) _ (hp.below hb2 (Nat.le_refl _))).mono ?_
    rintro e w2 ⟨rfl, hb3⟩
    have HR2 := Lib.hid (HR1.out.below hb3 HR1.out.lt)
    have hb4 : Below w.heap.size w w2 := hb2.trans (hb3.mono hb2.size)
    rw [← E.out]
    clear hb1 hb2 hb3 hB0
    go_wp2_with (refine wpList_store_row rfl 24 (.tmp 2) (.tmp 12) rfl (w.heap.size + 1) (arr (deriveV [m0, m1, m2, m3])) rfl rfl 24 _ HR2.out HI.out HO.out (arr_one _) ?_)
    exact bodyPost_ret (v := .tuple #[.agg (arr (deriveV [m0, m1, m2, m3])), .int .i64 0]) (results_cell_slot Tryd.results29 _ _ (w.heap.size + 1) 24 _ (0, 0) _ rfl (HR2.out.row _) Tryd.underlying24 rfl HI.out _ rfl) rfl ⟨by rw [H.out], below_setRow hb4 (by omega) _⟩
  · have H := Lib.hid h
    have E := Lib.hid (show deriveV [m0, m1, m2, m3] = List.replicate 16 0 by unfold deriveV; rw [if_neg (by omega)])
    clear h
    go_enter Tryd.func29, Tryd.ntmps29
    go_wp2_with fail
    refine (checkF_any (some ⟨w.heap.size, 0, none⟩) [m0, m1, m2, m3] 4 _ (by simp) HM.out.reads).mono ?_
    rintro e w1 ⟨rfl, hb1⟩
    rw [H.out]
    have hb2 : Below w.heap.size w w1 := hB0.trans (hb1.mono (by simp; omega))
    have HR1 := Lib.hid (HR.out.below hb1 (by simp))
    clear hB0 hb1
    go_wp2_with (refine wpList_store_row rfl 24 (.tmp 2) (.tmp 9) rfl (w.heap.size + 1) (arr (List.replicate 16 0)) rfl rfl 24 _ HR1.out info_shield rfl (arr_one _) ?_)
    exact bodyPost_ret (v := .tuple #[.agg (arr (List.replicate 16 0)), .int .i64 2]) (results_cell_slot Tryd.results29 _ _ (w.heap.size + 1) 24 (arr (List.replicate 16 0)) (0, 0) _ rfl (HR1.out.row _) Tryd.underlying24 rfl info_shield _ rfl) rfl ⟨by rw [H.out, E.out], below_setRow hb2 (by omega) _⟩
end Go.Proofs.YtojlopfjhhiilaaDoor
