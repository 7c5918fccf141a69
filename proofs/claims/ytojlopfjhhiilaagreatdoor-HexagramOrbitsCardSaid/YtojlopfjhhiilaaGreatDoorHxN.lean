/-
  Package hexagram: Patterns.
-/
import Derived.Test.YtojlopfjhhiilaaGreatDoorHxM
import Derived.Maps.AppendAt
namespace Go.Proofs.YtojlopfjhhiilaaGreatDoor
open Go Go.RowKit Go.Shelf
set_option linter.unusedVariables false

theorem patterns_stops (F : Fence) (n : Nat) (h93 : F.fn 49) (hro : F.round = none) (hn : 1 ≤ n) (n₀ : Nat) (w : World) :
    SeqStopsK F n Tryz.prog 49 #[] (fun x : Nat => #[Value.string (patS x)]) (Below n₀) (fun ys => ys = upto id 729) (fun pre => ∃ k, k ≤ 729 ∧ pre = upto id k) 729 w := fun l J Jx W hW hJ _ hY h0 =>
  patterns1_in F n h93 hro hn l n₀ J Jx hY W hJ h0

/-- A pattern that lies in a set, and can not be greater. -/
def greatB (set : Int) (k : Nat) : Bool := withinB (matchTo (patS k) 6) set && !growsB (patS k) (matchTo (patS k) 6) set
def greatL (set : Int) (ks : List Nat) : List ByteArray := (ks.filter (greatB set)).map patS
theorem greatL_yes {set : Int} {ks : List Nat} {k : Nat} (h : greatB set k = true) : greatL set (ks ++ [k]) = greatL set ks ++ [patS k] := by simp [greatL, List.filter_append, h]
theorem greatL_no {set : Int} {ks : List Nat} {k : Nat} (h : greatB set k = false) : greatL set (ks ++ [k]) = greatL set ks := by simp [greatL, List.filter_append, h]
theorem greatL_len (set : Int) (ks : List Nat) : (greatL set ks).length ≤ ks.length := by
  unfold greatL
  rw [List.length_map]
  exact List.length_filter_le _ _
theorem info_str : (Tryz.prog.info? 9).map (fun i => (i.zero, i.size, i.bytes)) = some (some (.string ⟨#[]⟩), 1, 16) := by kernel_rfl

attribute [local go_sem] Oper.semAt_some

set_option maxRecDepth 100000 in
set_option maxHeartbeats 4000000 in
theorem patterns_in (set : Int) (w : World) (hf : Fst w) :
    CallsIn Fence.wide 4 Tryz.prog 27 #[.int .u64 set] w fun e W' => ∃ v, e = .returned v ∧ W'.ownsRow w.heap.size 9 1 v (greatL set (upto id 729)).length ((greatL set (upto id 729)).map Value.string) ∧ Below w.heap.size w W' := by
  obtain ⟨i0, hi, hz0, hz1, hz2⟩ := info_parts info_str
  obtain ⟨G, hG⟩ : ∃ G, greatL set (upto id 729) = G := ⟨_, rfl⟩
  rw [hG]
  have HG := Lib.hid hG
  clear hG
  refine callsIn_of_wp_marks Tryz.func27 rfl trivial ?_ rfl
  simp only [Tryz.ntmps27, List.size_toArray, List.length_cons, List.length_nil, Nat.reduceAdd, Nat.reduceSub, Array.replicate_succ, Array.replicate_zero, List.push_toArray, List.append_toArray, List.nil_append, List.cons_append]
  gi_wp2
  have bS := Boxed.new w 60 (.int .u64 set)
  have bG := Boxed.new (w.alloc (.cells #[.int .u64 set] 60)) 63 (.slice none 0 0)
  rw [World.size_alloc] at bG
  have hB0 : Below w.heap.size w ((w.alloc (.cells #[.int .u64 set] 60)).alloc (.cells #[.slice none 0 0] 63)) := ((Below.refl _ w).alloc (Nat.le_refl _) _).alloc (by simp) _
  refine wpIn_rangeFunc_ownG (F := Fence.wide) rfl (by omega) (gf := 49) (lb := #[]) rfl trivial (enters_of Tryz.func49 (by kernel_rfl) rfl)
    (patterns_stops Fence.wide (4 - 1) trivial rfl (by omega) w.heap.size _) belowK_t (belowK_b (by simp; omega)) (Below.refl _ _) (fun _ => rfl)
    (fun pre W => ((∃ v, Boxed W (w.heap.size + 1) 63 v ∧ W.ownsRow w.heap.size 9 1 v (greatL set pre).length ((greatL set pre).map Value.string) ∧ True) ∧ Boxed W w.heap.size 60 (.int .u64 set)) ∧ Below w.heap.size w W)
    (fun _ _ _ => False)
    (OwnFrom.and (Own.from (fun s A B row hs hg hr => ⟨holdsRow_own w.heap.size (w.heap.size + 1) 63 9 1 (fun pre => (greatL set pre).length) (fun pre => (greatL set pre).map Value.string) (fun _ _ => True) s A B row hs.1 hg hr, boxed_own w.heap.size 60 (fun _ : List Nat => Value.int .u64 set) s A B row hs.2 hg hr⟩) _) (ownFrom_below (Nat.le_refl _) (by simp; omega)))
    (fun _ _ _ _ _ hs _ _ => hs)
    ⟨⟨⟨_, bG, World.ownsRow_nil _ _ _ _, trivial⟩, bS.alloc _⟩, hB0⟩
    (fun x => { tmps := #[.int .u64 set, .pointer (some ⟨w.heap.size, 0, none⟩), .slice none 0 0, .pointer (some ⟨w.heap.size + 1, 0, none⟩), .string (patS x), undef, .string (patS x), undef, undef, undef, undef, undef, undef, undef, undef, undef, undef, undef, undef, undef, undef, undef, undef, undef], defers := [] }) ?assign ?body ?done ?stop
  case assign =>
    intro l x W K hK
    gi_wp2
    exact hK
  case body =>
    rintro l pre x W ⟨⟨⟨v, hv, hrow, -⟩, hS⟩, hB⟩ hlen
    have hC1 := matching_any (patS x) (patS_size x) W (hf.below hB (Nat.le_refl _))
    have hC3 := fun M => grows_any (patS x) M set (patS_size x) W (hf.below hB (Nat.le_refl _))
    obtain ⟨M, hM⟩ : ∃ M, matchTo (patS x) 6 = M := ⟨_, rfl⟩
    rw [hM] at hC1
    have hC3 := hC3 M
    have HGB := Lib.hid (show greatB set x = (withinB M set && !growsB (patS x) M set) by unfold greatB; rw [hM])
    have HC1 := Lib.hid hC1
    have HC3 := Lib.hid hC3
    have HV := Lib.hid hv
    have HR := Lib.hid hrow
    have HS := Lib.hid hS
    have hsc := hS.cell
    have hgl := greatL_len set pre
    clear hM hC1 hC3 hv hrow hS
    cases h1 : withinB M set
    · have H1 := Lib.hid h1
      have HN := Lib.hid (greatL_no (ks := pre) (HGB.out.trans (by rw [h1]; rfl)))
      clear h1
      gi_wp2_with fail
      refine ⟨trivial, ?_⟩
      refine (CallsIn.inRound l (callsIn_wide.2 HC1.out)).mono ?_
      rintro e w' ⟨rfl, rfl⟩
      gi_wp2_with fail
      refine ⟨trivial, ?_⟩
      refine (CallsIn.inRound l (callsIn_wide.2 (within_any M set _))).mono ?_
      rintro e w' ⟨rfl, rfl⟩
      rw [H1.out]
      gi_wp2_with fail
      refine ⟨trivial, ?_⟩
      gi_wp2
      exact ⟨KeepsFrom.refl _ _, Below.refl _ _, ⟨⟨v, HV.out, by rw [HN.out]; exact HR.out, trivial⟩, HS.out⟩, hB⟩
    · have H1 := Lib.hid h1
      cases h2 : growsB (patS x) M set
      · have H2 := Lib.hid h2
        have HN := Lib.hid (greatL_yes (ks := pre) (HGB.out.trans (by rw [h1, h2]; rfl)))
        clear h1 h2
        gi_wp2_with fail
        refine ⟨trivial, ?_⟩
        refine (CallsIn.inRound l (callsIn_wide.2 HC1.out)).mono ?_
        rintro e w' ⟨rfl, rfl⟩
        gi_wp2_with fail
        refine ⟨trivial, ?_⟩
        refine (CallsIn.inRound l (callsIn_wide.2 (within_any M set _))).mono ?_
        rintro e w' ⟨rfl, rfl⟩
        rw [H1.out]
        gi_wp2_with fail
        refine ⟨trivial, ?_⟩
        refine (CallsIn.inRound l (callsIn_wide.2 HC3.out)).mono ?_
        rintro e w' ⟨rfl, r, rfl⟩
        rw [H2.out]
        have hk0 : KeepsOthers W (W.drewN r) := ⟨Nat.le_refl _, fun _ _ h _ => h⟩
        have hb0 : Below w.heap.size W (W.drewN r) := below_drewN (Below.refl _ _) r
        have hv2 : Boxed (W.drewN r) (w.heap.size + 1) 63 v := HV.out
        have hr2 : (W.drewN r).ownsRow w.heap.size 9 1 v (greatL set pre).length ((greatL set pre).map Value.string) := HR.out
        have hS2 : Boxed (W.drewN r) w.heap.size 60 (.int .u64 set) := HS.out
        have hB2 : Below w.heap.size w (W.drewN r) := below_drewN hB r
        generalize W.drewN r = W2 at hk0 hb0 hv2 hr2 hS2 hB2 ⊢
        have hcv := hv2.cell
        have hcf := hv2.frozen
        have hsz := hB2.size
        have hK : Hid (some w.heap.size ≠ v.ownBlock) := hS2.not_row (by decide) hr2
        clear hsc
        gi_wp2_with (gi_at_builtin; refine wpListIn_append_own _ rfl _ _ 63 rfl w.heap.size 9 i0 (.string ⟨#[]⟩) 1 16 Tryz.underlying63 hi hz0 hz1 hz2 rfl (by decide) _ _ _ rfl (hr2.alloc _) ⟨W2.heap.size, 0, none⟩ 1 1 [.string (patS x)] rfl rfl (cell_one_new _ _ _) (by simp [Value.oneCell']) (by unfold maxLen; omega) (by omega) (by simp; omega) ?_; intro v' w1 hown' hgrow _; obtain ⟨g', cap', rfl⟩ := ownsRow_succ hown'; obtain ⟨hv1, hv3, hr3, hk3, hb3⟩ := hv2.appended (by decide) hr2 hsz (by omega) hown' hgrow; have hc1 := hv1.cell; have hf1 := hv1.frozen)
        have hS3 := ((hS2.alloc _).kept hgrow hK.out).other (B' := w.heap.size + 1) (by omega) (.slice (some ⟨g', 0, none⟩) ((greatL set pre).length + 1) cap')
        exact ⟨(hk0.trans hk3).from _, hb0.trans hb3, ⟨⟨_, hv3, by rw [HN.out]; simpa using hr3, trivial⟩, hS3⟩, hB2.trans hb3⟩
      · have H2 := Lib.hid h2
        have HN := Lib.hid (greatL_no (ks := pre) (HGB.out.trans (by rw [h1, h2]; rfl)))
        clear h1 h2
        gi_wp2_with fail
        refine ⟨trivial, ?_⟩
        refine (CallsIn.inRound l (callsIn_wide.2 HC1.out)).mono ?_
        rintro e w' ⟨rfl, rfl⟩
        gi_wp2_with fail
        refine ⟨trivial, ?_⟩
        refine (CallsIn.inRound l (callsIn_wide.2 (within_any M set _))).mono ?_
        rintro e w' ⟨rfl, rfl⟩
        rw [H1.out]
        gi_wp2_with fail
        refine ⟨trivial, ?_⟩
        refine (CallsIn.inRound l (callsIn_wide.2 HC3.out)).mono ?_
        rintro e w' ⟨rfl, r, rfl⟩
        rw [H2.out]
        gi_wp2
        exact ⟨(show KeepsOthers W (W.drewN r) from ⟨Nat.le_refl _, fun _ _ h _ => h⟩).from _, below_drewN (Below.refl _ _) r, ⟨⟨v, HV.out, by rw [HN.out]; exact HR.out, trivial⟩, HS.out⟩, below_drewN hB r⟩
  case done =>
    rintro D ys W hD rfl ⟨⟨⟨v, hv, hrow, -⟩, hS⟩, hB⟩ hK
    rw [HG.out] at hrow
    have hcv := hv.cell
    gi_wp2
    refine ⟨by simp, .inl ⟨_, _, rfl, run_takeDeferred hK, ?_⟩⟩
    exact ⟨_, results_tmp rfl _ _ _, v, rfl, ownsRow_putObj hrow _ hK rfl, hB.trans (belowK_b (w := w) (Nat.le_refl _) W D _ _ (by simp at hD; omega) hK rfl rfl)⟩
  case stop =>
    rintro D c pre W _ _ h _
    exact h.elim
end Go.Proofs.YtojlopfjhhiilaaGreatDoor
