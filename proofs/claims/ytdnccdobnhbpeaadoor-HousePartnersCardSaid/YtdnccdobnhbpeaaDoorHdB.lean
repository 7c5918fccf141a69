/-
  The circle of houses: all houses that have one mark of one figure changed, as an iterator.
  The circle of houses: the best and the worst verdict that a copy may have.
-/
import Derived.Test.YtdnccdobnhbpeaaDoorHcM
import Derived.Test.YtdnccdobnhbpeaaDoorHoB
import Derived.RangeFuncNested
import Derived.RangeFuncBound
import Derived.RangeFuncCalls
import Derived.RangeFuncLeaves
import Derived.RangeFuncBox
import Derived.Shelf.Abstract
import Derived.Shelf.RegionOpen
import Derived.OwnWalkIn
import Derived.TacticsInMore
import Derived.LoopNIn
import Derived.LoopIn
import Derived.Test.YtdnccdobnhbpeaaDoorHcO
namespace Go.Proofs.YtdnccdobnhbpeaaDoor
open Go Go.RowKit Go.Shelf
set_option linter.unusedVariables false
set_option linter.unusedSimpArgs false

section
variable {F : Fence} {nF : Nat} {P : Program} {ops : Array Oper} {rest : List Oper} {o : Oper} {a : Act} {w : World} {Q : Exit → Act → World → Prop}
theorem wpListIn_store_row (hgd : o.guard = none) (ty : TypeId) (x y : Operand) (ho : o.op = .store ty x y)
    (g : Nat) (cells : Array Value) (hx : a.eval x = .pointer (some ⟨g, 0, none⟩)) (hy : a.eval y = .agg cells)
    (t : TypeId) (old : Array Value) (hg : w.heap[g]? = some (.cells old t (0, 0))) (hi : (P.info? ty).map (·.size) = some cells.size)
    (hold : old.size = cells.size) (h1 : cells.all (·.oneCell') = true)
    (h : wpListIn F nF P ops Q rest (a.put o.dst undef) (w.setRow g cells)) : wpListIn F nF P ops Q (o :: rest) a w := by
  refine wpListIn_plain hgd fun K' hK' => ?_
  unfold Oper.wpIn
  refine ⟨by simp [Oper.about, ho], ?_⟩
  rw [Oper.semAt_plain F _ _ (by rw [ho]; intro c hc'; cases hc')]
  unfold execOp
  simp only [ho, hx, hy, Instr.storeAt, Instr.sureAddr, Sem.run_bind, Sem.run_pure, Result.andThen_ok, run_storeVar_row w g t ty old cells hg hi hold h1]
  exact hK' _ _ h
end
/-- The houses with one mark of one figure changed. -/
def chgL (s : List Int) (x : Nat) : List Int := s.set (x / 4) (xorF (nth s (x / 4)) (2 ^ (x % 4)))
theorem chgL_len (s : List Int) (x : Nat) : (chgL s x).length = s.length := by simp [chgL]
theorem nth_over {s : List Int} {k : Nat} (h : ¬ k < s.length) : nth s k = 0 := by simp [nth, h]
theorem chgL_figs {s : List Int} (hf : ∀ j, j < 12 → Fig (nth s j)) (x : Nat) : ∀ j, j < 12 → Fig (nth (chgL s x) j) := by
  intro j hj
  by_cases hl : j < s.length
  · unfold chgL
    have hl2 : j < (s.set (x / 4) (xorF (nth s (x / 4)) (2 ^ (x % 4)))).length := by rw [List.length_set]; exact hl
    rw [nth_eq hl2, List.getElem_set]
    split
    · have h4 : x % 4 = 0 ∨ x % 4 = 1 ∨ x % 4 = 2 ∨ x % 4 = 3 := by omega
      refine xorF_fig (hf _ (by omega)) ?_
      rcases h4 with h | h | h | h <;> rw [h] <;> exact ⟨by decide, by decide⟩
    · rw [← nth_eq hl]; exact hf j hj
  · rw [nth_over (by rw [chgL_len]; exact hl)]
    exact ⟨by decide, by decide⟩
theorem chgL_at {s : List Int} {k m : Nat} (hm : m < 4) : chgL s (4 * k + m) = s.set k (xorF (nth s k) (2 ^ m)) := by
  unfold chgL
  rw [show (4 * k + m) / 4 = k by omega, show (4 * k + m) % 4 = m by omega]
def encS (s : List Int) (x : Nat) : Array Value := #[.agg (arr (chgL s x))]
/-- What the body of a range over them keeps: the houses themselves. -/
def KpH (Bs : Nat) (W W' : World) : Prop := W.heap.size ≤ W'.heap.size ∧ W'.heap[Bs]? = W.heap[Bs]?
theorem KpH.trans {Bs : Nat} {A B C : World} (h : KpH Bs A B) (k : KpH Bs B C) : KpH Bs A C := ⟨Nat.le_trans h.1 k.1, k.2.trans h.2⟩
theorem KpH.put {Bs : Nat} {w : World} (h1 : Bs < w.heap.size) (W : World) (l : Nat) (o o' : Obj) (hl : w.heap.size ≤ l) (h : W.heap[l]? = some o) (_ : o.isCells = false) (_ : o.isWalk = false) : KpH Bs W (W.putObj l o') := by
  refine ⟨?_, World.putObj_heap_other (by omega)⟩
  exact (grownBy_putObj' W l o').size
theorem KpH.below {Bs : Nat} {W V : World} (h : Below W.heap.size W V) (h1 : Bs < W.heap.size) : KpH Bs W V := ⟨h.size, h.block _ h1⟩
set_option maxRecDepth 100000 in
set_option maxHeartbeats 4000000 in
theorem changes1_in (F : Fence) (n : Nat) (h93 : F.fn 70) (hro : F.round = none) (hn : 1 ≤ n) (l Bs : Nat) (s : List Int) (hs : Hid (s.length = 12)) (J Jx : List Nat → World → Prop)
    (hY : ∀ pre x W, J pre W → pre.length < 48 → YieldAt F (n - 1) Tryd.prog l (encS s x) W fun e W' =>
      (e = .returned (.bool true) ∧ J (pre ++ [x]) W' ∧ KpH Bs W W') ∨ (e = .returned (.bool false) ∧ Jx (pre ++ [x]) W'))
    (W : World) (hJ : AbidesFrom W.heap.size J) (h0 : J [] W) (hbs : Hid (Blk W Bs 24 (arr s))) :
    CallsIn F n Tryd.prog 70 #[.func (.yield l) #[] #[], .pointer (some ⟨Bs, 0, none⟩)] W fun e W' => (∃ v, e = .returned v) ∧
      ((∃ ys, ys = upto id 48 ∧ J ys W') ∨ (∃ pre, True ∧ Jx pre W')) := by
  have HIs := Lib.hid (show (Tryd.prog.info? 24).map (·.size) = some (arr s).size by rw [arr_size, hs.out]; exact info_houses)
  have HYs := Lib.hid hY
  clear hY
  refine callsIn_of_wp Tryd.func70 rfl h93 ?_ hro
  simp only [Tryd.ntmps70, List.size_toArray, List.length_cons, List.length_nil, Nat.reduceAdd, Nat.reduceSub, Array.replicate_succ, Array.replicate_zero, List.push_toArray, List.append_toArray, List.nil_append, List.cons_append]
  gi_wp2
  gi_loopw [6] (fun i wx => ∃ k : Nat, k ≤ 12 ∧ i = .int .i64 (k : Int) ∧ J (upto id (4 * k)) wx ∧ KpH Bs W wx) (fun i _ => 12 - (intOf i).toNat)
  case atStart => exact ⟨0, by omega, rfl, h0, Nat.le_refl _, rfl⟩
  case round =>
    obtain ⟨k, hk, rfl, hJk, hb0⟩ := hrel
    by_cases hlt : k < 12
    · have hki : (k : Int) < 12 := by omega
      clear hk h0
      gi_wp2
      gi_loopw [9] (fun i wy => ∃ m : Nat, m ≤ 4 ∧ i = .int .i64 (m : Int) ∧ J (upto id (4 * k + m)) wy ∧ KpH Bs W wy) (fun i _ => 4 - (intOf i).toNat)
      case atStart => exact ⟨0, by omega, rfl, hJk, hb0⟩
      case round =>
        obtain ⟨m, hm, rfl, hJm, hbm⟩ := hrel
        clear hJk hb0
        by_cases hmt : m < 4
        · have hm4i : (m : Int) < 4 := by omega
          have HN := Lib.hid (newAt (W := wr) (o := .cells #[.int .i64 0, .int .i64 0, .int .i64 0, .int .i64 0, .int .i64 0, .int .i64 0, .int .i64 0, .int .i64 0, .int .i64 0, .int .i64 0, .int .i64 0, .int .i64 0] 24) rfl)
          have HB := Lib.hid (show Blk wr Bs 24 (arr s) from hbm.2.trans hbs.out)
          have HBa := Lib.hid (show Blk (wr.alloc (.cells #[.int .i64 0, .int .i64 0, .int .i64 0, .int .i64 0, .int .i64 0, .int .i64 0, .int .i64 0, .int .i64 0, .int .i64 0, .int .i64 0, .int .i64 0, .int .i64 0] 24)) Bs 24 (arr s) from HB.out.alloc _)
          gi_wp2_with (first
            | (refine wpListIn_load_row rfl 24 (.tmp 1) rfl Bs rfl 24 (arr s) (0, 0) _ HB.out Tryd.underlying24 rfl HIs.out ?_)
            | (refine wpListIn_store_row rfl 24 (.tmp 5) (.tmp 12) rfl wr.heap.size (arr s) rfl rfl 24 _ HN.out HIs.out (by rw [arr_size, hs.out]; rfl) (arr_one _) ?_)
            | fail)
          obtain ⟨W5, hW5⟩ : ∃ W5, (wr.alloc (.cells #[.int .i64 0, .int .i64 0, .int .i64 0, .int .i64 0, .int .i64 0, .int .i64 0, .int .i64 0, .int .i64 0, .int .i64 0, .int .i64 0, .int .i64 0, .int .i64 0] 24)).setRow wr.heap.size (arr s) = W5 := ⟨_, rfl⟩
          have hb5 : Below wr.heap.size wr W5 := by rw [← hW5]; exact below_setRow (below1 wr _) (Nat.le_refl _) _
          have HG5 : Hid (Blk W5 wr.heap.size 24 (arr s)) := by rw [← hW5]; exact Lib.hid (Blk.row HN.out (arr s))
          rw [hW5]
          obtain ⟨G, hG⟩ : ∃ G, wr.heap.size = G := ⟨_, rfl⟩
          rw [hG] at HG5
          rw [hG]
          clear hW5 HN HBa
          obtain ⟨v, hv⟩ : ∃ v, nth s k = v := ⟨_, rfl⟩
          obtain ⟨P, hP⟩ : ∃ P : Int, (2 : Int) ^ m = P := ⟨_, rfl⟩
          obtain ⟨X, hX⟩ : ∃ X, xorF v P = X := ⟨_, rfl⟩
          have HC := Lib.hid (show arr (chgL s (4 * k + m)) = arr (s.set k X) by rw [chgL_at hmt, hv, hP, hX])
          have hcv : W5.cell? ⟨G, k, none⟩ = some (.int .i64 v) := (HG5.out.cell k).trans (by rw [← hv]; exact arr_get (by rw [hs.out]; exact hlt))
          have hcf : W5.frozen? ⟨G, k, none⟩ = false := HG5.out.frozen k
          have hGlt : G < W5.heap.size := HG5.out.lt
          gi_wp2
          refine wpIn_region_last follows_mixedB [some 13, some 14, some 15, some 16, some 17, some 18, some 19, none] (by kernel_rfl) [(.int .i64 (k : Int)), (.pointer (some ⟨G, k, none⟩)), (.int .i64 v), (.int .i64 (m : Int)), (.int .i64 P), (.int .i64 X), (.pointer (some ⟨G, k, none⟩))] rfl (by kernel_rfl) (fun x V' => x = undef ∧ ∃ V0 : World, Below W5.heap.size W5 V0 ∧ V' = V0.setCell ⟨G, k, none⟩ (.int .i64 X)) ?step ?last ?fin
          case step =>
            intro i hi a1 V FD
            have hi : i < 7 := hi
            have e : i = 0 ∨ i = 1 ∨ i = 2 ∨ i = 3 ∨ i = 4 ∨ i = 5 ∨ i = 6 := by omega
            clear hi
            rcases e with rfl | rfl | rfl | rfl | rfl | rfl | rfl
            · have e3 : a1.tmps[3]?.getD undef = (.int .i64 (k : Int)) := (FD.kept 3 (by kernel_rfl)).trans rfl
              refine wpOpIn_step rfl (fun K hK => ?_)
              refine Eq.mpr (if_pos (by rfl)) ?_
              go_simp
              exact hK _ _ ⟨rfl, Below.refl _ _⟩
            · have e5 : a1.tmps[5]?.getD undef = (.pointer (some ⟨G, 0, none⟩)) := (FD.kept 5 (by kernel_rfl)).trans rfl
              have e13 : a1.tmps[13]?.getD undef = (.int .i64 (k : Int)) := FD.dep 0 13 (by kernel_rfl) rfl
              refine wpOpIn_step rfl (fun K hK => ?_)
              refine Eq.mpr (if_pos (by rfl)) ?_
              have hk12 : (k : Int) < 12 := by omega
              go_simp
              exact hK _ _ ⟨rfl, Below.refl _ _⟩
            · have e14 : a1.tmps[14]?.getD undef = (.pointer (some ⟨G, k, none⟩)) := FD.dep 1 14 (by kernel_rfl) rfl
              refine wpOpIn_step rfl (fun K hK => ?_)
              refine Eq.mpr (if_pos (by rfl)) ?_
              have hcc : V.cell? ⟨G, k, none⟩ = some (.int .i64 v) := cell_tr FD.below hcv
              go_simp
              exact hK _ _ ⟨rfl, Below.refl _ _⟩
            · have e4 : a1.tmps[4]?.getD undef = (.int .i64 (m : Int)) := (FD.kept 4 (by kernel_rfl)).trans rfl
              refine wpOpIn_step rfl (fun K hK => ?_)
              refine Eq.mpr (if_pos (by rfl)) ?_
              go_simp
              exact hK _ _ ⟨rfl, Below.refl _ _⟩
            · have e16 : a1.tmps[16]?.getD undef = (.int .i64 (m : Int)) := FD.dep 3 16 (by kernel_rfl) rfl
              refine wpOpIn_step rfl (fun K hK => ?_)
              refine Eq.mpr (if_pos (by rfl)) ?_
              have hm4 : m = 0 ∨ m = 1 ∨ m = 2 ∨ m = 3 := by omega
              clear hm4i
              rcases hm4 with rfl | rfl | rfl | rfl <;> (subst hP; go_simp; exact hK _ _ ⟨rfl, Below.refl _ _⟩)
            · have e15 : a1.tmps[15]?.getD undef = (.int .i64 v) := FD.dep 2 15 (by kernel_rfl) rfl
              have e17 : a1.tmps[17]?.getD undef = (.int .i64 P) := FD.dep 4 17 (by kernel_rfl) rfl
              refine wpOpIn_step rfl (fun K hK => ?_)
              refine Eq.mpr (if_pos (by rfl)) ?_
              have hX2 : bits BinOp.xor IntKind.i64 v P = X := hX
              go_simp
              exact hK _ _ ⟨rfl, Below.refl _ _⟩
            · have e5 : a1.tmps[5]?.getD undef = (.pointer (some ⟨G, 0, none⟩)) := (FD.kept 5 (by kernel_rfl)).trans rfl
              have e13 : a1.tmps[13]?.getD undef = (.int .i64 (k : Int)) := FD.dep 0 13 (by kernel_rfl) rfl
              refine wpOpIn_step rfl (fun K hK => ?_)
              refine Eq.mpr (if_pos (by rfl)) ?_
              have hk12 : (k : Int) < 12 := by omega
              go_simp
              exact hK _ _ ⟨rfl, Below.refl _ _⟩
          case last =>
            intro a1 V FD
            have e19 : a1.tmps[19]?.getD undef = (.pointer (some ⟨G, k, none⟩)) := FD.dep 6 19 (by kernel_rfl) rfl
            have e18 : a1.tmps[18]?.getD undef = (.int .i64 X) := FD.dep 5 18 (by kernel_rfl) rfl
            refine wpOpIn_step rfl (fun K hK => ?_)
            refine Eq.mpr (if_pos (by rfl)) ?_
            have hcc : V.cell? ⟨G, k, none⟩ = some (.int .i64 v) := cell_tr FD.below hcv
            have hfr : V.frozen? ⟨G, k, none⟩ = false := (FD.below.frozen (p := ⟨G, k, none⟩) hGlt).trans hcf
            have hbV := FD.below
            go_simp
            exact hK _ _ ⟨undef, rfl, rfl, V, hbV, rfl⟩
          case fin =>
            intro x V hL
            simp only [finV, List.cons_append, List.nil_append, List.set_cons_succ, List.set_cons_zero]
            obtain ⟨rfl, V0, hbV, rfl⟩ := hL
            have HGV := Lib.hid (show Blk (V0.setCell ⟨G, k, none⟩ (.int .i64 X)) G 24 (arr (s.set k X)) by rw [← arr_set]; exact Blk.set_ (HG5.out.below hbV hGlt) k _)
            have hbv2 : Below wr.heap.size wr (V0.setCell ⟨G, k, none⟩ (.int .i64 X)) := (hb5.trans (hbV.mono hb5.size)).setCell (p := ⟨G, k, none⟩) (by show wr.heap.size ≤ G; omega) _
            have hBs : Bs < wr.heap.size := HB.out.lt
            generalize V0.setCell ⟨G, k, none⟩ (.int .i64 X) = V at HGV hbv2 ⊢
            have HIz := Lib.hid (show (Tryd.prog.info? 24).map (·.size) = some (arr (s.set k X)).size by rw [arr_size, List.length_set, hs.out]; exact info_houses)
            have hkv : KpH Bs W V := hbm.trans (KpH.below hbv2 hBs)
            have hJ2 : J (upto id (4 * k + m)) V := hJ _ wr V none hJm (grown_of_below hbv2) (fun r e => by cases e)
            obtain ⟨fn, tmps, assign, body, hy, hR'⟩ := HYs.out (upto id (4 * k + m)) (4 * k + m) V hJ2 (by rw [upto_length]; omega)
            unfold encS at hy
            rw [HC.out] at hy
            have HU := Lib.hid (show upto id (4 * k + m) ++ [4 * k + m] = upto id (4 * k + (m + 1)) from (upto_succ id (4 * k + m)).symm)
            clear hbV hb5 HG5 HC hcv hcf hGlt hJm hbm hJ2 hv hP hX HB hBs hbv2
            gi_wp2_with (refine wpListIn_load_row rfl 24 (.tmp 5) rfl G rfl 24 (arr (s.set k X)) (0, 0) _ HGV.out Tryd.underlying24 rfl HIz.out ?_)
            refine hR'.mono ?_
            rintro e W3 (⟨rfl, hJ3, hk3⟩ | ⟨rfl, hJx3⟩)
            · clear hy hR'
              have hkv3 : KpH Bs W W3 := hkv.trans hk3
              gi_wp2
              go_roundw
              case rel => exact ⟨m + 1, by omega, by first | rfl | go_num, by rw [← HU.out]; exact hJ3, hkv3⟩
              case measure => simp [intOf]; omega
            · clear hy hR'
              gi_wp2
              refine bodyPost_ret (results_none rfl _ _ _) rfl ?_
              exact ⟨⟨_, rfl⟩, .inr ⟨_, trivial, hJx3⟩⟩
        · obtain rfl : m = 4 := by omega
          gi_wp2
          go_roundw
          case rel => exact ⟨k + 1, by omega, by first | rfl | go_num, hJm, hbm⟩
          case measure => simp [intOf]; omega
    · obtain rfl : k = 12 := by omega
      gi_wp2
      go_end0
      exact ⟨⟨_, rfl⟩, .inl ⟨_, rfl, hJk⟩⟩
theorem changes_stops (F : Fence) (n : Nat) (h93 : F.fn 70) (hro : F.round = none) (hn : 1 ≤ n) (Bs : Nat) (s : List Int) (hs : Hid (s.length = 12)) (w : World) (hbs : Hid (Blk w Bs 24 (arr s))) :
    SeqStopsK F n Tryd.prog 70 #[.pointer (some ⟨Bs, 0, none⟩)] (encS s) (KpH Bs) (fun ys => ys = upto id 48) (fun _ => True) 48 w := fun l J Jx W hW hJ _ hY h0 =>
  changes1_in F n h93 hro hn l Bs s hs J Jx hY W hJ h0 (Lib.hid (hbs.out.below hW hbs.out.lt))
end Go.Proofs.YtdnccdobnhbpeaaDoor

namespace Go.Proofs.YtdnccdobnhbpeaaDoor
open Go Go.RowKit Go.Shelf
set_option linter.unusedVariables false
set_option linter.unusedSimpArgs false

theorem list12 {s : List Int} (h : s.length = 12) : ∃ s0 s1 s2 s3 s4 s5 s6 s7 s8 s9 s10 s11, s = [s0, s1, s2, s3, s4, s5, s6, s7, s8, s9, s10, s11] := by
  rcases s with _ | ⟨s0, _ | ⟨s1, _ | ⟨s2, _ | ⟨s3, _ | ⟨s4, _ | ⟨s5, _ | ⟨s6, _ | ⟨s7, _ | ⟨s8, _ | ⟨s9, _ | ⟨s10, _ | ⟨s11, _ | ⟨s12, r⟩⟩⟩⟩⟩⟩⟩⟩⟩⟩⟩⟩⟩ <;> simp at h
  exact ⟨s0, s1, s2, s3, s4, s5, s6, s7, s8, s9, s10, s11, rfl⟩
theorem jdg_bd (s : List Int) (a b : Int) : 1 ≤ jdg s a b ∧ jdg s a b ≤ 4 := by
  unfold jdg jdL
  split
  · omega
  · split
    · omega
    · split <;> omega
/-- A circle as a value. -/
def cirV (s : List Int) (mb : Nat) : Array Value := (s.map (Value.int .i64) ++ [Value.map (some mb)]).toArray
theorem joined_list {s : List Int} (hl : s.length = 12) (hf : ∀ j, j < 12 → Fig (nth s j)) (w : World) :
    Calls Tryd.prog 45 #[.agg (arr s)] w fun e w' => ∃ (base mb : Nat) (D : DataW Unit), e = .returned (.agg (cirV s mb)) ∧ Circ (cirV s mb) s (some mb) ∧ Hid (w'.ownsGroups Tryd.prog 22 base 3 .i64 mb 12 D) ∧ Hid (∀ f : Int, D.atKey (.int .i64 f) .nil = stD s f 12) ∧ Below w.heap.size w w' := by
  obtain ⟨s0, s1, s2, s3, s4, s5, s6, s7, s8, s9, s10, s11, rfl⟩ := list12 hl
  refine (joined_any s0 s1 s2 s3 s4 s5 s6 s7 s8 s9 s10 s11 (Lib.hid hf) w).mono ?_
  rintro e w' ⟨base, mb, D, rfl, _, h1, h2, h3⟩
  exact ⟨base, mb, D, rfl, circ_of s0 s1 s2 s3 s4 s5 s6 s7 s8 s9 s10 s11 mb, Lib.hid h1, Lib.hid h2, h3⟩
theorem judge_calls {s : List Int} (cs : Array Value) (mb : Nat) (hC : Circ cs s (some mb)) (hf : ∀ j, j < 12 → Fig (nth s j)) (a b : Int) (ha : Hou a) (hb : Hou b) (base : Nat) (Dm : DataW Unit) (w : World) (HG : Hid (w.ownsGroups Tryd.prog 22 base 3 .i64 mb 12 Dm)) (hAt : Hid (∀ f : Int, Dm.atKey (.int .i64 f) .nil = stD s f 12)) (hw6 : 6 ≤ w.heap.size) :
    Calls Tryd.prog 43 #[.agg cs, .int .i64 a, .int .i64 b] w fun e w' => e = .returned (.int .i64 (jdg s a b)) ∧ Below w.heap.size w w' :=
  callsIn_wide.1 (judge_in cs s mb hC a b ha hb base Dm w HG hAt (hf _ (hou_lt ha)) hw6)
theorem changes_any (s : List Int) (w : World) : Calls Tryd.prog 44 #[.agg (arr s)] w fun e w' => e = .returned (.func (.func 70) #[] #[.pointer (some ⟨w.heap.size, 0, none⟩)]) ∧ w' = w.alloc (.cells (arr s) 24) := by
  go_enter Tryd.func44, Tryd.ntmps44
  go_wp2
  go_ret
  exact ⟨rfl, rfl⟩
theorem boxed_far {V : World} {B : Nat} {t : TypeId} {v : Value} (h : Boxed V B t v) {p : Addr} (hp : B ≠ p.block) (u : Value) : Boxed (V.setCell p u) B t v := (Below.heap_setCell V p u B hp).trans h

theorem bit_or_ne {b i j : Nat} (h : j ≠ i) : (b ||| 2 ^ i).testBit j = b.testBit j := by
  rw [Nat.testBit_or, Nat.testBit_two_pow_of_ne (Ne.symm h), Bool.or_false]
theorem bit_or_eq (b i : Nat) : (b ||| 2 ^ i).testBit i = true := by
  rw [Nat.testBit_or, Nat.testBit_two_pow_self, Bool.or_true]
theorem others_below {V V' : World} (h : Below V.heap.size V V') : KeepsOthers V V' := ⟨h.size, fun k o hk _ => (h.block k (Array.getElem?_eq_some_iff.1 hk).1).trans hk⟩
/-- The state between two rounds: the two houses, the best and the worst verdict. -/
structure LeI (w : World) (n0 Bs : Nat) (a b v0 : Int) (pre : List Nat) (W : World) : Prop where
  ba : Boxed W (n0 + 1) 3 (.int .i64 a)
  bb : Boxed W (n0 + 1 + 1) 3 (.int .i64 b)
  lh : ∃ lo hi : Int, Boxed W (n0 + 1 + 1 + 1) 46 (.int .i64 lo) ∧ Boxed W (n0 + 1 + 1 + 1 + 1) 46 (.int .i64 hi) ∧ Hid (1 ≤ lo ∧ lo ≤ v0 ∧ v0 ≤ hi ∧ hi ≤ 4)
  bl : Below n0 w W
  big : Bs + 1 ≤ W.heap.size
theorem LeI.own {w : World} {n0 Bs B : Nat} {a b v0 : Int} (hB : n0 ≤ B) (hw : n0 ≤ w.heap.size) : OwnFrom B (LeI w n0 Bs a b v0) := by
  rintro pre W W' row ⟨h1, h2, ⟨lo, hi, h3, h4, h5⟩, h6, h7⟩ hg hr
  have hc : ∀ k, (∃ o, W.heap[k]? = some o ∧ o.isCells = true) → some k ≠ row := by
    rintro k ⟨o, ho, hc⟩ e
    obtain ⟨_, o', ho', hc'⟩ := hr k e.symm
    rw [ho] at ho'
    cases ho'
    rw [hc] at hc'
    cases hc'
  exact ⟨h1.kept hg (hc _ ⟨_, h1, rfl⟩), h2.kept hg (hc _ ⟨_, h2, rfl⟩), ⟨lo, hi, h3.kept hg (hc _ ⟨_, h3, rfl⟩), h4.kept hg (hc _ ⟨_, h4, rfl⟩), h5⟩, h6.grown hg (Nat.le_trans hw h6.size) (fun k e => Nat.le_trans hB (hr k e).1), Nat.le_trans h7 hg.size⟩
/-- What holds within a round, the two verdicts aside. -/
structure LeE (w : World) (n0 Bs : Nat) (a b : Int) (U V : World) : Prop where
  ba : Boxed V (n0 + 1) 3 (.int .i64 a)
  bb : Boxed V (n0 + 1 + 1) 3 (.int .i64 b)
  bl : Below n0 w V
  big : Bs + 1 ≤ V.heap.size
  ko : KeepsOthers U V
  kp : KpH Bs U V
theorem LeE.below {w : World} {n0 Bs : Nat} {a b : Int} {U V V' : World} (h : LeE w n0 Bs a b U V) (hb : Below V.heap.size V V') (hn : n0 ≤ V.heap.size) : LeE w n0 Bs a b U V' :=
  ⟨boxed_below h.ba hb, boxed_below h.bb hb, h.bl.trans (hb.mono hn), Nat.le_trans h.big hb.size, h.ko.trans (others_below hb), h.kp.trans (KpH.below hb (by have := h.big; omega))⟩
theorem LeE.set {w : World} {n0 Bs : Nat} {a b : Int} {U V : World} (h : LeE w n0 Bs a b U V) {g : Nat} (h1 : n0 + 1 + 1 < g) (h2 : g ≠ Bs) (u : Value) : LeE w n0 Bs a b U (V.setCell ⟨g, 0, none⟩ u) :=
  ⟨boxed_far h.ba (by show n0 + 1 ≠ g; omega) u, boxed_far h.bb (by show n0 + 1 + 1 ≠ g; omega) u, h.bl.setCell (p := ⟨g, 0, none⟩) (by show n0 ≤ g; omega) u, by simpa [World.setCell] using h.big, h.ko.trans (KeepsOthers.setCell _ _ _), h.kp.trans ⟨by simp [World.setCell], Below.heap_setCell _ _ _ _ (by show Bs ≠ g; omega)⟩⟩
/-- What the first region of a round has found. -/
def LbR (s : List Int) (a b : Int) : Nat → Value → World → Prop
  | 0, x, _ => x = .agg (arr s)
  | 1, x, V => ∃ (base mb : Nat) (D : DataW Unit), x = .agg (cirV s mb) ∧ Circ (cirV s mb) s (some mb) ∧ Hid (V.ownsGroups Tryd.prog 22 base 3 .i64 mb 12 D) ∧ Hid (∀ f : Int, D.atKey (.int .i64 f) .nil = stD s f 12)
  | 2, x, _ => x = .int .i64 a
  | 3, x, _ => x = .int .i64 b
  | 4, x, _ => x = .int .i64 (jdg s a b)
  | 5, x, _ => x = .int .i64 (jdg s a b)
  | _, _, _ => True
theorem LbR.stab (s : List Int) (a b : Int) (i : Nat) (x : Value) (V V' : World) (h : LbR s a b i x V) (hb : Below V.heap.size V V') : LbR s a b i x V' := by
  match i with
  | 0 => exact h
  | 1 => obtain ⟨base, mb, D, h1, h2, h3, h4⟩ := h; exact ⟨base, mb, D, h1, h2, Lib.hid (groups_kept h3.out (grown_of_below hb) (fun r e => by cases e)), h4⟩
  | 2 => exact h
  | 3 => exact h
  | 4 => exact h
  | 5 => exact h
  | n + 6 => exact h
/-- What the second region of a round has done. -/
structure Rg9 (E : World → Prop) (vals : Nat → Value) (g6 g7 : Nat) (t : TypeId) (lo lo2 hi hi2 : Value) (b : Nat) (v : Nat → Value) (V : World) : Prop where
  e : E V
  vs : ∀ j, b.testBit j = true → v j = vals j
  b6 : Boxed V g6 t (if b.testBit 6 = true then lo2 else lo)
  b7 : Boxed V g7 t (if b.testBit 7 = true then hi2 else hi)
  o6 : b.testBit 6 = true → b.testBit 0 = true
  o7 : b.testBit 7 = true → b.testBit 3 = true
theorem vals_put {vals v : Nat → Value} {b i : Nat} {x : Value} (h : ∀ j, b.testBit j = true → v j = vals j) (hx : x = vals i) : ∀ j, (b ||| 2 ^ i).testBit j = true → (if j = i then x else v j) = vals j := by
  intro j hj
  by_cases e : j = i
  · rw [if_pos e, e]; exact hx
  · rw [if_neg e]; exact h j (by rwa [bit_or_ne e] at hj)
theorem bit_up {b i j : Nat} (h : b.testBit j = true) : (b ||| 2 ^ i).testBit j = true := by
  rw [Nat.testBit_or, h, Bool.true_or]
theorem Rg9.plain {E : World → Prop} {vals : Nat → Value} {g6 g7 : Nat} {t : TypeId} {lo lo2 hi hi2 : Value} {b : Nat} {v : Nat → Value} {V : World} (h : Rg9 E vals g6 g7 t lo lo2 hi hi2 b v V) {i : Nat} (h6 : 6 ≠ i) (h7 : 7 ≠ i) {x : Value} (hx : x = vals i) : Rg9 E vals g6 g7 t lo lo2 hi hi2 (b ||| 2 ^ i) (fun j => if j = i then x else v j) V :=
  ⟨h.e, vals_put h.vs hx, by rw [bit_or_ne h6]; exact h.b6, by rw [bit_or_ne h7]; exact h.b7, fun hb => bit_up (h.o6 (by rwa [bit_or_ne h6] at hb)), fun hb => bit_up (h.o7 (by rwa [bit_or_ne h7] at hb))⟩
/-- What the last region has done: the results are stored as they are. -/
structure Rg10 (E : World → Prop) (vals : Nat → Value) (g6 g7 : Nat) (t : TypeId) (lo hi : Value) (b : Nat) (v : Nat → Value) (V : World) : Prop where
  e : E V
  vs : ∀ j, b.testBit j = true → v j = vals j
  b6 : Boxed V g6 t lo
  b7 : Boxed V g7 t hi
theorem results_ccs {P : Program} {fn : Func} {p q r : Tmp} {ty tz : TypeId} (h : fn.results = #[.cell p ty, .cell q tz, .tmp r]) (tmps : Array Value) (w : World) (g k : Nat) (u v x : Value)
    (hp : tmps.getD p undef = .pointer (some ⟨g, 0, none⟩)) (hq : tmps.getD q undef = .pointer (some ⟨k, 0, none⟩)) (hu : (loadVar ty ⟨g, 0, none⟩).run P w = .ok u w) (hv : (loadVar tz ⟨k, 0, none⟩).run P w = .ok v w) (hr : tmps.getD r undef = x) :
    (results fn tmps).run P w = .ok (.tuple #[u, v, x]) w := by
  have hp' : tmps[p]?.getD undef = .pointer (some ⟨g, 0, none⟩) := by simpa using hp
  have hq' : tmps[q]?.getD undef = .pointer (some ⟨k, 0, none⟩) := by simpa using hq
  have hr' : tmps[r]?.getD undef = x := by simpa using hr
  simp [results, h, hp', hq', hr', asAddr, hu, hv]

attribute [local go_sem] Oper.semAt_some
set_option maxRecDepth 100000 in
set_option maxHeartbeats 8000000 in
theorem least_in (s0 s1 s2 s3 s4 s5 s6 s7 s8 s9 s10 s11 : Int) (HC : Hid (chkF [s0, s1, s2, s3, s4, s5, s6, s7, s8, s9, s10, s11] = 0)) (a b : Int) (ha : Hou a) (hb : Hou b) (HAB : Hid ((a == b) = false)) (w : World) (hw6 : 6 ≤ w.heap.size) :
    CallsIn Fence.wide 14 Tryd.prog 20 #[.agg #[.int .i64 s0, .int .i64 s1, .int .i64 s2, .int .i64 s3, .int .i64 s4, .int .i64 s5, .int .i64 s6, .int .i64 s7, .int .i64 s8, .int .i64 s9, .int .i64 s10, .int .i64 s11], .int .i64 a, .int .i64 b] w fun e w' => ∃ lo hi : Int, e = .returned (.tuple #[.int .i64 lo, .int .i64 hi, .int .i64 0]) ∧ Hid (1 ≤ lo ∧ lo ≤ jdg [s0, s1, s2, s3, s4, s5, s6, s7, s8, s9, s10, s11] a b ∧ jdg [s0, s1, s2, s3, s4, s5, s6, s7, s8, s9, s10, s11] a b ≤ hi ∧ hi ≤ 4) ∧ Below w.heap.size w w' := by
  have HN := Lib.hid (show chkH [a, b] = 0 by
    rcases chkH_two (a := a) (b := b) with ⟨h, _⟩ | ⟨_, h⟩
    · exact h
    · exact absurd ⟨ha, hb⟩ h)
  have HIh := Lib.hid (show (Tryd.prog.info? 24).map (·.size) = some (#[.int .i64 s0, .int .i64 s1, .int .i64 s2, .int .i64 s3, .int .i64 s4, .int .i64 s5, .int .i64 s6, .int .i64 s7, .int .i64 s8, .int .i64 s9, .int .i64 s10, .int .i64 s11] : Array Value).size from info_houses)
  have HFIG := Lib.hid (fun j (hj : j < 12) => chkF_zero HC.out j hj)
  refine callsIn_of_wp_marks Tryd.func20 rfl trivial ?_ rfl
  simp only [Tryd.ntmps20, List.size_toArray, List.length_cons, List.length_nil, Nat.reduceAdd, Nat.reduceSub, Array.replicate_succ, Array.replicate_zero, List.push_toArray, List.append_toArray, List.nil_append, List.cons_append]
  have HX := Lib.hid (show Blk (((((w.alloc (.cells #[.int .i64 s0, .int .i64 s1, .int .i64 s2, .int .i64 s3, .int .i64 s4, .int .i64 s5, .int .i64 s6, .int .i64 s7, .int .i64 s8, .int .i64 s9, .int .i64 s10, .int .i64 s11] 24)).alloc (.cells #[.int .i64 a] 3)).alloc (.cells #[.int .i64 b] 3)).alloc (.cells #[.int .i64 0] 46)).alloc (.cells #[.int .i64 0] 46)) w.heap.size 24 #[.int .i64 s0, .int .i64 s1, .int .i64 s2, .int .i64 s3, .int .i64 s4, .int .i64 s5, .int .i64 s6, .int .i64 s7, .int .i64 s8, .int .i64 s9, .int .i64 s10, .int .i64 s11] from ((((Blk.new w 24 #[.int .i64 s0, .int .i64 s1, .int .i64 s2, .int .i64 s3, .int .i64 s4, .int .i64 s5, .int .i64 s6, .int .i64 s7, .int .i64 s8, .int .i64 s9, .int .i64 s10, .int .i64 s11]).alloc _).alloc _).alloc _).alloc _)
  obtain ⟨n0, hn0⟩ : ∃ n0, w.heap.size = n0 := ⟨_, rfl⟩
  have hA : Boxed (((((w.alloc (.cells #[.int .i64 s0, .int .i64 s1, .int .i64 s2, .int .i64 s3, .int .i64 s4, .int .i64 s5, .int .i64 s6, .int .i64 s7, .int .i64 s8, .int .i64 s9, .int .i64 s10, .int .i64 s11] 24)).alloc (.cells #[.int .i64 a] 3)).alloc (.cells #[.int .i64 b] 3)).alloc (.cells #[.int .i64 0] 46)).alloc (.cells #[.int .i64 0] 46)) (n0 + 1) 3 (.int .i64 a) := by
    have h := ((Boxed.new (w.alloc (.cells #[.int .i64 s0, .int .i64 s1, .int .i64 s2, .int .i64 s3, .int .i64 s4, .int .i64 s5, .int .i64 s6, .int .i64 s7, .int .i64 s8, .int .i64 s9, .int .i64 s10, .int .i64 s11] 24)) 3 (.int .i64 a)).alloc (.cells #[.int .i64 b] 3)).alloc (.cells #[.int .i64 0] 46) |>.alloc (.cells #[.int .i64 0] 46)
    rwa [World.size_alloc, hn0] at h
  have hBb : Boxed (((((w.alloc (.cells #[.int .i64 s0, .int .i64 s1, .int .i64 s2, .int .i64 s3, .int .i64 s4, .int .i64 s5, .int .i64 s6, .int .i64 s7, .int .i64 s8, .int .i64 s9, .int .i64 s10, .int .i64 s11] 24)).alloc (.cells #[.int .i64 a] 3)).alloc (.cells #[.int .i64 b] 3)).alloc (.cells #[.int .i64 0] 46)).alloc (.cells #[.int .i64 0] 46)) (n0 + 1 + 1) 3 (.int .i64 b) := by
    have h := ((Boxed.new ((w.alloc (.cells #[.int .i64 s0, .int .i64 s1, .int .i64 s2, .int .i64 s3, .int .i64 s4, .int .i64 s5, .int .i64 s6, .int .i64 s7, .int .i64 s8, .int .i64 s9, .int .i64 s10, .int .i64 s11] 24)).alloc (.cells #[.int .i64 a] 3)) 3 (.int .i64 b)).alloc (.cells #[.int .i64 0] 46)).alloc (.cells #[.int .i64 0] 46)
    rwa [World.size_alloc, World.size_alloc, hn0] at h
  have hL6 : Boxed (((((w.alloc (.cells #[.int .i64 s0, .int .i64 s1, .int .i64 s2, .int .i64 s3, .int .i64 s4, .int .i64 s5, .int .i64 s6, .int .i64 s7, .int .i64 s8, .int .i64 s9, .int .i64 s10, .int .i64 s11] 24)).alloc (.cells #[.int .i64 a] 3)).alloc (.cells #[.int .i64 b] 3)).alloc (.cells #[.int .i64 0] 46)).alloc (.cells #[.int .i64 0] 46)) (n0 + 1 + 1 + 1) 46 (.int .i64 0) := by
    have h := (Boxed.new (((w.alloc (.cells #[.int .i64 s0, .int .i64 s1, .int .i64 s2, .int .i64 s3, .int .i64 s4, .int .i64 s5, .int .i64 s6, .int .i64 s7, .int .i64 s8, .int .i64 s9, .int .i64 s10, .int .i64 s11] 24)).alloc (.cells #[.int .i64 a] 3)).alloc (.cells #[.int .i64 b] 3)) 46 (.int .i64 0)).alloc (.cells #[.int .i64 0] 46)
    rwa [World.size_alloc, World.size_alloc, World.size_alloc, hn0] at h
  have hL7 : Boxed (((((w.alloc (.cells #[.int .i64 s0, .int .i64 s1, .int .i64 s2, .int .i64 s3, .int .i64 s4, .int .i64 s5, .int .i64 s6, .int .i64 s7, .int .i64 s8, .int .i64 s9, .int .i64 s10, .int .i64 s11] 24)).alloc (.cells #[.int .i64 a] 3)).alloc (.cells #[.int .i64 b] 3)).alloc (.cells #[.int .i64 0] 46)).alloc (.cells #[.int .i64 0] 46)) (n0 + 1 + 1 + 1 + 1) 46 (.int .i64 0) := by
    have h := Boxed.new ((((w.alloc (.cells #[.int .i64 s0, .int .i64 s1, .int .i64 s2, .int .i64 s3, .int .i64 s4, .int .i64 s5, .int .i64 s6, .int .i64 s7, .int .i64 s8, .int .i64 s9, .int .i64 s10, .int .i64 s11] 24)).alloc (.cells #[.int .i64 a] 3)).alloc (.cells #[.int .i64 b] 3)).alloc (.cells #[.int .i64 0] 46)) 46 (.int .i64 0)
    rwa [World.size_alloc, World.size_alloc, World.size_alloc, World.size_alloc, hn0] at h
  have hB0 : Below w.heap.size w (((((w.alloc (.cells #[.int .i64 s0, .int .i64 s1, .int .i64 s2, .int .i64 s3, .int .i64 s4, .int .i64 s5, .int .i64 s6, .int .i64 s7, .int .i64 s8, .int .i64 s9, .int .i64 s10, .int .i64 s11] 24)).alloc (.cells #[.int .i64 a] 3)).alloc (.cells #[.int .i64 b] 3)).alloc (.cells #[.int .i64 0] 46)).alloc (.cells #[.int .i64 0] 46)) := (((((Below.refl _ w).alloc (Nat.le_refl _) _).alloc (by simp) _).alloc (by simp; omega) _).alloc (by simp; omega) _).alloc (by simp; omega) _
  have hsz : (((((w.alloc (.cells #[.int .i64 s0, .int .i64 s1, .int .i64 s2, .int .i64 s3, .int .i64 s4, .int .i64 s5, .int .i64 s6, .int .i64 s7, .int .i64 s8, .int .i64 s9, .int .i64 s10, .int .i64 s11] 24)).alloc (.cells #[.int .i64 a] 3)).alloc (.cells #[.int .i64 b] 3)).alloc (.cells #[.int .i64 0] 46)).alloc (.cells #[.int .i64 0] 46)).heap.size = n0 + 5 := by simp [hn0]
  have HcA := Lib.hid hA.cell
  have HcB := Lib.hid hBb.cell
  obtain ⟨W1, hW1⟩ : ∃ W1, ((((w.alloc (.cells #[.int .i64 s0, .int .i64 s1, .int .i64 s2, .int .i64 s3, .int .i64 s4, .int .i64 s5, .int .i64 s6, .int .i64 s7, .int .i64 s8, .int .i64 s9, .int .i64 s10, .int .i64 s11] 24)).alloc (.cells #[.int .i64 a] 3)).alloc (.cells #[.int .i64 b] 3)).alloc (.cells #[.int .i64 0] 46)).alloc (.cells #[.int .i64 0] 46) = W1 := ⟨_, rfl⟩
  rw [hW1] at HX hA hBb hL6 hL7 hB0 hsz HcA HcB
  rw [hn0] at HX
  have hcA := HcA.out
  have hcB := HcB.out
  gi_wp2_with (first | (refine wpListIn_load_row rfl 24 (.tmp 3) rfl n0 rfl 24 #[.int .i64 s0, .int .i64 s1, .int .i64 s2, .int .i64 s3, .int .i64 s4, .int .i64 s5, .int .i64 s6, .int .i64 s7, .int .i64 s8, .int .i64 s9, .int .i64 s10, .int .i64 s11] (0, 0) _ HX.out Tryd.underlying24 rfl HIh.out ?_) | fail)
  clear hW1 HcA HcB hcA hcB
  have hR2 : Reads (W1.alloc (.cells #[.int .i64 a, .int .i64 b] 3)) (some ⟨n0 + 5, 0, none⟩) [a, b] := by
    rw [← hsz]; exact reads_new _ 3 [a, b]
  refine ⟨trivial, ?_⟩
  refine (callsIn_wide.2 (enter_ok2 s0 s1 s2 s3 s4 s5 s6 s7 s8 s9 s10 s11 a b HC HN HAB (n0 + 5) 2 _ hR2)).mono ?_
  rintro e w4 ⟨base, mb, D, rfl, hmb, hog, hat, hb4⟩
  have hb14 : Below W1.heap.size W1 w4 := (below1 W1 _).trans (hb4.mono (below1 W1 _).size)
  clear hmb hb4 hR2
  have hA4 := boxed_below hA hb14
  have hBb4 := boxed_below hBb hb14
  have hL64 := boxed_below hL6 hb14
  have hL74 := boxed_below hL7 hb14
  have HX4 := Lib.hid (HX.out.below hb14 HX.out.lt)
  have hB4 : Below w.heap.size w w4 := hB0.trans (hb14.mono hB0.size)
  have hs4 : n0 + 5 ≤ w4.heap.size := by rw [← hsz]; exact hb14.size
  clear hA hBb hL6 hL7 HX hb14 hB0 hsz
  have HI13 := Lib.hid (show (Tryd.prog.info? 84).map (·.size) = some (#[.int .i64 s0, .int .i64 s1, .int .i64 s2, .int .i64 s3, .int .i64 s4, .int .i64 s5, .int .i64 s6, .int .i64 s7, .int .i64 s8, .int .i64 s9, .int .i64 s10, .int .i64 s11, .map (some mb)] : Array Value).size from info_circle)
  have HZ := Lib.hid (show Blk (w4.alloc (.cells #[.int .i64 0, .int .i64 0, .int .i64 0, .int .i64 0, .int .i64 0, .int .i64 0, .int .i64 0, .int .i64 0, .int .i64 0, .int .i64 0, .int .i64 0, .int .i64 0, .map none] 84)) w4.heap.size 84 #[.int .i64 0, .int .i64 0, .int .i64 0, .int .i64 0, .int .i64 0, .int .i64 0, .int .i64 0, .int .i64 0, .int .i64 0, .int .i64 0, .int .i64 0, .int .i64 0, .map none] from blk_newN _ _ rfl)
  have HST := Lib.hid (HZ.out.row #[.int .i64 s0, .int .i64 s1, .int .i64 s2, .int .i64 s3, .int .i64 s4, .int .i64 s5, .int .i64 s6, .int .i64 s7, .int .i64 s8, .int .i64 s9, .int .i64 s10, .int .i64 s11, .map (some mb)])
  have hb45 : Below w4.heap.size w4 ((w4.alloc (.cells #[.int .i64 0, .int .i64 0, .int .i64 0, .int .i64 0, .int .i64 0, .int .i64 0, .int .i64 0, .int .i64 0, .int .i64 0, .int .i64 0, .int .i64 0, .int .i64 0, .map none] 84)).setRow w4.heap.size #[.int .i64 s0, .int .i64 s1, .int .i64 s2, .int .i64 s3, .int .i64 s4, .int .i64 s5, .int .i64 s6, .int .i64 s7, .int .i64 s8, .int .i64 s9, .int .i64 s10, .int .i64 s11, .map (some mb)]) := below_setRow (below1 w4 _) (Nat.le_refl _) _
  have hg5 : w4.grownBy ((w4.alloc (.cells #[.int .i64 0, .int .i64 0, .int .i64 0, .int .i64 0, .int .i64 0, .int .i64 0, .int .i64 0, .int .i64 0, .int .i64 0, .int .i64 0, .int .i64 0, .int .i64 0, .map none] 84)).setRow w4.heap.size #[.int .i64 s0, .int .i64 s1, .int .i64 s2, .int .i64 s3, .int .i64 s4, .int .i64 s5, .int .i64 s6, .int .i64 s7, .int .i64 s8, .int .i64 s9, .int .i64 s10, .int .i64 s11, .map (some mb)]) none := grown_of_below hb45
  have hA5 := boxed_below hA4 hb45
  have hBb5 := boxed_below hBb4 hb45
  have hcA5 := hA5.cell
  have hcB5 := hBb5.cell
  gi_wp2_with (first
    | (refine wpListIn_store_row rfl 84 (.tmp 9) (.tmp 18) rfl w4.heap.size #[.int .i64 s0, .int .i64 s1, .int .i64 s2, .int .i64 s3, .int .i64 s4, .int .i64 s5, .int .i64 s6, .int .i64 s7, .int .i64 s8, .int .i64 s9, .int .i64 s10, .int .i64 s11, .map (some mb)] rfl rfl 84 _ HZ.out HI13.out rfl (by simp [Value.oneCell']) ?_)
    | (refine wpListIn_load_row rfl 84 (.tmp 9) rfl w4.heap.size rfl 84 #[.int .i64 s0, .int .i64 s1, .int .i64 s2, .int .i64 s3, .int .i64 s4, .int .i64 s5, .int .i64 s6, .int .i64 s7, .int .i64 s8, .int .i64 s9, .int .i64 s10, .int .i64 s11, .map (some mb)] (0, 0) _ HST.out Tryd.underlying84 rfl HI13.out ?_) | fail)
  refine ⟨trivial, ?_⟩
  have HOG := Lib.hid (groups_kept hog hg5 (fun r e => by cases e))
  have hL65 := boxed_below hL64 hb45
  have hL75 := boxed_below hL74 hb45
  have HX5 := Lib.hid (HX4.out.below hb45 HX4.out.lt)
  have hB5 := hB4.trans (hb45.mono hB4.size)
  have hs5 := Nat.le_trans hs4 hb45.size
  clear hcA5 hcB5 hA4 hBb4 hL64 hL74 HX4 hB4 hs4 hog HZ HST hb45 hg5
  generalize (w4.alloc (.cells #[.int .i64 0, .int .i64 0, .int .i64 0, .int .i64 0, .int .i64 0, .int .i64 0, .int .i64 0, .int .i64 0, .int .i64 0, .int .i64 0, .int .i64 0, .int .i64 0, .map none] 84)).setRow w4.heap.size #[.int .i64 s0, .int .i64 s1, .int .i64 s2, .int .i64 s3, .int .i64 s4, .int .i64 s5, .int .i64 s6, .int .i64 s7, .int .i64 s8, .int .i64 s9, .int .i64 s10, .int .i64 s11, .map (some mb)] = W5 at *
  refine (callsIn_wide.2 (judge_calls (s := [s0, s1, s2, s3, s4, s5, s6, s7, s8, s9, s10, s11]) #[.int .i64 s0, .int .i64 s1, .int .i64 s2, .int .i64 s3, .int .i64 s4, .int .i64 s5, .int .i64 s6, .int .i64 s7, .int .i64 s8, .int .i64 s9, .int .i64 s10, .int .i64 s11, .map (some mb)] mb (circ_of s0 s1 s2 s3 s4 s5 s6 s7 s8 s9 s10 s11 mb) HFIG.out a b ha hb base D W5 HOG (Lib.hid hat) (Nat.le_trans hw6 hB5.size))).mono ?_
  rintro e w6 ⟨rfl, hb6⟩
  obtain ⟨v0, hv0⟩ : ∃ v0, jdg [s0, s1, s2, s3, s4, s5, s6, s7, s8, s9, s10, s11] a b = v0 := ⟨_, rfl⟩
  have hvb := jdg_bd [s0, s1, s2, s3, s4, s5, s6, s7, s8, s9, s10, s11] a b
  rw [hv0] at hvb ⊢
  have HV := Lib.hid hv0
  clear hv0 HOG hat
  have hA6 := boxed_below hA5 hb6
  have hBb6 := boxed_below hBb5 hb6
  have hL66 := boxed_below hL65 hb6
  have hL76 := boxed_below hL75 hb6
  have HX6 := Lib.hid (HX5.out.below hb6 HX5.out.lt)
  have hB6 := hB5.trans (hb6.mono hB5.size)
  have hs6 := Nat.le_trans hs5 hb6.size
  clear hA5 hBb5 hL65 hL75 HX5 hB5 hs5 hb6
  obtain ⟨S9, hS9⟩ : ∃ S9, w4.heap.size = S9 := ⟨_, rfl⟩
  rw [hS9]
  clear hS9
  have hc66 := hL66.cell
  have hf66 := hL66.frozen
  have hL67 := Boxed.set (.int .i64 v0) hL66
  have hL77 := boxed_far hL76 (p := ⟨n0 + 1 + 1 + 1, 0, none⟩) (by show n0 + 1 + 1 + 1 + 1 ≠ n0 + 1 + 1 + 1; omega) (.int .i64 v0)
  have hA7 := boxed_far hA6 (p := ⟨n0 + 1 + 1 + 1, 0, none⟩) (by show n0 + 1 ≠ n0 + 1 + 1 + 1; omega) (.int .i64 v0)
  have hBb7 := boxed_far hBb6 (p := ⟨n0 + 1 + 1 + 1, 0, none⟩) (by show n0 + 1 + 1 ≠ n0 + 1 + 1 + 1; omega) (.int .i64 v0)
  have HX7 := Lib.hid (Blk.far HX6.out (p := ⟨n0 + 1 + 1 + 1, 0, none⟩) (by show n0 ≠ n0 + 1 + 1 + 1; omega) (.int .i64 v0))
  have hB7 := hB6.setCell (p := ⟨n0 + 1 + 1 + 1, 0, none⟩) (by show w.heap.size ≤ n0 + 1 + 1 + 1; omega) (.int .i64 v0)
  have hs7 : n0 + 5 ≤ (w6.setCell ⟨n0 + 1 + 1 + 1, 0, none⟩ (.int .i64 v0)).heap.size := by simpa [World.setCell] using hs6
  obtain ⟨W7, hW7⟩ : ∃ W7, w6.setCell ⟨n0 + 1 + 1 + 1, 0, none⟩ (.int .i64 v0) = W7 := ⟨_, rfl⟩
  rw [hW7] at hL67 hL77 hA7 hBb7 HX7 hB7 hs7
  have hc67 := hL67.cell
  have hf67 := hL67.frozen
  have hc77 := hL77.cell
  have hf77 := hL77.frozen
  have hL88 := Boxed.set (.int .i64 v0) hL77
  have hL68 := boxed_far hL67 (p := ⟨n0 + 1 + 1 + 1 + 1, 0, none⟩) (by show n0 + 1 + 1 + 1 ≠ n0 + 1 + 1 + 1 + 1; omega) (.int .i64 v0)
  have hA8 := boxed_far hA7 (p := ⟨n0 + 1 + 1 + 1 + 1, 0, none⟩) (by show n0 + 1 ≠ n0 + 1 + 1 + 1 + 1; omega) (.int .i64 v0)
  have hBb8 := boxed_far hBb7 (p := ⟨n0 + 1 + 1 + 1 + 1, 0, none⟩) (by show n0 + 1 + 1 ≠ n0 + 1 + 1 + 1 + 1; omega) (.int .i64 v0)
  have HX8 := Lib.hid (Blk.far HX7.out (p := ⟨n0 + 1 + 1 + 1 + 1, 0, none⟩) (by show n0 ≠ n0 + 1 + 1 + 1 + 1; omega) (.int .i64 v0))
  have hB8 := hB7.setCell (p := ⟨n0 + 1 + 1 + 1 + 1, 0, none⟩) (by show w.heap.size ≤ n0 + 1 + 1 + 1 + 1; omega) (.int .i64 v0)
  have hs8 : n0 + 5 ≤ (W7.setCell ⟨n0 + 1 + 1 + 1 + 1, 0, none⟩ (.int .i64 v0)).heap.size := by simpa [World.setCell] using hs7
  obtain ⟨W8, hW8⟩ : ∃ W8, W7.setCell ⟨n0 + 1 + 1 + 1 + 1, 0, none⟩ (.int .i64 v0) = W8 := ⟨_, rfl⟩
  rw [hW8] at hL88 hL68 hA8 hBb8 HX8 hB8 hs8
  clear hA6 hBb6 hL66 hL76 HX6 hB6 hs6 hL67 hL77 hA7 hBb7 HX7 hB7 hs7
  gi_wp2_with (first | (refine wpListIn_load_row rfl 24 (.tmp 3) rfl n0 rfl 24 #[.int .i64 s0, .int .i64 s1, .int .i64 s2, .int .i64 s3, .int .i64 s4, .int .i64 s5, .int .i64 s6, .int .i64 s7, .int .i64 s8, .int .i64 s9, .int .i64 s10, .int .i64 s11] (0, 0) _ HX8.out Tryd.underlying24 rfl HIh.out ?_) | fail)
  clear hc66 hf66 hc67 hf67 hc77 hf77 hW8 hW7
  refine ⟨trivial, ?_⟩
  refine (callsIn_wide.2 (changes_any [s0, s1, s2, s3, s4, s5, s6, s7, s8, s9, s10, s11] W8)).mono ?_
  rintro e w9 ⟨rfl, rfl⟩
  have HBs := Lib.hid (show Blk (W8.alloc (.cells (arr [s0, s1, s2, s3, s4, s5, s6, s7, s8, s9, s10, s11]) 24)) W8.heap.size 24 (arr [s0, s1, s2, s3, s4, s5, s6, s7, s8, s9, s10, s11]) from Blk.new _ _ _)
  have hA9 := hA8.alloc (.cells (arr [s0, s1, s2, s3, s4, s5, s6, s7, s8, s9, s10, s11]) 24)
  have hBb9 := hBb8.alloc (.cells (arr [s0, s1, s2, s3, s4, s5, s6, s7, s8, s9, s10, s11]) 24)
  have hL69 := hL68.alloc (.cells (arr [s0, s1, s2, s3, s4, s5, s6, s7, s8, s9, s10, s11]) 24)
  have hL79 := hL88.alloc (.cells (arr [s0, s1, s2, s3, s4, s5, s6, s7, s8, s9, s10, s11]) 24)
  have hB9 := hB8.alloc hB8.size (.cells (arr [s0, s1, s2, s3, s4, s5, s6, s7, s8, s9, s10, s11]) 24)
  have hs9 : (W8.alloc (.cells (arr [s0, s1, s2, s3, s4, s5, s6, s7, s8, s9, s10, s11]) 24)).heap.size = W8.heap.size + 1 := by simp
  obtain ⟨W9, hW9⟩ : ∃ W9, W8.alloc (.cells (arr [s0, s1, s2, s3, s4, s5, s6, s7, s8, s9, s10, s11]) 24) = W9 := ⟨_, rfl⟩
  rw [hW9] at HBs hA9 hBb9 hL69 hL79 hB9 hs9
  rw [hW9]
  obtain ⟨Bs, hBs⟩ : ∃ Bs, W8.heap.size = Bs := ⟨_, rfl⟩
  rw [hBs] at HBs hs8 hs9
  rw [hBs]
  clear hW9 hBs hA8 hBb8 HX8 hL68 hL88 hB8
  generalize Value.agg #[.int .i64 s0, .int .i64 s1, .int .i64 s2, .int .i64 s3, .int .i64 s4, .int .i64 s5, .int .i64 s6, .int .i64 s7, .int .i64 s8, .int .i64 s9, .int .i64 s10, .int .i64 s11, .map (some mb)] = J1
  gi_wp2_with fail
  generalize Value.agg #[.int .i64 s0, .int .i64 s1, .int .i64 s2, .int .i64 s3, .int .i64 s4, .int .i64 s5, .int .i64 s6, .int .i64 s7, .int .i64 s8, .int .i64 s9, .int .i64 s10, .int .i64 s11] = J0
  have HL := Lib.hid (show ([s0, s1, s2, s3, s4, s5, s6, s7, s8, s9, s10, s11] : List Int).length = 12 from rfl)
  obtain ⟨L0, hL0⟩ : ∃ L0, [s0, s1, s2, s3, s4, s5, s6, s7, s8, s9, s10, s11] = L0 := ⟨_, rfl⟩
  rw [hL0] at HBs HL HFIG HV
  rw [hn0] at hB9
  refine wpIn_rangeFunc_ownH (F := Fence.wide) rfl (by omega) (gf := 70) (lb := #[.pointer (some ⟨Bs, 0, none⟩)]) rfl trivial (enters_of Tryd.func70 (by kernel_rfl) rfl)
    (changes_stops Fence.wide (14 - 1) trivial rfl (by omega) Bs L0 HL W9 HBs) KpH.trans (KpH.put (by omega)) (Below.refl _ _) (fun _ => rfl)
    (LeI w n0 Bs a b v0) (fun _ _ _ => False) (LeI.own (by omega) (by omega)) (fun _ _ _ _ _ hs _ _ => hs)
    ⟨hA9, hBb9, ⟨v0, v0, hL69, hL79, Lib.hid ⟨hvb.1, Int.le_refl _, Int.le_refl _, hvb.2⟩⟩, hB9, by omega⟩
    (fun x a' V => ∃ Bx, Blk V Bx 24 (arr (chgL L0 x)) ∧ a' = { tmps := #[J0, .int .i64 a, .int .i64 b, .pointer (some ⟨n0, 0, none⟩), .pointer (some ⟨n0 + 1, 0, none⟩), .pointer (some ⟨n0 + 1 + 1, 0, none⟩), .pointer (some ⟨n0 + 1 + 1 + 1, 0, none⟩), .pointer (some ⟨n0 + 1 + 1 + 1 + 1, 0, none⟩), .int .i64 0, .pointer (some ⟨S9, 0, none⟩), .pointer (some ⟨Bx, 0, none⟩), undef, .tuple #[J1, .int .i64 0], J0, .int .i64 a, .int .i64 b, .slice (some ⟨n0 + 5, 0, none⟩) 2 2, .tuple #[J1, .int .i64 0], J1, .int .i64 0, .int .i64 0, .bool false, undef, J1, .int .i64 a, .int .i64 b, .int .i64 v0, .int .i64 v0, J0, .func (.func 70) #[] #[.pointer (some ⟨Bs, 0, none⟩)], .agg (arr (chgL L0 x)), undef, undef, undef, undef, undef, undef, undef, undef, undef, undef, undef, undef, undef], defers := [] })
    (fun x a' s A B row' h hg hr => by
      obtain ⟨Bx, h1, h2⟩ := h
      refine ⟨Bx, ?_, h2⟩
      exact (hg.block Bx h1.lt (fun e => by
        obtain ⟨_, o, ho, hc⟩ := hr Bx e.symm
        rw [show A.heap[Bx]? = _ from h1] at ho
        cases ho
        cases hc)).trans h1) ?assign ?body ?done ?stop
  case assign =>
    rintro l pre x V K ⟨h1, h2, ⟨lo, hi, h3, h4, h5⟩, h6, h7⟩ hK
    unfold encS
    have hs9' : n0 + 5 ≤ Bs := hs8
    have HIc := Lib.hid (show (Tryd.prog.info? 24).map (·.size) = some (arr (chgL L0 x)).size by rw [arr_size, chgL_len, HL.out]; exact info_houses)
    have HN := Lib.hid (newAt (W := V) (o := .cells #[.int .i64 0, .int .i64 0, .int .i64 0, .int .i64 0, .int .i64 0, .int .i64 0, .int .i64 0, .int .i64 0, .int .i64 0, .int .i64 0, .int .i64 0, .int .i64 0] 24) rfl)
    have hbv : Below V.heap.size V ((V.alloc (.cells #[.int .i64 0, .int .i64 0, .int .i64 0, .int .i64 0, .int .i64 0, .int .i64 0, .int .i64 0, .int .i64 0, .int .i64 0, .int .i64 0, .int .i64 0, .int .i64 0] 24)).setRow V.heap.size (arr (chgL L0 x))) := below_setRow (below1 V _) (Nat.le_refl _) _
    have HG := Lib.hid (show Blk ((V.alloc (.cells #[.int .i64 0, .int .i64 0, .int .i64 0, .int .i64 0, .int .i64 0, .int .i64 0, .int .i64 0, .int .i64 0, .int .i64 0, .int .i64 0, .int .i64 0, .int .i64 0] 24)).setRow V.heap.size (arr (chgL L0 x))) V.heap.size 24 (arr (chgL L0 x)) from Blk.row HN.out _)
    gi_wp2_with (first | (refine wpListIn_store_row rfl 24 (.tmp 10) (.tmp 30) rfl V.heap.size (arr (chgL L0 x)) rfl rfl 24 _ HN.out HIc.out (by rw [arr_size, chgL_len, HL.out]; rfl) (arr_one _) ?_) | fail)
    refine hK _ _ (keepsFrom_below hbv) (KpH.below hbv (by omega)) ⟨boxed_below h1 hbv, boxed_below h2 hbv, ⟨lo, hi, boxed_below h3 hbv, boxed_below h4 hbv, h5⟩, h6.trans (hbv.mono (Nat.le_trans (by omega) h7)), Nat.le_trans h7 hbv.size⟩ ⟨V.heap.size, HG.out, rfl⟩
  case body =>
    rintro l pre x a' W2 hl2 hrec ⟨h1, h2, ⟨lo, hi, h3, h4, HQ⟩, h6, h7⟩ ⟨Bx, hBx, rfl⟩ hlen2
    have HCF := Lib.hid (fun j hj => chgL_figs HFIG.out x j hj)
    have HCL := Lib.hid (show (chgL L0 x).length = 12 by rw [chgL_len, HL.out])
    have HIc := Lib.hid (show (Tryd.prog.info? 24).map (·.size) = some (arr (chgL L0 x)).size by rw [arr_size, HCL.out]; exact info_houses)
    obtain ⟨s2, hs2⟩ : ∃ s2, chgL L0 x = s2 := ⟨_, rfl⟩
    rw [hs2] at hBx HCF HCL HIc ⊢
    clear hs2 hlen2 hrec hL0 HV
    have hE : LeE w n0 Bs a b W2 W2 := ⟨h1, h2, h6, h7, KeepsOthers.refl _, Nat.le_refl _, rfl⟩
    have hw2 : 6 ≤ W2.heap.size := by omega
    gi_wp2_with fail
    refine wpIn_region_mono follows_mixedB [some 31, some 32, some 33, some 34, some 35, some 11] (by kernel_rfl) (LbR s2 a b) (LbR.stab _ _ _) ?step ?fin
    case step =>
      intro i hi a1 V FD
      have hi : i < 6 := hi
      have e : i = 0 ∨ i = 1 ∨ i = 2 ∨ i = 3 ∨ i = 4 ∨ i = 5 := by omega
      clear hi
      rcases e with rfl | rfl | rfl | rfl | rfl | rfl
      · have e10 : a1.tmps[10]?.getD undef = (.pointer (some ⟨Bx, 0, none⟩)) := (FD.kept 10 (by kernel_rfl)).trans rfl
        refine wpOpIn_step rfl (fun K hK => ?_)
        refine Eq.mpr (if_pos (by rfl)) ?_
        exact operIn_load_row 24 (.tmp 10) rfl Bx (eval_tmp e10) 24 (arr s2) (0, 0) _ (hBx.below FD.below hBx.lt) Tryd.underlying24 rfl HIc.out (hK _ _ ⟨_, rfl, rfl, Below.refl _ _⟩)
      · have e31 : a1.tmps[31]?.getD undef = (.agg (arr s2)) := by
          obtain ⟨x, hx, ht⟩ := FD.dep 0 (by kernel_rfl)
          rw [ht 31 rfl]; exact hx
        refine wpOpIn_step rfl (fun K hK => ?_)
        refine Eq.mpr (if_pos (by rfl)) ?_
        go_simp
        gi_wp2_with fail
        refine ⟨trivial, ?_⟩
        refine (CallsIn.inRound l (callsIn_wide.2 (joined_list HCL.out HCF.out _))).mono ?_
        rintro e V2 ⟨base, mb, D, rfl, k1, k2, k3, hb2⟩
        exact hK _ _ ⟨_, rfl, ⟨base, mb, D, rfl, k1, k2, k3⟩, hb2⟩
      · have e4 : a1.tmps[4]?.getD undef = (.pointer (some ⟨n0 + 1, 0, none⟩)) := (FD.kept 4 (by kernel_rfl)).trans rfl
        refine wpOpIn_step rfl (fun K hK => ?_)
        refine Eq.mpr (if_pos (by rfl)) ?_
        have hcc := (boxed_below h1 FD.below).cell
        go_simp
        exact hK _ _ ⟨_, rfl, rfl, Below.refl _ _⟩
      · have e5 : a1.tmps[5]?.getD undef = (.pointer (some ⟨n0 + 1 + 1, 0, none⟩)) := (FD.kept 5 (by kernel_rfl)).trans rfl
        refine wpOpIn_step rfl (fun K hK => ?_)
        refine Eq.mpr (if_pos (by rfl)) ?_
        have hcc := (boxed_below h2 FD.below).cell
        go_simp
        exact hK _ _ ⟨_, rfl, rfl, Below.refl _ _⟩
      · obtain ⟨x1, ⟨base, mb, D, hx1, k1, k2, k3⟩, ht1⟩ := FD.dep 1 (by kernel_rfl)
        have e32 : a1.tmps[32]?.getD undef = (.agg (cirV s2 mb)) := by rw [ht1 32 rfl]; exact hx1
        have e33 : a1.tmps[33]?.getD undef = (.int .i64 a) := by
          obtain ⟨x, hx, ht⟩ := FD.dep 2 (by kernel_rfl)
          rw [ht 33 rfl]; exact hx
        have e34 : a1.tmps[34]?.getD undef = (.int .i64 b) := by
          obtain ⟨x, hx, ht⟩ := FD.dep 3 (by kernel_rfl)
          rw [ht 34 rfl]; exact hx
        refine wpOpIn_step rfl (fun K hK => ?_)
        refine Eq.mpr (if_pos (by rfl)) ?_
        go_simp
        gi_wp2_with fail
        refine ⟨trivial, ?_⟩
        refine (CallsIn.inRound l (callsIn_wide.2 (judge_calls _ mb k1 HCF.out a b ha hb base D _ k2 k3 (Nat.le_trans hw2 FD.below.size)))).mono ?_
        rintro e V2 ⟨rfl, hb2⟩
        exact hK _ _ ⟨_, rfl, rfl, hb2⟩
      · have e35 : a1.tmps[35]?.getD undef = (.int .i64 (jdg s2 a b)) := by
          obtain ⟨x, hx, ht⟩ := FD.dep 4 (by kernel_rfl)
          rw [ht 35 rfl]; exact hx
        refine wpOpIn_step rfl (fun K hK => ?_)
        refine Eq.mpr (if_pos (by rfl)) ?_
        go_simp
        exact hK _ _ ⟨_, rfl, rfl, Below.refl _ _⟩
    case fin =>
      intro vv V hbv hv
      have hv5 : vv 5 = .int .i64 (jdg s2 a b) := hv 5 (by decide)
      have hzb := jdg_bd s2 a b
      obtain ⟨z, hz⟩ : ∃ z, jdg s2 a b = z := ⟨_, rfl⟩
      rw [hz] at hv5 hzb
      simp only [finD, List.set_cons_succ, List.set_cons_zero, hv5]
      generalize vv 0 = x0
      generalize vv 1 = x1
      generalize vv 2 = x2
      generalize vv 3 = x3
      generalize vv 4 = x4
      have hEV := hE.below hbv (by omega)
      have h3V := boxed_below h3 hbv
      have h4V := boxed_below h4 hbv
      have hBg := hEV.big
      clear hv hv5 hz hbv hE h1 h2 h3 h4 h6 hBx HCF HCL HIc
      obtain ⟨lo2, hlo2⟩ : ∃ lo2, min lo z = lo2 := ⟨_, rfl⟩
      obtain ⟨hi2, hhi2⟩ : ∃ hi2, max hi z = hi2 := ⟨_, rfl⟩
      have HQ2 := Lib.hid (show 1 ≤ lo2 ∧ lo2 ≤ v0 ∧ v0 ≤ hi2 ∧ hi2 ≤ 4 by
        obtain ⟨q1, q2, q3, q4⟩ := HQ.out
        rw [← hlo2, ← hhi2]
        omega)
      clear HQ
      gi_wp2_with fail
      refine wpIn_region_gen follows_mixedB [some 36, some 37, some 38, some 39, some 40, some 41, none, none] (by kernel_rfl) (Rg9 (LeE w n0 Bs a b W2) (fun i => match i with | 0 => .int .i64 lo | 1 => .int .i64 z | 2 => .int .i64 lo2 | 3 => .int .i64 hi | 4 => .int .i64 z | 5 => .int .i64 hi2 | _ => undef) (n0 + 1 + 1 + 1) (n0 + 1 + 1 + 1 + 1) 46 (.int .i64 lo) (.int .i64 lo2) (.int .i64 hi) (.int .i64 hi2)) ?start ?step ?fin
      case start => exact ⟨hEV.below ((Below.refl _ _).drew) (by omega), fun j h => by simp at h, by rw [if_neg (by simp)]; exact h3V, by rw [if_neg (by simp)]; exact h4V, fun h => by simp at h, fun h => by simp at h⟩
      case step =>
        intro i hii a1 V9 b9 v hI hbi FD
        have hii : i < 8 := hii
        have e : i = 0 ∨ i = 1 ∨ i = 2 ∨ i = 3 ∨ i = 4 ∨ i = 5 ∨ i = 6 ∨ i = 7 := by omega
        clear hii h3V h4V
        rcases e with rfl | rfl | rfl | rfl | rfl | rfl | rfl | rfl
        · have e6 : a1.tmps[6]?.getD undef = (.pointer (some ⟨n0 + 1 + 1 + 1, 0, none⟩)) := (FD.kept 6 (by kernel_rfl)).trans rfl
          have hb6 : b9.testBit 6 = false := by
            cases h : b9.testBit 6 with
            | false => rfl
            | true => exact absurd (hI.o6 h) (by rw [hbi]; decide)
          have hbx : Boxed V9 (n0 + 1 + 1 + 1) 46 (.int .i64 lo) := by
            have h := hI.b6
            rw [hb6] at h
            exact h
          refine wpOpIn_step rfl (fun K hK => ?_)
          refine Eq.mpr (if_pos (by rfl)) ?_
          have hcc := hbx.cell
          clear hb6 hbi
          go_simp
          exact hK _ _ ⟨_, rfl, hI.plain (by decide) (by decide) rfl⟩
        · have e11 : a1.tmps[11]?.getD undef = (.int .i64 z) := (FD.kept 11 (by kernel_rfl)).trans rfl
          refine wpOpIn_step rfl (fun K hK => ?_)
          refine Eq.mpr (if_pos (by rfl)) ?_
          clear hbi
          go_simp
          exact hK _ _ ⟨_, rfl, hI.plain (by decide) (by decide) rfl⟩
        · have e36 : a1.tmps[36]?.getD undef = (.int .i64 lo) := (FD.dep 0 36 (by kernel_rfl) rfl).trans (hI.vs 0 (FD.bits 0 (by kernel_rfl)))
          have e37 : a1.tmps[37]?.getD undef = (.int .i64 z) := (FD.dep 1 37 (by kernel_rfl) rfl).trans (hI.vs 1 (FD.bits 1 (by kernel_rfl)))
          refine wpOpIn_step rfl (fun K hK => ?_)
          refine Eq.mpr (if_pos (by rfl)) ?_
          clear hbi
          go_simp
          exact hK _ _ ⟨_, rfl, hI.plain (by decide) (by decide) rfl⟩
        · have e7 : a1.tmps[7]?.getD undef = (.pointer (some ⟨n0 + 1 + 1 + 1 + 1, 0, none⟩)) := (FD.kept 7 (by kernel_rfl)).trans rfl
          have hb7 : b9.testBit 7 = false := by
            cases h : b9.testBit 7 with
            | false => rfl
            | true => exact absurd (hI.o7 h) (by rw [hbi]; decide)
          have hbx : Boxed V9 (n0 + 1 + 1 + 1 + 1) 46 (.int .i64 hi) := by
            have h := hI.b7
            rw [hb7] at h
            exact h
          refine wpOpIn_step rfl (fun K hK => ?_)
          refine Eq.mpr (if_pos (by rfl)) ?_
          have hcc := hbx.cell
          clear hb7 hbi
          go_simp
          exact hK _ _ ⟨_, rfl, hI.plain (by decide) (by decide) rfl⟩
        · have e11 : a1.tmps[11]?.getD undef = (.int .i64 z) := (FD.kept 11 (by kernel_rfl)).trans rfl
          refine wpOpIn_step rfl (fun K hK => ?_)
          refine Eq.mpr (if_pos (by rfl)) ?_
          clear hbi
          go_simp
          exact hK _ _ ⟨_, rfl, hI.plain (by decide) (by decide) rfl⟩
        · have e39 : a1.tmps[39]?.getD undef = (.int .i64 hi) := (FD.dep 3 39 (by kernel_rfl) rfl).trans (hI.vs 3 (FD.bits 3 (by kernel_rfl)))
          have e40 : a1.tmps[40]?.getD undef = (.int .i64 z) := (FD.dep 4 40 (by kernel_rfl) rfl).trans (hI.vs 4 (FD.bits 4 (by kernel_rfl)))
          refine wpOpIn_step rfl (fun K hK => ?_)
          refine Eq.mpr (if_pos (by rfl)) ?_
          clear hbi
          go_simp
          exact hK _ _ ⟨_, rfl, hI.plain (by decide) (by decide) rfl⟩
        · have e6 : a1.tmps[6]?.getD undef = (.pointer (some ⟨n0 + 1 + 1 + 1, 0, none⟩)) := (FD.kept 6 (by kernel_rfl)).trans rfl
          have e38 : a1.tmps[38]?.getD undef = (.int .i64 lo2) := (FD.dep 2 38 (by kernel_rfl) rfl).trans (hI.vs 2 (FD.bits 2 (by kernel_rfl)))
          have hbx : Boxed V9 (n0 + 1 + 1 + 1) 46 (.int .i64 lo) := by
            have h := hI.b6
            rw [hbi] at h
            exact h
          refine wpOpIn_step rfl (fun K hK => ?_)
          refine Eq.mpr (if_pos (by rfl)) ?_
          have hcc := hbx.cell
          have hfc := hbx.frozen
          clear hbi
          go_simp
          exact hK _ _ ⟨undef, rfl, ⟨hI.e.set (by omega) (by omega) _, vals_put hI.vs rfl, by rw [bit_or_eq]; exact Boxed.set _ hbx, by rw [bit_or_ne (by decide)]; exact boxed_far hI.b7 (by show n0 + 1 + 1 + 1 + 1 ≠ n0 + 1 + 1 + 1; omega) _, fun _ => bit_up (FD.bits 0 (by kernel_rfl)), fun hb => bit_up (hI.o7 (by rwa [bit_or_ne (by decide)] at hb))⟩⟩
        · have e7 : a1.tmps[7]?.getD undef = (.pointer (some ⟨n0 + 1 + 1 + 1 + 1, 0, none⟩)) := (FD.kept 7 (by kernel_rfl)).trans rfl
          have e41 : a1.tmps[41]?.getD undef = (.int .i64 hi2) := (FD.dep 5 41 (by kernel_rfl) rfl).trans (hI.vs 5 (FD.bits 5 (by kernel_rfl)))
          have hbx : Boxed V9 (n0 + 1 + 1 + 1 + 1) 46 (.int .i64 hi) := by
            have h := hI.b7
            rw [hbi] at h
            exact h
          refine wpOpIn_step rfl (fun K hK => ?_)
          refine Eq.mpr (if_pos (by rfl)) ?_
          have hcc := hbx.cell
          have hfc := hbx.frozen
          clear hbi
          go_simp
          exact hK _ _ ⟨undef, rfl, ⟨hI.e.set (by omega) (by omega) _, vals_put hI.vs rfl, by rw [bit_or_ne (by decide)]; exact boxed_far hI.b6 (by show n0 + 1 + 1 + 1 ≠ n0 + 1 + 1 + 1 + 1; omega) _, by rw [bit_or_eq]; exact Boxed.set _ hbx, fun hb => bit_up (hI.o6 (by rwa [bit_or_ne (by decide)] at hb)), fun _ => bit_up (FD.bits 3 (by kernel_rfl))⟩⟩
      case fin =>
        intro v V3 hI
        have h6 : Boxed V3 (n0 + 1 + 1 + 1) 46 (.int .i64 lo2) := by
          have h := hI.b6
          rwa [if_pos (by kernel_rfl)] at h
        have h7' : Boxed V3 (n0 + 1 + 1 + 1 + 1) 46 (.int .i64 hi2) := by
          have h := hI.b7
          rwa [if_pos (by kernel_rfl)] at h
        exact ⟨hI.e.ko.from _, hI.e.kp, ⟨hI.e.ba, hI.e.bb, ⟨lo2, hi2, h6, h7', HQ2⟩, hI.e.bl, hI.e.big⟩⟩
  case done =>
    rintro D ys W hD rfl ⟨h1, h2, ⟨lo, hi, h3, h4, HQ⟩, h6, h7⟩ hK
    have hE : LeE w n0 Bs a b W W := ⟨h1, h2, h6, h7, KeepsOthers.refl _, Nat.le_refl _, rfl⟩
    gi_wp2_with fail
    refine wpIn_region_gen follows_mixedB [some 42, some 43, none, none, some 8] (by kernel_rfl) (Rg10 (LeE w n0 Bs a b W) (fun i => match i with | 0 => .int .i64 lo | 1 => .int .i64 hi | 4 => .int .i64 0 | _ => undef) (n0 + 1 + 1 + 1) (n0 + 1 + 1 + 1 + 1) 46 (.int .i64 lo) (.int .i64 hi)) ?start ?step ?fin
    case start => exact ⟨hE.below ((Below.refl _ _).drew) (by omega), fun j h => by simp at h, h3, h4⟩
    case step =>
      intro i hii a1 V9 b9 v hI hbi FD
      have hii : i < 5 := hii
      have e : i = 0 ∨ i = 1 ∨ i = 2 ∨ i = 3 ∨ i = 4 := by omega
      clear hii h3 h4 hbi
      have hc6 := hI.b6.cell
      have hf6 := hI.b6.frozen
      have hc7 := hI.b7.cell
      have hf7 := hI.b7.frozen
      rcases e with rfl | rfl | rfl | rfl | rfl
      · have e6 : a1.tmps[6]?.getD undef = (.pointer (some ⟨n0 + 1 + 1 + 1, 0, none⟩)) := (FD.kept 6 (by kernel_rfl)).trans rfl
        refine wpOpIn_step rfl (fun K hK => ?_)
        refine Eq.mpr (if_pos (by rfl)) ?_
        go_simp
        exact hK _ _ ⟨_, rfl, ⟨hI.e, vals_put hI.vs rfl, hI.b6, hI.b7⟩⟩
      · have e7 : a1.tmps[7]?.getD undef = (.pointer (some ⟨n0 + 1 + 1 + 1 + 1, 0, none⟩)) := (FD.kept 7 (by kernel_rfl)).trans rfl
        refine wpOpIn_step rfl (fun K hK => ?_)
        refine Eq.mpr (if_pos (by rfl)) ?_
        go_simp
        exact hK _ _ ⟨_, rfl, ⟨hI.e, vals_put hI.vs rfl, hI.b6, hI.b7⟩⟩
      · have e6 : a1.tmps[6]?.getD undef = (.pointer (some ⟨n0 + 1 + 1 + 1, 0, none⟩)) := (FD.kept 6 (by kernel_rfl)).trans rfl
        have e42 : a1.tmps[42]?.getD undef = (.int .i64 lo) := (FD.dep 0 42 (by kernel_rfl) rfl).trans (hI.vs 0 (FD.bits 0 (by kernel_rfl)))
        refine wpOpIn_step rfl (fun K hK => ?_)
        refine Eq.mpr (if_pos (by rfl)) ?_
        go_simp
        exact hK _ _ ⟨undef, rfl, ⟨hI.e.set (by omega) (by omega) _, vals_put hI.vs rfl, Boxed.set _ hI.b6, boxed_far hI.b7 (by show n0 + 1 + 1 + 1 + 1 ≠ n0 + 1 + 1 + 1; omega) _⟩⟩
      · have e7 : a1.tmps[7]?.getD undef = (.pointer (some ⟨n0 + 1 + 1 + 1 + 1, 0, none⟩)) := (FD.kept 7 (by kernel_rfl)).trans rfl
        have e43 : a1.tmps[43]?.getD undef = (.int .i64 hi) := (FD.dep 1 43 (by kernel_rfl) rfl).trans (hI.vs 1 (FD.bits 1 (by kernel_rfl)))
        refine wpOpIn_step rfl (fun K hK => ?_)
        refine Eq.mpr (if_pos (by rfl)) ?_
        go_simp
        exact hK _ _ ⟨undef, rfl, ⟨hI.e.set (by omega) (by omega) _, vals_put hI.vs rfl, boxed_far hI.b6 (by show n0 + 1 + 1 + 1 ≠ n0 + 1 + 1 + 1 + 1; omega) _, Boxed.set _ hI.b7⟩⟩
      · refine wpOpIn_step rfl (fun K hK => ?_)
        refine Eq.mpr (if_pos (by rfl)) ?_
        go_simp
        exact hK _ _ ⟨_, rfl, ⟨hI.e, vals_put hI.vs rfl, hI.b6, hI.b7⟩⟩
    case fin =>
      intro v V3 hI
      have hv0 := hI.vs 4 (by kernel_rfl)
      simp only [finD, List.set_cons_succ, List.set_cons_zero, hv0]
      have hK3 : V3.heap[D]? = some (.deferred (some [])) := hI.e.ko.same D _ hK rfl
      gi_wp2_with fail
      have q6 : ∀ o, (V3.putObj D o).cell? ⟨n0 + 1 + 1 + 1, 0, none⟩ = some (.int .i64 lo) := fun o => (World.cell?_of_block (w := V3) (World.putObj_heap_other (by show n0 + 1 + 1 + 1 ≠ D; omega))).trans hI.b6.cell
      have q7 : ∀ o, (V3.putObj D o).cell? ⟨n0 + 1 + 1 + 1 + 1, 0, none⟩ = some (.int .i64 hi) := fun o => (World.cell?_of_block (w := V3) (World.putObj_heap_other (by show n0 + 1 + 1 + 1 + 1 ≠ D; omega))).trans hI.b7.cell
      refine ⟨by simp, .inl ⟨_, _, rfl, run_takeDeferred hK3, ?_⟩⟩
      refine ⟨_, by simp [results, Tryd.results20, go_sem, q6, q7], lo, hi, rfl, Lib.hid (by rw [HV.out]; exact HQ.out), ?_⟩
      exact hI.e.bl.trans (belowK_b (n₀ := n0) (w := w) (by omega) V3 D _ _ (by omega) hK3 rfl rfl)
  case stop =>
    rintro D c pre W _ _ h _
    exact h.elim
/-- Least of valid houses: what it says lies around the verdict. -/
theorem leastS_any (s0 s1 s2 s3 s4 s5 s6 s7 s8 s9 s10 s11 : Int) (HC : Hid (chkF [s0, s1, s2, s3, s4, s5, s6, s7, s8, s9, s10, s11] = 0)) (a b : Int) (ha : Hou a) (hb : Hou b) (HAB : Hid ((a == b) = false)) (w : World) (hw6 : 6 ≤ w.heap.size) :
    Calls Tryd.prog 20 #[.agg #[.int .i64 s0, .int .i64 s1, .int .i64 s2, .int .i64 s3, .int .i64 s4, .int .i64 s5, .int .i64 s6, .int .i64 s7, .int .i64 s8, .int .i64 s9, .int .i64 s10, .int .i64 s11], .int .i64 a, .int .i64 b] w fun e w' => ∃ lo hi : Int, e = .returned (.tuple #[.int .i64 lo, .int .i64 hi, .int .i64 0]) ∧ Hid (1 ≤ lo ∧ lo ≤ jdg [s0, s1, s2, s3, s4, s5, s6, s7, s8, s9, s10, s11] a b ∧ jdg [s0, s1, s2, s3, s4, s5, s6, s7, s8, s9, s10, s11] a b ≤ hi ∧ hi ≤ 4) ∧ Below w.heap.size w w' :=
  callsIn_wide.1 (least_in s0 s1 s2 s3 s4 s5 s6 s7 s8 s9 s10 s11 HC a b ha hb HAB w hw6)
end Go.Proofs.YtdnccdobnhbpeaaDoor

