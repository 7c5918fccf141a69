/-
  Package hexagram: what operations reach, walked.
-/
import Derived.Test.YtojlopfjhhiilaaGreatDoorHxS
namespace Go.Proofs.YtojlopfjhhiilaaGreatDoor
open Go Go.RowKit Go.Shelf Go.Maps
set_option linter.unusedVariables false
attribute [local go_sem] Oper.semAt_some

set_option maxRecDepth 100000 in
set_option maxHeartbeats 4000000 in
theorem reached_in (set first : Int) (h0s : 0 ≤ set) (h15 : set ≤ 15) (hf : Hex first) (w : World) (hs : Src w) :
    CallsIn Fence.wide 6 Tryz.prog 15 #[.int .i64 first, .int .i64 set, .func (.func 16) #[] #[]] w fun e W' => ∃ v, e = .returned v ∧ W'.ownsRow w.heap.size 3 1 v (reachTo set first 64).length ((reachTo set first 64).map (Value.int .i64)) ∧ Below w.heap.size w W' := by
  obtain ⟨i0, hi, hz0, hz1, hz2⟩ := info_parts info_int
  have HF := Lib.hid hf
  obtain ⟨f0, f1⟩ := hf
  obtain ⟨RR, hRR⟩ : ∃ RR, reachTo set first 64 = RR := ⟨_, rfl⟩
  rw [hRR]
  have HRR := Lib.hid hRR
  clear hRR
  have hmm := @run_makeMap Tryz.prog
  refine callsIn_of_wp_marks Tryz.func15 rfl trivial ?_ rfl
  simp only [Tryz.ntmps15, List.size_toArray, List.length_cons, List.length_nil, Nat.reduceAdd, Nat.reduceSub, Array.replicate_succ, Array.replicate_zero, List.push_toArray, List.append_toArray, List.nil_append, List.cons_append]
  have hm0 : (((w.alloc (.cells #[.func (.func 16) #[] #[]] 44)).alloc (.cells #[.int .i64 first] 3)).alloc (.map #[] 0)).ownsMap Tryz.prog 3 (plainElem (H := Value) Tryz.prog 4) (w.heap.size + 1 + 1) 0 (.map []) := by
    have := World.ownsMap_made (H := Value) ((w.alloc (.cells #[.func (.func 16) #[] #[]] 44)).alloc (.cells #[.int .i64 first] 3)) Tryz.prog 3 (plainElem (H := Value) Tryz.prog 4)
    simpa using this
  gi_wp2_with (refine wpListIn_insert_own _ rfl (.tmp 14) (.tmp 15) (.const (.bool true)) 69 rfl 3 4 keyedI Tryz.underlying69 (plainElem (H := Value) Tryz.prog 4) (w.heap.size + 1 + 1) 0 (.map []) rfl hm0 (by decide) (.int .i64 first) (.bool true) (.int .i64 first) rfl rfl (Maps.keyOf_int_mk Tryz.underlying3 (WalkArith.wf_i64 (by omega))) (.lit (.bool true)) [] (plainElem_bool Tryz.underlying4 true) ?_; intro w1 hown1 hgrow1)
  have hz1w : w.heap.size + 3 ≤ w1.heap.size := by have := hgrow1.size; simp at this; omega
  have b5 := (((Boxed.new w 44 (.func (.func 16) #[] #[])).alloc (.cells #[.int .i64 first] 3)).alloc (.map #[] 0)).kept hgrow1 (by simp; omega)
  have hrow : Boxed w1 (w.heap.size + 1) 3 (.int .i64 first) := by
    have := Boxed.new (w.alloc (.cells #[.func (.func 16) #[] #[]] 44)) 3 (.int .i64 first)
    rw [World.size_alloc] at this
    exact (this.alloc (.map #[] 0)).kept hgrow1 (by simp)
  have hb1 : Below w.heap.size w w1 := ((((Below.refl _ w).alloc (Nat.le_refl _) _).alloc (by simp) _).alloc (by simp; omega) _).grown hgrow1 (by simp; omega) (fun k e => by cases e; omega)
  have own0 : w1.ownsRow w.heap.size 3 1 (.slice (some ⟨w.heap.size + 1, 0, none⟩) 1 1) [first].length ([first].map (Value.int .i64)) := ⟨rfl, .inr ⟨w.heap.size + 1, 1, #[.int .i64 first], rfl, by omega, hrow, Nat.le_refl 1, by decide, rfl, rfl⟩⟩
  have b7 := (Boxed.new w1 22 (.slice (some ⟨w.heap.size + 1, 0, none⟩) 1 1)).alloc (.cells #[.map (some (w.heap.size + 1 + 1))] 69)
  have b8 := Boxed.new (w1.alloc (.cells #[.slice (some ⟨w.heap.size + 1, 0, none⟩) 1 1] 22)) 69 (.map (some (w.heap.size + 1 + 1)))
  rw [World.size_alloc] at b8
  have st0 : St w (.func (.func 16) #[] #[]) w.heap.size w1.heap.size (w1.heap.size + 1) (w.heap.size + 1 + 1) [] [] [first] [first] ((w1.alloc (.cells #[.slice (some ⟨w.heap.size + 1, 0, none⟩) 1 1] 22)).alloc (.cells #[.map (some (w.heap.size + 1 + 1))] 69)) :=
    ⟨(b5.alloc _).alloc _, ⟨_, b7, ((own0.alloc _).alloc _), (fun p hp => by cases hp)⟩, b8, (hown1.alloc _).alloc _, (fun p hp => by cases hp), (fun D hD => by cases hD), (hb1.alloc hb1.size _).alloc (by simp; omega) _⟩
  have st1 := st0.box 0
  have hsz0 : ((w1.alloc (.cells #[.slice (some ⟨w.heap.size + 1, 0, none⟩) 1 1] 22)).alloc (.cells #[.map (some (w.heap.size + 1 + 1))] 69)).heap.size = w1.heap.size + 1 + 1 := by simp
  rw [hsz0] at st1
  have ST1 := Lib.hid st1
  clear st0 st1 b5 b7 b8 own0 hrow hm0 hown1 hgrow1 hb1 hsz0 hmm
  refine wpIn_loop (fun a W => ∃ (k Bk : Nat) (ds : List Nat) (u17 u18 u19 u20 u21 u22 u23 u24 u41 : Value), a = { tmps := #[.int .i64 first, .int .i64 set, .func (.func 16) #[] #[], undef, undef, .pointer (some ⟨w.heap.size, 0, none⟩), .slice none 0 0, .pointer (some ⟨w1.heap.size, 0, none⟩), .pointer (some ⟨w1.heap.size + 1, 0, none⟩), .pointer (some ⟨Bk, 0, none⟩), undef, undef, .int .i64 first, .slice (some ⟨w.heap.size + 1, 0, none⟩) 1 1, .map (some (w.heap.size + 1 + 1)), .int .i64 first, .map (some (w.heap.size + 1 + 1)), u17, u18, u19, u20, u21, u22, u23, u24, undef, undef, undef, undef, undef, undef, undef, undef, undef, undef, undef, undef, undef, undef, undef, undef, u41, undef], defers := ds.map fun D => { target := .collected D, args := #[] } } ∧ Hid (St w (.func (.func 16) #[] #[]) w.heap.size w1.heap.size (w1.heap.size + 1) (w.heap.size + 1 + 1) [(Bk, (k : Int))] ds (reachTo set first k) (reachTo set first k) W) ∧ ds.length = k ∧ ds.Nodup ∧ (∀ D ∈ ds, D < W.heap.size) ∧ k ≤ (reachTo set first k).length) (fun a _ => 65 - a.defers.length) ?start ?round
  case start => exact ⟨0, _, [], _, _, _, _, _, _, _, _, _, rfl, ST1, rfl, List.nodup_nil, (fun D hD => by cases hD), by simp [reachTo]⟩
  case round =>
    rintro a W ⟨k, Bk, ds, u17, u18, u19, u20, u21, u22, u23, u24, u41, rfl, HST, hdk, hnd, hds, hkl⟩
    have HX := Lib.hid (reachTo_hexes HF.out k : Hexes (reachTo set first k))
    have hl64 := HX.out.len
    obtain ⟨fs, hfs⟩ : ∃ fs, reachTo set first k = fs := ⟨_, rfl⟩
    have HFS := Lib.hid hfs
    rw [hfs] at HST HX hl64 hkl
    clear hfs
    obtain ⟨v, hv, hrow, hne⟩ := HST.out.b7
    have hcv := hv.cell
    have hck : W.cell? ⟨Bk, 0, none⟩ = some (.int .i64 (k : Int)) := (HST.out.bi (Bk, (k : Int)) (by simp)).cell
    have hbl := HST.out.bl
    obtain ⟨p, c, rfl, hR⟩ := Got.of_owns hrow
    have HND := Lib.hid hnd
    have HDS := Lib.hid hds
    have HDK := Lib.hid hdk
    clear hnd hds hdk hv hne
    by_cases hlt : k < fs.length
    · gi_wp2_with fail
      refine ⟨trivial, ?_⟩
      refine (maps_any set _ _).mono ?_
      rintro e w' ⟨rfl, rfl⟩
      gi_wp2_with fail
      have hXm : nth fs k ∈ fs := nth_mem hlt
      obtain ⟨X, hXe⟩ : ∃ X, nth fs k = X := ⟨_, rfl⟩
      have HXE := Lib.hid hXe
      rw [hXe] at hXm
      have HXX := Lib.hid (HX.out.2 X hXm)
      clear hXe hXm
      have st2 := HST.out.box set
      obtain ⟨W2, hW2⟩ : ∃ W2, W.alloc (.cells #[.int .i64 set] 3) = W2 := ⟨_, rfl⟩
      have hsz2 : W2.heap.size = W.heap.size + 1 := by rw [← hW2]; simp
      have hBs : Boxed W2 W.heap.size 3 (.int .i64 set) := by rw [← hW2]; exact Boxed.new W _ _
      have hB2 : Below w.heap.size w W2 := by rw [← hW2]; exact hbl.alloc hbl.size _
      rw [hW2] at st2 ⊢
      have ST2 := Lib.hid st2
      clear hW2 st2 hR hrow hcv hck
      have hszw := hbl.size
      have hmW : w.heap.size + 1 + 1 < W.heap.size := by obtain ⟨es, clock, hb⟩ := ownsMap_heap HST.out.mp; exact (Array.getElem?_eq_some_iff.1 hb).1
      refine wpIn_rangeFunc_ownH (F := Fence.wide) rfl (by omega) (gf := 56) (lb := #[.pointer (some ⟨W.heap.size, 0, none⟩)]) rfl trivial (enters_of Tryz.func56 (by kernel_rfl) rfl)
        (maps_stops (6 - 1) (by omega) W.heap.size w.heap.size set h0s h15 W2 hBs (by omega) (fun W' h => hs.below (hB2.trans h) (Nat.le_refl _))) keepB_t (keepB_b (by omega)) (Below.refl _ _) (fun _ => rfl)
        (fun pre V => St w (.func (.func 16) #[] #[]) w.heap.size w1.heap.size (w1.heap.size + 1) (w.heap.size + 1 + 1) [(W.heap.size, set), (Bk, (k : Int))] ds (stepF X fs pre) (stepF X fs pre) V)
        (fun _ _ _ => False)
        (fun pre A B row h hg hr => St.own (B := W2.heap.size) (by omega) (fun D hD => by have := HDS.out D hD; omega) (by omega) (stepF X fs pre, stepF X fs pre) A B row h hg hr)
        (fun _ _ _ _ _ h _ _ => h)
        ST2.out
        (fun x a' V => ∃ Bx, Blk V Bx 47 (arr (opL x)) ∧ a' = { tmps := #[.int .i64 first, .int .i64 set, .func (.func 16) #[] #[], undef, undef, .pointer (some ⟨w.heap.size, 0, none⟩), .slice none 0 0, .pointer (some ⟨w1.heap.size, 0, none⟩), .pointer (some ⟨w1.heap.size + 1, 0, none⟩), .pointer (some ⟨Bk, 0, none⟩), .pointer (some ⟨Bx, 0, none⟩), undef, .int .i64 first, .slice (some ⟨w.heap.size + 1, 0, none⟩) 1 1, .map (some (w.heap.size + 1 + 1)), .int .i64 first, .map (some (w.heap.size + 1 + 1)), .int .i64 (k : Int), .slice p fs.length c, .int .i64 (fs.length : Int), .bool true, u21, u22, .int .i64 set, .func (.func 56) #[] #[.pointer (some ⟨W.heap.size, 0, none⟩)], .agg (arr (opL x)), undef, undef, undef, undef, undef, undef, undef, undef, undef, undef, undef, undef, undef, undef, undef, u41, undef], defers := [] })
        (fun x a' s A B row h hg hr => by
          obtain ⟨Bx, h1, h2⟩ := h
          refine ⟨Bx, ?_, h2⟩
          exact (hg.block Bx h1.lt (fun e => by
            obtain ⟨_, o, ho, hc⟩ := hr Bx e.symm
            rw [show A.heap[Bx]? = _ from h1] at ho
            cases ho
            cases hc)).trans h1)
        ?assign ?body ?done ?stop
      case assign =>
        rintro l pre x V K hI hK
        have HN := Lib.hid (Blk.new V 47 (arr (List.replicate 64 0)))
        have hl64 : (opL x).length = 64 := by simp [opL]
        have HI := Lib.hid (show (Tryz.prog.info? 47).map (·.size) = some (arr (opL x)).size by rw [arr_size, hl64]; exact info_map)
        have HO := Lib.hid (show (arr (List.replicate 64 0)).size = (arr (opL x)).size by rw [arr_size, arr_size, hl64]; rfl)
        clear hl64
        have hb : Below V.heap.size V ((V.alloc (.cells (arr (List.replicate 64 0)) 47)).setRow V.heap.size (arr (opL x))) := below_setRow (below1 _ _) (Nat.le_refl _) _
        have hbk := Lib.hid (show Blk ((V.alloc (.cells (arr (List.replicate 64 0)) 47)).setRow V.heap.size (arr (opL x))) V.heap.size 47 (arr (opL x)) from HN.out.row (arr (opL x)))
        have HB := Lib.hid hb
        clear hb
        gi_wp2_with (refine wpListIn_store_row rfl 47 (.tmp 10) (.tmp 25) rfl V.heap.size (arr (opL x)) rfl rfl 47 _ HN.out HI.out HO.out (arr_one _) ?_)
        exact hK _ _ (keepsFrom_below HB.out) ⟨HB.out.mono hI.bl.size, fun v hv => hv.kept (grown_of_below HB.out) (by simp)⟩ (hI.below HB.out) ⟨V.heap.size, hbk.out, rfl⟩
      case body =>
        rintro l pre x a' V hl ⟨r, hr⟩ hSt ⟨Bx, hBx, rfl⟩ hlen
        have HSt := Lib.hid hSt
        have HBx := Lib.hid hBx
        obtain ⟨g1, g2⟩ := stepF_len X fs pre
        obtain ⟨gs, hgs⟩ : ∃ gs, stepF X fs pre = gs := ⟨_, rfl⟩
        have HGS := Lib.hid hgs
        rw [hgs] at HSt g1 g2
        have HG2 := Lib.hid (show nth gs k = X by rw [g2 k hlt]; exact HXE.out)
        have HHX := Lib.hid (hgs ▸ stepF_hexes HXX.out pre HX.out : Hexes gs)
        have hg64 := HHX.out.len
        clear hgs g2 hSt hBx
        obtain ⟨v2, hv2, hrow2, hne2⟩ := HSt.out.b7
        have HR2 := Lib.hid hrow2
        have HV2 := Lib.hid hv2
        have HNE := Lib.hid hne2
        obtain ⟨p2, c2, rfl, hR2⟩ := Got.of_owns hrow2
        obtain ⟨q2, o2, rfl, hcx⟩ := hR2 k (by omega)
        rw [HG2.out] at hcx
        have hc5 := HSt.out.b5.cell
        have hc7 := hv2.cell
        have hc8 := HSt.out.b8.cell
        have hck : V.cell? ⟨Bk, 0, none⟩ = some (.int .i64 (k : Int)) := (HSt.out.bi (Bk, (k : Int)) (by simp)).cell
        clear hv2 hrow2 hne2 hR2
        have hkg : k < gs.length := by omega
        have hmix : Tryz.prog.follows .mixedOrders = true := by kernel_rfl
        obtain ⟨Y, hY⟩ : ∃ Y, nth (opL x) X.toNat = Y := ⟨_, rfl⟩
        have HY := Lib.hid hY
        gi_wp2_with fail
        refine wpIn_cut0 (fun a' w' => a' = { tmps := #[.int .i64 first, .int .i64 set, .func (.func 16) #[] #[], undef, undef, .pointer (some ⟨w.heap.size, 0, none⟩), .slice none 0 0, .pointer (some ⟨w1.heap.size, 0, none⟩), .pointer (some ⟨w1.heap.size + 1, 0, none⟩), .pointer (some ⟨Bk, 0, none⟩), .pointer (some ⟨Bx, 0, none⟩), .int .i64 Y, .int .i64 first, .slice (some ⟨w.heap.size + 1, 0, none⟩) 1 1, .map (some (w.heap.size + 1 + 1)), .int .i64 first, .map (some (w.heap.size + 1 + 1)), .int .i64 (k : Int), .slice p fs.length c, .int .i64 (fs.length : Int), .bool true, u21, u22, .int .i64 set, .func (.func 56) #[] #[.pointer (some ⟨W.heap.size, 0, none⟩)], .agg (arr (opL x)), .func (.func 16) #[] #[], .slice (some ⟨q2, o2, none⟩) gs.length c2, .int .i64 (k : Int), .pointer (some ⟨q2, o2 + k, none⟩), .int .i64 X, .int .i64 Y, undef, undef, undef, undef, undef, undef, undef, undef, undef, u41, undef], defers := [] } ∧ w' = V.drew) ?reg ?rest
        case reg =>
          gi_region_with_o (refine ⟨trivial, ?_⟩; gi_at_call 16; refine (CallsIn.inRound l (callsIn_wide.2 (orbit1_any X HXX.out Bx x V.drew (show Blk V.drew Bx 47 (arr (opL x)) from HBx.out)))).mono ?_; rintro e w' ⟨rfl, rfl⟩; rw [HY.out])
          all_goals exact ⟨rfl, rfl⟩
        case rest =>
          rintro _ _ ⟨rfl, rfl⟩
          have hst : St w (.func (.func 16) #[] #[]) w.heap.size w1.heap.size (w1.heap.size + 1) (w.heap.size + 1 + 1) [(W.heap.size, set), (Bk, (k : Int))] ds gs gs V.drew := ⟨HSt.out.b5, HSt.out.b7, HSt.out.b8, HSt.out.mp, HSt.out.bi, HSt.out.mks, HSt.out.bl.drew⟩
          have hkb : KeepB w.heap.size W.heap.size V V.drew := ⟨(Below.refl _ _).drew, fun v h => h⟩
          have hkf : KeepsFrom W2.heap.size V V.drew := (KeepsOthers.drew V).from _
          clear hcx hck hc5 HSt HV2 HR2 HNE HBx hc7 hc8
          generalize V.drew = V1 at hst hkb hkf ⊢
          have HS1 := Lib.hid hst
          clear hst
          have hc8 := HS1.out.b8.cell
          have hbl1 := HS1.out.bl
          have hYx : Hex Y := by rw [← HY.out]; exact opL_hex x HXX.out
          obtain ⟨y0, y1⟩ := hYx
          have hkey : keyOf Tryz.prog 3 (.int .i64 Y) = some (.int .i64 Y) := Maps.keyOf_int_mk Tryz.underlying3 (WalkArith.wf_i64 (by omega))
          have HK := Lib.hid hkey
          clear hY hkey
          by_cases hmem : Y ∈ gs
          · have HE := Lib.hid (show stepF X fs (pre ++ [x]) = gs by rw [stepF_snoc, HGS.out, HY.out]; unfold addF; rw [if_pos hmem])
            have HM := Lib.hid (show decide (Y ∈ gs) = true by simpa using hmem)
            clear hmem
            gi_wp2_with (gi_at_lookup; refine wpListIn_lookup_own_bool _ rfl _ _ 69 rfl 3 4 keyedI Tryz.underlying69 Tryz.underlying4 (Tryz.zeroValue4 _) (w.heap.size + 1 + 1) gs.length (seenD gs) rfl HS1.out.mp (.int .i64 Y) (.int .i64 Y) rfl HK.out true (by rw [seenD_at, HM.out]) ?_; go_frame)
            exact ⟨hkf, hkb, by show St _ _ _ _ _ _ _ _ (stepF X fs (pre ++ [x])) (stepF X fs (pre ++ [x])) _; rw [HE.out]; exact HS1.out⟩
          · have HE := Lib.hid (show stepF X fs (pre ++ [x]) = gs ++ [Y] by rw [stepF_snoc, HGS.out, HY.out]; unfold addF; rw [if_neg hmem])
            have HM := Lib.hid (show decide (Y ∈ gs) = false by simpa using hmem)
            clear hmem
            gi_wp2_with (first
              | (gi_at_lookup; refine wpListIn_lookup_own_bool _ rfl _ _ 69 rfl 3 4 keyedI Tryz.underlying69 Tryz.underlying4 (Tryz.zeroValue4 _) (w.heap.size + 1 + 1) gs.length (seenD gs) rfl HS1.out.mp (.int .i64 Y) (.int .i64 Y) rfl HK.out false (by rw [seenD_at, HM.out]) ?_; go_frame)
              | (gi_at_mapUpdate; refine wpListIn_mapUpdate_own _ rfl _ _ _ 69 rfl 3 4 keyedI Tryz.underlying69 (plainElem (H := Value) Tryz.prog 4) (w.heap.size + 1 + 1) gs.length (seenD gs) rfl HS1.out.mp (by unfold maxLen; omega) (.int .i64 Y) (.bool true) (.int .i64 Y) rfl rfl HK.out (.lit (.bool true)) [] (plainElem_bool Tryz.underlying4 true) ?_; intro w3 hown3 hgrow3; go_frame; have st3 := HS1.out.put hown3 hgrow3 (by omega); have HST3 := Lib.hid st3; obtain ⟨v3, hv3, hrow3, hne3⟩ := st3.b7; have HNE3 := Lib.hid hne3; have HV3 := Lib.hid hv3; have HROW3 := Lib.hid hrow3; obtain ⟨p3, c3, rfl, -⟩ := Got.of_owns hrow3; have hcv3 := hv3.cell; have hsz3 := st3.bl.size; have HG3 := Lib.hid hgrow3; clear st3 hv3 hrow3 hne3 hown3 hgrow3 hc8)
              | (gi_at_builtin; go_loud ((refine wpListIn_append_own_at _ rfl _ _ 22 rfl w.heap.size 3 i0 (.int .i64 0) 1 8 Tryz.underlying22 hi hz0 hz1 hz2 rfl (by decide) _ gs.length _ rfl (HROW3.out.alloc _) ⟨w3.heap.size, 0, none⟩ 1 1 [.int .i64 Y] rfl rfl (cell_one_new _ _ _) (one_int _) (by unfold maxLen; omega) (by omega) (by simp; omega) ?_; intro v4 w4 hown4 hgrow4 _ hat4; obtain ⟨g4, c4, rfl⟩ := ownsRow_succ hown4; go_frame; obtain ⟨st5, hk5, hb5, hv5, hbb5⟩ := HST3.out.app HV3.out HROW3.out HNE3.out (by omega) hown4 hgrow4 hat4; have hc5 := hv5.cell; have hf5 := hv5.frozen))))
            have hkb3 : KeepB w.heap.size W.heap.size V w3 := ⟨hkb.1.trans ((Below.refl _ V1).grown HG3.out hbl1.size (fun j e => by cases e; omega)), fun u hu => (hkb.2 u hu).kept HG3.out (by simp; omega)⟩
            have hkf3 : KeepsFrom W2.heap.size V w3 := hkf.trans (KeepsFrom.of_grownBy HG3.out (fun j e => by cases e; omega))
            exact ⟨hkf3.trans (hk5.from _), ⟨hkb3.1.trans hbb5, fun u hu => hb5 (W.heap.size, set) (by simp) u (hkb3.2 u hu)⟩, by show St _ _ _ _ _ _ _ _ (stepF X fs (pre ++ [x])) (stepF X fs (pre ++ [x])) _; rw [HE.out]; exact st5⟩
      case done =>
        rintro D ys V hD rfl hSt hK
        have HSt := Lib.hid hSt
        have HFK := Lib.hid (show reachTo set first (k + 1) = stepF X fs (opsTo set 4) by rw [reachTo, HFS.out, if_pos hlt, HXE.out])
        have hck : V.cell? ⟨Bk, 0, none⟩ = some (.int .i64 (k : Int)) := (hSt.bi (Bk, (k : Int)) (by simp)).cell
        have HKD := Lib.hid hK
        have hDV : D < V.heap.size := (Array.getElem?_eq_some_iff.1 hK).1
        clear hSt hK
        gi_wp2
        have hmk : ∀ E ∈ D :: ds, E < V.heap.size := fun E hE => by
          rcases List.mem_cons.1 hE with rfl | hE
          · exact hDV
          · exact (Array.getElem?_eq_some_iff.1 (HSt.out.mks E hE).1).1
        refine ⟨⟨k + 1, V.heap.size, D :: ds, _, _, _, _, _, _, _, _, _, rfl, ?_, by simp [HDK.out], List.nodup_cons.2 ⟨fun hm => by have := HDS.out D hm; omega, HND.out⟩, fun E hE => by have := hmk E hE; simp; omega, by rw [HFK.out]; have := (stepF_len X fs (opsTo set 4)).1; omega⟩, by simp; have := HDK.out; omega⟩
        rw [HFK.out]
        exact ((HSt.out.mark HKD.out (by omega)).box ((k : Int) + 1)).fewer (ib' := [(V.heap.size, ((k + 1 : Nat) : Int))]) (fun q hq => by simp at hq; subst hq; simp)
      case stop =>
        rintro D c pre V _ _ h _
        exact h.elim
    · obtain rfl : k = fs.length := by omega
      have HE := Lib.hid (show RR = fs by
        rw [← HRR.out, ← HFS.out]
        have h1 := reachTo_end (set := set) (first := first) (k := fs.length) (by rw [HFS.out]; exact Nat.le_refl _) (64 - fs.length)
        rwa [show fs.length + (64 - fs.length) = 64 by omega] at h1)
      clear hR
      gi_wp2
      refine leaves_marks w.heap.size (fun W' => W'.ownsRow w.heap.size 3 1 (.slice p fs.length c) fs.length (fs.map (Value.int .i64)) ∧ Below w.heap.size w W') ?_ ?_ ds W HND.out HST.out.mks ⟨hrow, hbl⟩
      · rintro W' D ⟨h1, h2⟩ hD hK
        exact ⟨ownsRow_putObj h1 _ hK rfl, h2.trans (belowK_b (w := w) (Nat.le_refl _) W' D _ _ hD hK rfl rfl)⟩
      · rintro W' ⟨h1, h2⟩
        exact ⟨_, results_tmp rfl _ _ _, _, rfl, by rw [HE.out]; exact h1, h2⟩
end Go.Proofs.YtojlopfjhhiilaaGreatDoor
