/-
  HexagramBack: the walk of the law.
-/
import Derived.Test.YtaibkkcedipdgaaDoorHxBa
import Derived.Test.YtaibkkcedipdgaaDoorHxEq
namespace Go.Proofs.YtaibkkcedipdgaaDoor
open Go Go.RowKit
set_option linter.unusedVariables false

theorem guard_six : Tryd.prog.eqGuardType Tryd.prog.depth 23 = false := by kernel_rfl
theorem info_i1 : (Tryd.prog.info? 3).map (·.size) = some 1 := by kernel_rfl
theorem eq_six {a b : List Int} (ha : a.length = 6) (hb : b.length = 6) (w : World) : (Op.equalIn 10000 23 (.agg (arr a)) (.agg (arr b))).run Tryd.prog w = .ok (decide (a = b)) w :=
  run_equalIn_ints w 9998 23 3 6 Tryd.underlying23 Tryd.underlying3 info_i1 a b ha hb
theorem list_six {l : List Int} (h : l.length = 6) : ∃ a0 a1 a2 a3 a4 a5, l = [a0, a1, a2, a3, a4, a5] := by
  match l, h with
  | [a0, a1, a2, a3, a4, a5], _ => exact ⟨a0, a1, a2, a3, a4, a5, rfl⟩
theorem Blk.rowFar {w : World} {g : Nat} {t : TypeId} {cs : Array Value} {b : Nat} (h : Blk w g t cs) (hb : g ≠ b) (ds : Array Value) : Blk (w.setRow b ds) g t cs := by
  unfold Blk at h ⊢
  simp only [World.setRow]
  rw [Array.getElem?_modify, if_neg (by omega)]
  exact h
theorem Blk.newN {W : World} {n : Nat} (t : TypeId) (cs : Array Value) (h : W.heap.size = n) : Blk (W.alloc (.cells cs t)) n t cs := by subst h; exact Blk.new _ _ _
def ar8 (xs : List Int) : Array Value := (xs.map (Value.int .u8)).toArray
theorem ar8_get {xs : List Int} {k : Nat} (h : k < xs.length) : (ar8 xs)[k]? = some (.int .u8 (nth xs k)) := by simp [ar8, nth_eq h, h]
def ln8 (xs : List Int) (j : Nat) : Int := 6 + nth xs j % 4

set_option maxRecDepth 100000 in
set_option maxHeartbeats 16000000 in
theorem back_law (xs : List Int) (hl : Hid (xs.length = 6)) (hx : Hid (∀ k, k < 6 → 0 ≤ nth xs k ∧ nth xs k ≤ 255)) (x y : Int) (x0 : 0 ≤ x) (x1 : x ≤ 255) (y0 : 0 ≤ y) (y1 : y ≤ 255) (w : World) (hs : Src w) (hf : Fst w) :
    Calls Tryd.prog 3 #[.agg (ar8 xs), .int .u8 x, .int .u8 y] w fun e w' => e = .returned (.bool true) ∧ Below w.heap.size w w' := by
  obtain ⟨h, hh⟩ : ∃ h, x % 64 = h := ⟨_, rfl⟩
  have hH : Hex h := by subst hh; constructor <;> omega
  obtain ⟨g, hg⟩ : ∃ g, y % 64 = g := ⟨_, rfl⟩
  have hG : Hex g := by subst hg; constructor <;> omega
  have G6 := guard_six
  have HM0 := Lib.hid (show Blk ((w.alloc (.cells (ar8 xs) 22)).alloc (.cells (arr (List.replicate 6 0)) 23)) w.heap.size 22 (ar8 xs) from (Blk.new w _ _).alloc _)
  have HX0 := Lib.hid (show Blk ((w.alloc (.cells (ar8 xs) 22)).alloc (.cells (arr (List.replicate 6 0)) 23)) (w.heap.size + 1) 23 (arr (List.replicate 6 0)) from Blk.newN _ _ (by simp))
  have hb0 : Below w.heap.size w ((w.alloc (.cells (ar8 xs) 22)).alloc (.cells (arr (List.replicate 6 0)) 23)) := ((Below.refl _ _).alloc (Nat.le_refl _) _).alloc (by simp) _
  go_enter Tryd.func3, Tryd.ntmps3
  go_wp2_with fail
  obtain ⟨W, hW⟩ : ∃ W, (w.alloc (.cells (ar8 xs) 22)).alloc (.cells (arr (List.replicate 6 0)) 23) = W := ⟨_, rfl⟩
  rw [hW] at HM0 HX0 hb0
  have e0 : (w.alloc (.cells (ar8 xs) 22)).alloc (.cells #[.int .i64 0, .int .i64 0, .int .i64 0, .int .i64 0, .int .i64 0, .int .i64 0] 23) = W := hW
  rw [e0]
  clear hW e0
  go_loopw [8] (fun i wr => ∃ k : Nat, k ≤ 6 ∧ i = .int .i64 k ∧ Hid (Blk wr (w.heap.size + 1) 23 (arr (fillTo (ln8 xs) 6 k))) ∧ Below (w.heap.size + 1) W wr) (fun i _ => 6 - (intOf i).toNat)
  case atStart => exact ⟨0, by omega, rfl, by rw [fillTo_zero]; exact HX0, Below.refl _ _⟩
  case round =>
    obtain ⟨k, hk, rfl, HXk, hB⟩ := hrel
    have Hl := Lib.hid (fillTo_length (ln8 xs) 6 k)
    by_cases hlt : k < 6
    · have hc5 : wr.cell? ⟨w.heap.size + 1, k, none⟩ = some (.int .i64 (nth (fillTo (ln8 xs) 6 k) k)) := by rw [HXk.out.cell k, arr_get (by have := Hl.out; omega)]
      have hf5 := HXk.out.frozen k
      have hc0 := (HM0.out.below hB (by omega)).cell k
      rw [ar8_get (by rw [hl.out]; exact hlt)] at hc0
      obtain ⟨b0, b1⟩ := hx.out k hlt
      have HE := Lib.hid (show ln8 xs k = 6 + nth xs k % 4 from rfl)
      go_wp2_with fail
      go_roundw
      case rel => exact ⟨k + 1, by omega, by go_num, by have := HXk.out.set_ k (.int .i64 (ln8 xs k)); rw [arr_set, fillTo_succ (ln8 xs) 6 k] at this; exact this, hB.setCell (by simp) _⟩
      case measure => simp [intOf]; omega
    · obtain rfl : k = 6 := by omega
      have hm : ∀ j, j < 6 → lineK (nth (fillTo (ln8 xs) 6 6) j) := fun j hj => by
        rw [fillTo_all, nth_eq (by simpa using hj)]
        simp only [List.getElem_map, List.getElem_range]
        have := hx.out j hj
        unfold lineK ln8
        omega
      have C1 := fun m0 m1 m2 m3 m4 m5 W => castF_any m0 m1 m2 m3 m4 m5 W
      obtain ⟨m, em⟩ : ∃ m, fillTo (ln8 xs) 6 6 = m := ⟨_, rfl⟩
      rw [em] at HXk Hl hm
      clear em
      obtain ⟨k1, k2, k3⟩ := back_lines Hl.out hm
      obtain ⟨m0, m1, m2, m3, m4, m5, rfl⟩ := list_six Hl.out
      replace C1 := fun W => castF_any m0 m1 m2 m3 m4 m5 W
      have D1 := fun W => lines_any (castF [m0, m1, m2, m3, m4, m5]) (castS [m0, m1, m2, m3, m4, m5]) W
      rw [k2, k3] at D1
      rw [k1] at C1
      obtain ⟨a, ha⟩ : ∃ n, castF [m0, m1, m2, m3, m4, m5] = n := ⟨_, rfl⟩
      obtain ⟨b, hb⟩ : ∃ n, castS [m0, m1, m2, m3, m4, m5] = n := ⟨_, rfl⟩
      rw [ha, hb] at C1 D1
      clear ha hb k1 k2 k3 hm
      have hb1 := hb0.trans (hB.mono (by omega))
      clear hB hb0 HM0 HX0 hx
      go_wp2_with (first | (refine wpList_load_row rfl 23 (.tmp 7) rfl (w.heap.size + 1) rfl 23 (arr [m0, m1, m2, m3, m4, m5]) (0, 0) _ HXk.out Tryd.underlying23 rfl info_six ?_) | fail)
      refine (C1 _).mono ?_
      rintro e w2 ⟨rfl, hb2⟩
      have HM := Lib.hid (HXk.out.below hb2 HXk.out.lt)
      have hb3 := tr hb1 hb2
      clear hb1 hb2 HXk C1
      go_wp2_with fail
      refine (D1 _).mono ?_
      rintro e w3 ⟨rfl, hb4⟩
      have HM3 := Lib.hid (HM.out.below hb4 HM.out.lt)
      have hb5 := tr hb3 hb4
      clear hb3 hb4 HM D1
      have HN := Lib.hid (Blk.new w3 23 (arr (List.replicate 6 0)))
      have hb6 : Below w.heap.size w ((w3.alloc (.cells (arr (List.replicate 6 0)) 23)).setRow w3.heap.size (arr [m0, m1, m2, m3, m4, m5])) := below_setRow (hb5.alloc hb5.size _) hb5.size _
      have HA := Lib.hid (show Blk ((w3.alloc (.cells (arr (List.replicate 6 0)) 23)).setRow w3.heap.size (arr [m0, m1, m2, m3, m4, m5])) (w.heap.size + 1) 23 (arr [m0, m1, m2, m3, m4, m5]) from (HM3.out.alloc _).rowFar (by have := HM3.out.lt; omega) _)
      have HK := Lib.hid (show Blk ((w3.alloc (.cells (arr (List.replicate 6 0)) 23)).setRow w3.heap.size (arr [m0, m1, m2, m3, m4, m5])) w3.heap.size 23 (arr [m0, m1, m2, m3, m4, m5]) from HN.out.row _)
      have N : ∀ wx : World, (Op.equalIn 10000 23 (.agg #[.int .i64 m0, .int .i64 m1, .int .i64 m2, .int .i64 m3, .int .i64 m4, .int .i64 m5]) (.agg #[.int .i64 m0, .int .i64 m1, .int .i64 m2, .int .i64 m3, .int .i64 m4, .int .i64 m5])).run Tryd.prog wx = .ok true wx := fun wx => by
        have := eq_six (a := [m0, m1, m2, m3, m4, m5]) (b := [m0, m1, m2, m3, m4, m5]) rfl rfl wx
        rw [decide_eq_true rfl] at this
        exact this
      obtain ⟨W5, hW⟩ : ∃ W, (w3.alloc (.cells (arr (List.replicate 6 0)) 23)).setRow w3.heap.size (arr [m0, m1, m2, m3, m4, m5]) = W := ⟨_, rfl⟩
      rw [hW] at hb6 HA HK
      have e0 : (w3.alloc (.cells #[.int .i64 0, .int .i64 0, .int .i64 0, .int .i64 0, .int .i64 0, .int .i64 0] 23)).setRow w3.heap.size (arr [m0, m1, m2, m3, m4, m5]) = W5 := hW
      have ka0 : W5.cell? ⟨w.heap.size + 1, 0, none⟩ = some (.int .i64 m0) := HA.out.cell 0
      have kb0 : W5.cell? ⟨w3.heap.size, 0, none⟩ = some (.int .i64 m0) := HK.out.cell 0
      have ka1 : W5.cell? ⟨w.heap.size + 1, 1, none⟩ = some (.int .i64 m1) := HA.out.cell 1
      have kb1 : W5.cell? ⟨w3.heap.size, 1, none⟩ = some (.int .i64 m1) := HK.out.cell 1
      have ka2 : W5.cell? ⟨w.heap.size + 1, 2, none⟩ = some (.int .i64 m2) := HA.out.cell 2
      have kb2 : W5.cell? ⟨w3.heap.size, 2, none⟩ = some (.int .i64 m2) := HK.out.cell 2
      have ka3 : W5.cell? ⟨w.heap.size + 1, 3, none⟩ = some (.int .i64 m3) := HA.out.cell 3
      have kb3 : W5.cell? ⟨w3.heap.size, 3, none⟩ = some (.int .i64 m3) := HK.out.cell 3
      have ka4 : W5.cell? ⟨w.heap.size + 1, 4, none⟩ = some (.int .i64 m4) := HA.out.cell 4
      have kb4 : W5.cell? ⟨w3.heap.size, 4, none⟩ = some (.int .i64 m4) := HK.out.cell 4
      have ka5 : W5.cell? ⟨w.heap.size + 1, 5, none⟩ = some (.int .i64 m5) := HA.out.cell 5
      have kb5 : W5.cell? ⟨w3.heap.size, 5, none⟩ = some (.int .i64 m5) := HK.out.cell 5
      clear hb5 HM3 HA HK
      go_wp2_with (first | (refine wpList_store_row rfl 23 (.tmp 12) (.tmp 48) rfl w3.heap.size (arr [m0, m1, m2, m3, m4, m5]) rfl rfl 23 _ HN.out info_six rfl (arr_one _) ?_; first | rw [e0] | rw [hW]) | fail)
      clear ka0 kb0 ka1 kb1 ka2 kb2 ka3 kb3 ka4 kb4 ka5 kb5 N HN hW e0
      have D2 := fun W => lines_any h g W
      obtain ⟨c1, c2, c3⟩ := back_cast hH hG
      obtain ⟨l0, l1, l2, l3, l4, l5, hL⟩ := list_six (linesV_length h g)
      have C2 := fun W => castF_any l0 l1 l2 l3 l4 l5 W
      rw [hL] at c1 c2 c3 D2
      rw [c1, c2, c3] at C2
      rw [chkH_hex2 hH hG] at D2
      clear c1 c2 c3 hL
      refine (D2 _).mono ?_
      rintro e w6 ⟨rfl, hb7⟩
      have hb8 := tr hb6 hb7
      clear hb6 hb7 D2
      have HN := Lib.hid (Blk.new w6 23 (arr (List.replicate 6 0)))
      have HK := Lib.hid (show Blk ((w6.alloc (.cells (arr (List.replicate 6 0)) 23)).setRow w6.heap.size (arr [l0, l1, l2, l3, l4, l5])) w6.heap.size 23 (arr [l0, l1, l2, l3, l4, l5]) from HN.out.row _)
      have hb9 : Below w.heap.size w ((w6.alloc (.cells (arr (List.replicate 6 0)) 23)).setRow w6.heap.size (arr [l0, l1, l2, l3, l4, l5])) := below_setRow (hb8.alloc hb8.size _) hb8.size _
      obtain ⟨W7, hW⟩ : ∃ W, (w6.alloc (.cells (arr (List.replicate 6 0)) 23)).setRow w6.heap.size (arr [l0, l1, l2, l3, l4, l5]) = W := ⟨_, rfl⟩
      rw [hW] at hb9 HK
      have e0 : (w6.alloc (.cells #[.int .i64 0, .int .i64 0, .int .i64 0, .int .i64 0, .int .i64 0, .int .i64 0] 23)).setRow w6.heap.size (arr [l0, l1, l2, l3, l4, l5]) = W7 := hW
      go_wp2_with (first | (refine wpList_store_row rfl 23 (.tmp 16) (.tmp 71) rfl w6.heap.size (arr [l0, l1, l2, l3, l4, l5]) rfl rfl 23 _ HN.out info_six rfl (arr_one _) ?_; first | rw [e0] | rw [hW]) | (refine wpList_load_row rfl 23 (.tmp 16) rfl w6.heap.size rfl 23 (arr [l0, l1, l2, l3, l4, l5]) (0, 0) _ HK.out Tryd.underlying23 rfl info_six ?_) | fail)
      refine (C2 _).mono ?_
      rintro e w8 ⟨rfl, hb10⟩
      have hb11 := tr hb9 hb10
      clear hb8 hb9 hb10 HN HK hW e0 C2
      go_wp2_with fail
      go_loopw [19] (fun i wr => ∃ t : Nat, t ≤ 4 ∧ i = .int .i64 t ∧ Below w8.heap.size w8 wr) (fun i _ => 4 - (intOf i).toNat)
      case atStart => exact ⟨0, by omega, rfl, Below.refl _ _⟩
      case round =>
        obtain ⟨t, ht, rfl, hBt⟩ := hrel
        have hb12 := tr hb11 hBt
        have et : t = 0 ∨ t = 1 ∨ t = 2 ∨ t = 3 ∨ t = 4 := by omega
        rcases et with rfl | rfl | rfl | rfl | rfl
        · go_wp2_with fail
          go_loopw [20] (fun j wi => ∃ u : Nat, u ≤ 1 ∧ j = .int .i64 u ∧ Below w8.heap.size w8 wi) (fun j _ => 1 - (intOf j).toNat)
          case atStart => exact ⟨0, by omega, rfl, hBt⟩
          case round =>
            obtain ⟨u, hu, rfl, hBi⟩ := hrel
            have eu : u = 0 ∨ u = 1 := by omega
            rcases eu with rfl | rfl
            · obtain ⟨P1, P2, P3, P4⟩ := ops_ok hH 0 (by omega) 0 (by omega)
              replace P1 : applyE h [0, 0] = 0 := P1
              replace P2 : applyE h [0, 0] = 0 := P2
              replace P3 : applyR h [0, 0] = applyR h [0, 0] := P3 (by omega)
              have C1 := fun (W : World) (p : Option Addr) (h1 : Reads W p [0, 0]) (h2 : Src W) => applyF_any h p [0, 0] 2 (by simp) W h1 h2
              have C2 := fun (W : World) (p : Option Addr) (h1 : Reads W p [0, 0]) (h2 : Src W) => applyF_any h p [0, 0] 2 (by simp) W h1 h2
              rw [P1] at C1
              rw [P2, ← P3] at C2
              replace P4 : applyR h [0, 0] = h := P4 rfl (by omega)
              rw [P4] at C1 C2
              clear P1 P2 P3 P4
              go_wp2_with fail
              refine (C1 _ _ (reads_new wr _ [0, 0]) (hs.below (tr (tr hb11 hBi) (below1 wr _)) (Nat.le_refl _))).mono ?_
              rintro e v1 ⟨rfl, hv1⟩
              have hv2 := tr hBi (tr (below1 wr (.cells (arr [0, 0]) 29)) hv1)
              clear hv1 C1
              go_wp2_with fail
              refine (C2 _ _ (reads_new v1 _ [0, 0]) (hs.below (tr (tr hb11 hv2) (below1 v1 _)) (Nat.le_refl _))).mono ?_
              rintro e v3 ⟨rfl, hv3⟩
              have hv4 := tr hv2 (tr (below1 v1 (.cells (arr [0, 0]) 29)) hv3)
              clear hv2 hv3 C2
              go_wp2_with fail
              go_roundw
              case rel => first | exact ⟨1, by omega, by go_num, hv4⟩ | ((repeat apply Exists.intro); exact ⟨⟨1, by omega, by go_num, hv4⟩, rfl⟩)
              case measure => simp [intOf]
            · go_wp2_with fail
              go_roundw
              case rel => first | exact ⟨1, by omega, by go_num, hBi⟩ | ((repeat apply Exists.intro); exact ⟨⟨1, by omega, by go_num, hBi⟩, rfl⟩)
              case measure => simp [intOf]
        · go_wp2_with fail
          go_loopw [20] (fun j wi => ∃ u : Nat, u ≤ 2 ∧ j = .int .i64 u ∧ Below w8.heap.size w8 wi) (fun j _ => 2 - (intOf j).toNat)
          case atStart => exact ⟨0, by omega, rfl, hBt⟩
          case round =>
            obtain ⟨u, hu, rfl, hBi⟩ := hrel
            have eu : u = 0 ∨ u = 1 ∨ u = 2 := by omega
            rcases eu with rfl | rfl | rfl
            · obtain ⟨P1, P2, P3, P4⟩ := ops_ok hH 1 (by omega) 0 (by omega)
              replace P1 : applyE h [1, 0] = 0 := P1
              replace P2 : applyE h [0, 1] = 0 := P2
              replace P3 : applyR h [1, 0] = applyR h [0, 1] := P3 (by omega)
              have C1 := fun (W : World) (p : Option Addr) (h1 : Reads W p [1, 0]) (h2 : Src W) => applyF_any h p [1, 0] 2 (by simp) W h1 h2
              have C2 := fun (W : World) (p : Option Addr) (h1 : Reads W p [0, 1]) (h2 : Src W) => applyF_any h p [0, 1] 2 (by simp) W h1 h2
              rw [P1] at C1
              rw [P2, ← P3] at C2
              obtain ⟨r, hr⟩ : ∃ r, applyR h [1, 0] = r := ⟨_, rfl⟩
              rw [hr] at C1 C2
              clear hr
              clear P1 P2 P3 P4
              go_wp2_with fail
              refine (C1 _ _ (reads_new wr _ [1, 0]) (hs.below (tr (tr hb11 hBi) (below1 wr _)) (Nat.le_refl _))).mono ?_
              rintro e v1 ⟨rfl, hv1⟩
              have hv2 := tr hBi (tr (below1 wr (.cells (arr [1, 0]) 29)) hv1)
              clear hv1 C1
              go_wp2_with fail
              refine (C2 _ _ (reads_new v1 _ [0, 1]) (hs.below (tr (tr hb11 hv2) (below1 v1 _)) (Nat.le_refl _))).mono ?_
              rintro e v3 ⟨rfl, hv3⟩
              have hv4 := tr hv2 (tr (below1 v1 (.cells (arr [0, 1]) 29)) hv3)
              clear hv2 hv3 C2
              go_wp2_with fail
              go_roundw
              case rel => first | exact ⟨1, by omega, by go_num, hv4⟩ | ((repeat apply Exists.intro); exact ⟨⟨1, by omega, by go_num, hv4⟩, rfl⟩)
              case measure => simp [intOf]
            · obtain ⟨P1, P2, P3, P4⟩ := ops_ok hH 1 (by omega) 1 (by omega)
              replace P1 : applyE h [1, 1] = 0 := P1
              replace P2 : applyE h [1, 1] = 0 := P2
              replace P3 : applyR h [1, 1] = applyR h [1, 1] := P3 (by omega)
              have C1 := fun (W : World) (p : Option Addr) (h1 : Reads W p [1, 1]) (h2 : Src W) => applyF_any h p [1, 1] 2 (by simp) W h1 h2
              have C2 := fun (W : World) (p : Option Addr) (h1 : Reads W p [1, 1]) (h2 : Src W) => applyF_any h p [1, 1] 2 (by simp) W h1 h2
              rw [P1] at C1
              rw [P2, ← P3] at C2
              replace P4 : applyR h [1, 1] = h := P4 rfl (by omega)
              rw [P4] at C1 C2
              clear P1 P2 P3 P4
              go_wp2_with fail
              refine (C1 _ _ (reads_new wr _ [1, 1]) (hs.below (tr (tr hb11 hBi) (below1 wr _)) (Nat.le_refl _))).mono ?_
              rintro e v1 ⟨rfl, hv1⟩
              have hv2 := tr hBi (tr (below1 wr (.cells (arr [1, 1]) 29)) hv1)
              clear hv1 C1
              go_wp2_with fail
              refine (C2 _ _ (reads_new v1 _ [1, 1]) (hs.below (tr (tr hb11 hv2) (below1 v1 _)) (Nat.le_refl _))).mono ?_
              rintro e v3 ⟨rfl, hv3⟩
              have hv4 := tr hv2 (tr (below1 v1 (.cells (arr [1, 1]) 29)) hv3)
              clear hv2 hv3 C2
              go_wp2_with fail
              go_roundw
              case rel => first | exact ⟨2, by omega, by go_num, hv4⟩ | ((repeat apply Exists.intro); exact ⟨⟨2, by omega, by go_num, hv4⟩, rfl⟩)
              case measure => simp [intOf]
            · go_wp2_with fail
              go_roundw
              case rel => first | exact ⟨2, by omega, by go_num, hBi⟩ | ((repeat apply Exists.intro); exact ⟨⟨2, by omega, by go_num, hBi⟩, rfl⟩)
              case measure => simp [intOf]
        · go_wp2_with fail
          go_loopw [20] (fun j wi => ∃ u : Nat, u ≤ 3 ∧ j = .int .i64 u ∧ Below w8.heap.size w8 wi) (fun j _ => 3 - (intOf j).toNat)
          case atStart => exact ⟨0, by omega, rfl, hBt⟩
          case round =>
            obtain ⟨u, hu, rfl, hBi⟩ := hrel
            have eu : u = 0 ∨ u = 1 ∨ u = 2 ∨ u = 3 := by omega
            rcases eu with rfl | rfl | rfl | rfl
            · obtain ⟨P1, P2, P3, P4⟩ := ops_ok hH 2 (by omega) 0 (by omega)
              replace P1 : applyE h [2, 0] = 0 := P1
              replace P2 : applyE h [0, 2] = 0 := P2
              replace P3 : applyR h [2, 0] = applyR h [0, 2] := P3 (by omega)
              have C1 := fun (W : World) (p : Option Addr) (h1 : Reads W p [2, 0]) (h2 : Src W) => applyF_any h p [2, 0] 2 (by simp) W h1 h2
              have C2 := fun (W : World) (p : Option Addr) (h1 : Reads W p [0, 2]) (h2 : Src W) => applyF_any h p [0, 2] 2 (by simp) W h1 h2
              rw [P1] at C1
              rw [P2, ← P3] at C2
              obtain ⟨r, hr⟩ : ∃ r, applyR h [2, 0] = r := ⟨_, rfl⟩
              rw [hr] at C1 C2
              clear hr
              clear P1 P2 P3 P4
              go_wp2_with fail
              refine (C1 _ _ (reads_new wr _ [2, 0]) (hs.below (tr (tr hb11 hBi) (below1 wr _)) (Nat.le_refl _))).mono ?_
              rintro e v1 ⟨rfl, hv1⟩
              have hv2 := tr hBi (tr (below1 wr (.cells (arr [2, 0]) 29)) hv1)
              clear hv1 C1
              go_wp2_with fail
              refine (C2 _ _ (reads_new v1 _ [0, 2]) (hs.below (tr (tr hb11 hv2) (below1 v1 _)) (Nat.le_refl _))).mono ?_
              rintro e v3 ⟨rfl, hv3⟩
              have hv4 := tr hv2 (tr (below1 v1 (.cells (arr [0, 2]) 29)) hv3)
              clear hv2 hv3 C2
              go_wp2_with fail
              go_roundw
              case rel => first | exact ⟨1, by omega, by go_num, hv4⟩ | ((repeat apply Exists.intro); exact ⟨⟨1, by omega, by go_num, hv4⟩, rfl⟩)
              case measure => simp [intOf]
            · obtain ⟨P1, P2, P3, P4⟩ := ops_ok hH 2 (by omega) 1 (by omega)
              replace P1 : applyE h [2, 1] = 0 := P1
              replace P2 : applyE h [1, 2] = 0 := P2
              replace P3 : applyR h [2, 1] = applyR h [1, 2] := P3 (by omega)
              have C1 := fun (W : World) (p : Option Addr) (h1 : Reads W p [2, 1]) (h2 : Src W) => applyF_any h p [2, 1] 2 (by simp) W h1 h2
              have C2 := fun (W : World) (p : Option Addr) (h1 : Reads W p [1, 2]) (h2 : Src W) => applyF_any h p [1, 2] 2 (by simp) W h1 h2
              rw [P1] at C1
              rw [P2, ← P3] at C2
              obtain ⟨r, hr⟩ : ∃ r, applyR h [2, 1] = r := ⟨_, rfl⟩
              rw [hr] at C1 C2
              clear hr
              clear P1 P2 P3 P4
              go_wp2_with fail
              refine (C1 _ _ (reads_new wr _ [2, 1]) (hs.below (tr (tr hb11 hBi) (below1 wr _)) (Nat.le_refl _))).mono ?_
              rintro e v1 ⟨rfl, hv1⟩
              have hv2 := tr hBi (tr (below1 wr (.cells (arr [2, 1]) 29)) hv1)
              clear hv1 C1
              go_wp2_with fail
              refine (C2 _ _ (reads_new v1 _ [1, 2]) (hs.below (tr (tr hb11 hv2) (below1 v1 _)) (Nat.le_refl _))).mono ?_
              rintro e v3 ⟨rfl, hv3⟩
              have hv4 := tr hv2 (tr (below1 v1 (.cells (arr [1, 2]) 29)) hv3)
              clear hv2 hv3 C2
              go_wp2_with fail
              go_roundw
              case rel => first | exact ⟨2, by omega, by go_num, hv4⟩ | ((repeat apply Exists.intro); exact ⟨⟨2, by omega, by go_num, hv4⟩, rfl⟩)
              case measure => simp [intOf]
            · obtain ⟨P1, P2, P3, P4⟩ := ops_ok hH 2 (by omega) 2 (by omega)
              replace P1 : applyE h [2, 2] = 0 := P1
              replace P2 : applyE h [2, 2] = 0 := P2
              replace P3 : applyR h [2, 2] = applyR h [2, 2] := P3 (by omega)
              have C1 := fun (W : World) (p : Option Addr) (h1 : Reads W p [2, 2]) (h2 : Src W) => applyF_any h p [2, 2] 2 (by simp) W h1 h2
              have C2 := fun (W : World) (p : Option Addr) (h1 : Reads W p [2, 2]) (h2 : Src W) => applyF_any h p [2, 2] 2 (by simp) W h1 h2
              rw [P1] at C1
              rw [P2, ← P3] at C2
              replace P4 : applyR h [2, 2] = h := P4 rfl (by omega)
              rw [P4] at C1 C2
              clear P1 P2 P3 P4
              go_wp2_with fail
              refine (C1 _ _ (reads_new wr _ [2, 2]) (hs.below (tr (tr hb11 hBi) (below1 wr _)) (Nat.le_refl _))).mono ?_
              rintro e v1 ⟨rfl, hv1⟩
              have hv2 := tr hBi (tr (below1 wr (.cells (arr [2, 2]) 29)) hv1)
              clear hv1 C1
              go_wp2_with fail
              refine (C2 _ _ (reads_new v1 _ [2, 2]) (hs.below (tr (tr hb11 hv2) (below1 v1 _)) (Nat.le_refl _))).mono ?_
              rintro e v3 ⟨rfl, hv3⟩
              have hv4 := tr hv2 (tr (below1 v1 (.cells (arr [2, 2]) 29)) hv3)
              clear hv2 hv3 C2
              go_wp2_with fail
              go_roundw
              case rel => first | exact ⟨3, by omega, by go_num, hv4⟩ | ((repeat apply Exists.intro); exact ⟨⟨3, by omega, by go_num, hv4⟩, rfl⟩)
              case measure => simp [intOf]
            · go_wp2_with fail
              go_roundw
              case rel => first | exact ⟨3, by omega, by go_num, hBi⟩ | ((repeat apply Exists.intro); exact ⟨⟨3, by omega, by go_num, hBi⟩, rfl⟩)
              case measure => simp [intOf]
        · go_wp2_with fail
          go_loopw [20] (fun j wi => ∃ u : Nat, u ≤ 4 ∧ j = .int .i64 u ∧ Below w8.heap.size w8 wi) (fun j _ => 4 - (intOf j).toNat)
          case atStart => exact ⟨0, by omega, rfl, hBt⟩
          case round =>
            obtain ⟨u, hu, rfl, hBi⟩ := hrel
            have eu : u = 0 ∨ u = 1 ∨ u = 2 ∨ u = 3 ∨ u = 4 := by omega
            rcases eu with rfl | rfl | rfl | rfl | rfl
            · obtain ⟨P1, P2, P3, P4⟩ := ops_ok hH 3 (by omega) 0 (by omega)
              replace P1 : applyE h [3, 0] = 0 := P1
              replace P2 : applyE h [0, 3] = 0 := P2
              replace P3 : applyR h [3, 0] = applyR h [0, 3] := P3 (by omega)
              have C1 := fun (W : World) (p : Option Addr) (h1 : Reads W p [3, 0]) (h2 : Src W) => applyF_any h p [3, 0] 2 (by simp) W h1 h2
              have C2 := fun (W : World) (p : Option Addr) (h1 : Reads W p [0, 3]) (h2 : Src W) => applyF_any h p [0, 3] 2 (by simp) W h1 h2
              rw [P1] at C1
              rw [P2, ← P3] at C2
              obtain ⟨r, hr⟩ : ∃ r, applyR h [3, 0] = r := ⟨_, rfl⟩
              rw [hr] at C1 C2
              clear hr
              clear P1 P2 P3 P4
              go_wp2_with fail
              refine (C1 _ _ (reads_new wr _ [3, 0]) (hs.below (tr (tr hb11 hBi) (below1 wr _)) (Nat.le_refl _))).mono ?_
              rintro e v1 ⟨rfl, hv1⟩
              have hv2 := tr hBi (tr (below1 wr (.cells (arr [3, 0]) 29)) hv1)
              clear hv1 C1
              go_wp2_with fail
              refine (C2 _ _ (reads_new v1 _ [0, 3]) (hs.below (tr (tr hb11 hv2) (below1 v1 _)) (Nat.le_refl _))).mono ?_
              rintro e v3 ⟨rfl, hv3⟩
              have hv4 := tr hv2 (tr (below1 v1 (.cells (arr [0, 3]) 29)) hv3)
              clear hv2 hv3 C2
              go_wp2_with fail
              go_roundw
              case rel => first | exact ⟨1, by omega, by go_num, hv4⟩ | ((repeat apply Exists.intro); exact ⟨⟨1, by omega, by go_num, hv4⟩, rfl⟩)
              case measure => simp [intOf]
            · obtain ⟨P1, P2, P3, P4⟩ := ops_ok hH 3 (by omega) 1 (by omega)
              replace P1 : applyE h [3, 1] = 0 := P1
              replace P2 : applyE h [1, 3] = 0 := P2
              replace P3 : applyR h [3, 1] = applyR h [1, 3] := P3 (by omega)
              have C1 := fun (W : World) (p : Option Addr) (h1 : Reads W p [3, 1]) (h2 : Src W) => applyF_any h p [3, 1] 2 (by simp) W h1 h2
              have C2 := fun (W : World) (p : Option Addr) (h1 : Reads W p [1, 3]) (h2 : Src W) => applyF_any h p [1, 3] 2 (by simp) W h1 h2
              rw [P1] at C1
              rw [P2, ← P3] at C2
              obtain ⟨r, hr⟩ : ∃ r, applyR h [3, 1] = r := ⟨_, rfl⟩
              rw [hr] at C1 C2
              clear hr
              clear P1 P2 P3 P4
              go_wp2_with fail
              refine (C1 _ _ (reads_new wr _ [3, 1]) (hs.below (tr (tr hb11 hBi) (below1 wr _)) (Nat.le_refl _))).mono ?_
              rintro e v1 ⟨rfl, hv1⟩
              have hv2 := tr hBi (tr (below1 wr (.cells (arr [3, 1]) 29)) hv1)
              clear hv1 C1
              go_wp2_with fail
              refine (C2 _ _ (reads_new v1 _ [1, 3]) (hs.below (tr (tr hb11 hv2) (below1 v1 _)) (Nat.le_refl _))).mono ?_
              rintro e v3 ⟨rfl, hv3⟩
              have hv4 := tr hv2 (tr (below1 v1 (.cells (arr [1, 3]) 29)) hv3)
              clear hv2 hv3 C2
              go_wp2_with fail
              go_roundw
              case rel => first | exact ⟨2, by omega, by go_num, hv4⟩ | ((repeat apply Exists.intro); exact ⟨⟨2, by omega, by go_num, hv4⟩, rfl⟩)
              case measure => simp [intOf]
            · go_wp2_with fail
              go_roundw
              case rel => first | exact ⟨3, by omega, by go_num, hBi⟩ | ((repeat apply Exists.intro); exact ⟨⟨3, by omega, by go_num, hBi⟩, rfl⟩)
              case measure => simp [intOf]
            · obtain ⟨P1, P2, P3, P4⟩ := ops_ok hH 3 (by omega) 3 (by omega)
              replace P1 : applyE h [3, 3] = 0 := P1
              replace P2 : applyE h [3, 3] = 0 := P2
              replace P3 : applyR h [3, 3] = applyR h [3, 3] := P3 (by omega)
              have C1 := fun (W : World) (p : Option Addr) (h1 : Reads W p [3, 3]) (h2 : Src W) => applyF_any h p [3, 3] 2 (by simp) W h1 h2
              have C2 := fun (W : World) (p : Option Addr) (h1 : Reads W p [3, 3]) (h2 : Src W) => applyF_any h p [3, 3] 2 (by simp) W h1 h2
              rw [P1] at C1
              rw [P2, ← P3] at C2
              obtain ⟨r, hr⟩ : ∃ r, applyR h [3, 3] = r := ⟨_, rfl⟩
              rw [hr] at C1 C2
              clear hr
              clear P1 P2 P3 P4
              go_wp2_with fail
              refine (C1 _ _ (reads_new wr _ [3, 3]) (hs.below (tr (tr hb11 hBi) (below1 wr _)) (Nat.le_refl _))).mono ?_
              rintro e v1 ⟨rfl, hv1⟩
              have hv2 := tr hBi (tr (below1 wr (.cells (arr [3, 3]) 29)) hv1)
              clear hv1 C1
              go_wp2_with fail
              refine (C2 _ _ (reads_new v1 _ [3, 3]) (hs.below (tr (tr hb11 hv2) (below1 v1 _)) (Nat.le_refl _))).mono ?_
              rintro e v3 ⟨rfl, hv3⟩
              have hv4 := tr hv2 (tr (below1 v1 (.cells (arr [3, 3]) 29)) hv3)
              clear hv2 hv3 C2
              go_wp2_with fail
              go_roundw
              case rel => first | exact ⟨4, by omega, by go_num, hv4⟩ | ((repeat apply Exists.intro); exact ⟨⟨4, by omega, by go_num, hv4⟩, rfl⟩)
              case measure => simp [intOf]
            · go_wp2_with fail
              go_roundw
              case rel => first | exact ⟨4, by omega, by go_num, hBi⟩ | ((repeat apply Exists.intro); exact ⟨⟨4, by omega, by go_num, hBi⟩, rfl⟩)
              case measure => simp [intOf]
        · go_wp2_with fail
          refine (known_any _ (hs.below hb12 (Nat.le_refl _)) (hf.below hb12 (Nat.le_refl _))).mono ?_
          rintro e w9 ⟨rfl, hb13⟩
          go_wp2
          go_ret
          exact ⟨rfl, tr hb12 hb13⟩
end Go.Proofs.YtaibkkcedipdgaaDoor
