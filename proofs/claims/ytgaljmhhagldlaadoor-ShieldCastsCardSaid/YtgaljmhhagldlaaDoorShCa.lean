/-
  Package shield: the mothers of rows of marks.
-/
import Derived.Test.YtgaljmhhagldlaaDoorShVb
import Derived.Test.YtgaljmhhagldlaaDoorShR
import Derived.Deep.RegionWith
namespace Go.Proofs.YtgaljmhhagldlaaDoor
open Go Go.RowKit
set_option linter.unusedVariables false

/-- Whether a number of marks is odd. -/
def oddB (x : Int) : Bool := bits BinOp.and IntKind.i64 x 1 == 1
theorem oddB_is (x : Int) (h0 : 0 ≤ x) (h1 : x ≤ 1000) : oddB x = decide (x % 2 = 1) := by
  have := bits_mask .i64 62 (by decide) wraps_i64_62 1 (by decide) x h0 (by omega)
  unfold oddB
  have e : bits BinOp.and IntKind.i64 x 1 = x % 2 := this
  rw [e]
  by_cases h : x % 2 = 1 <;> simp [h]
set_option maxHeartbeats 1000000 in
theorem cast1_any (i k : Nat) (hi : i < 4) (hk : k < 4) (p : Option Addr) (rows : List Int) (c : Nat) (a b : Addr) (w : World) (hl : rows.length = 16) (hR : Reads w p rows) (hb : ∀ j, j < 16 → 1 ≤ nth rows j ∧ nth rows j ≤ 1000)
    (ha : w.cell? a = some (.slice p 16 c)) (hbi : w.cell? b = some (.int .i64 i)) :
    Calls Tryd.prog 59 #[.int .i64 k, .pointer (some a), .pointer (some b)] w fun e w' => e = .returned (.bool (oddB (nth rows (i * 4 + k)))) ∧ w = w' := by
  obtain ⟨q, o, rfl, hc⟩ := hR (i * 4 + k) (by omega)
  obtain ⟨b0, b1⟩ := hb (i * 4 + k) (by omega)
  have q1 : (i : Int) * 4 + (k : Int) < 16 := by omega
  have q2 : 0 ≤ (i : Int) * 4 + (k : Int) := by omega
  have q3 : ((i : Int) * 4 + (k : Int)).toNat = i * 4 + k := by omega
  clear hb hR hl
  go_enter Tryd.func59, Tryd.ntmps59
  go_wp2
  go_ret
  exact ⟨rfl, rfl⟩

/-- The mothers of the first k fours of rows, and 0 behind. -/
def castTo (rows : List Int) (k : Nat) : List Int := (List.range 4).map fun i => if i < k then figTo (fun j => oddB (nth rows (i * 4 + j))) 4 else 0
theorem castTo_len (rows : List Int) (k : Nat) : (castTo rows k).length = 4 := by simp [castTo]
theorem castTo_succ (rows : List Int) {k : Nat} (hk : k < 4) : (castTo rows k).set k (figTo (fun j => oddB (nth rows (k * 4 + j))) 4) = castTo rows (k + 1) := by
  have e : k = 0 ∨ k = 1 ∨ k = 2 ∨ k = 3 := by omega
  rcases e with rfl | rfl | rfl | rfl <;> rfl
/-- What Cast returns. -/
def castE (rows : List Int) : Int := if rows.length ≠ 16 then 5 else if anyB (outB 1 1000) rows = true then 3 else 0
def castV (rows : List Int) : List Int := if castE rows = 0 then castTo rows 4 else [0, 0, 0, 0]
theorem castV_len (rows : List Int) : (castV rows).length = 4 := by unfold castV; split; exact castTo_len rows 4; rfl

set_option maxRecDepth 100000 in
set_option maxHeartbeats 8000000 in
theorem cast_long (p : Option Addr) (rows : List Int) (c : Nat) (w : World) (h : rows.length ≠ 16) (hm : rows.length ≤ 1000000) :
    Calls Tryd.prog 29 #[.slice p rows.length c] w fun e w' => e = .returned (.tuple #[.agg (arr [0, 0, 0, 0]), .int .i64 5]) ∧ Below w.heap.size w w' := by
  have e1 : ((rows.length : Int) != 16) = true := by simp; omega
  have e2 : decide ((rows.length : Int) = 16) = false := by simp; omega
  have HR := Lib.hid (show Blk (((w.alloc (.cells #[.slice p rows.length c] 44)).alloc (.cells (arr [0, 0, 0, 0]) 46)).alloc (.cells (arr [0, 0, 0, 0]) 46)) (w.heap.size + 1) 46 (arr [0, 0, 0, 0]) from Blk.alloc (newAt (by simp)) _)
  have HM := Lib.hid (show Blk (((w.alloc (.cells #[.slice p rows.length c] 44)).alloc (.cells (arr [0, 0, 0, 0]) 46)).alloc (.cells (arr [0, 0, 0, 0]) 46)) (w.heap.size + 2) 46 (arr [0, 0, 0, 0]) from newAt (by simp))
  have hB : Below w.heap.size w (((w.alloc (.cells #[.slice p rows.length c] 44)).alloc (.cells (arr [0, 0, 0, 0]) 46)).alloc (.cells (arr [0, 0, 0, 0]) 46)) := (((Below.refl _ _).alloc (Nat.le_refl _) _).alloc (by simp) _).alloc (by simp; omega) _
  go_enter Tryd.func29, Tryd.ntmps29
  go_wp2_with (first | (refine wpList_load_row rfl 46 (.tmp 4) rfl (w.heap.size + 2) rfl 46 (arr [0, 0, 0, 0]) (0, 0) _ HM.out Tryd.underlying46 rfl info_moth ?_) | (refine wpList_store_row rfl 46 (.tmp 2) (.tmp 10) rfl (w.heap.size + 1) (arr [0, 0, 0, 0]) rfl rfl 46 _ HR.out info_moth rfl (arr_one _) ?_))
  exact bodyPost_ret (v := .tuple #[.agg (arr [0, 0, 0, 0]), .int .i64 5]) (results_cell_slot Tryd.results29 _ _ (w.heap.size + 1) 46 (arr [0, 0, 0, 0]) (0, 0) _ rfl (HR.out.row _) Tryd.underlying46 rfl info_moth _ rfl) rfl ⟨rfl, below_setRow hB (by omega) _⟩

set_option maxRecDepth 100000 in
set_option maxHeartbeats 8000000 in
theorem cast_go (p : Option Addr) (rows : List Int) (c : Nat) (w : World) (h : Hid (rows.length = 16)) (hR : Reads w p rows) (b : Bool) (HA : Hid (anyB (outB 1 1000) rows = b)) :
    Calls Tryd.prog 29 #[.slice p 16 c] w fun e w' => e = .returned (.tuple #[.agg (arr (if b = true then [0, 0, 0, 0] else castTo rows 4)), .int .i64 (if b = true then 3 else 0)]) ∧ Below w.heap.size w w' := by
  have HR := Lib.hid (show Blk (((w.alloc (.cells #[.slice p 16 c] 44)).alloc (.cells (arr [0, 0, 0, 0]) 46)).alloc (.cells (arr [0, 0, 0, 0]) 46)) (w.heap.size + 1) 46 (arr [0, 0, 0, 0]) from Blk.alloc (newAt (by simp)) _)
  have HM := Lib.hid (show Blk (((w.alloc (.cells #[.slice p 16 c] 44)).alloc (.cells (arr [0, 0, 0, 0]) 46)).alloc (.cells (arr [0, 0, 0, 0]) 46)) (w.heap.size + 2) 46 (arr (castTo rows 0)) from newAt (by simp))
  have HX := Lib.hid (show Blk (((w.alloc (.cells #[.slice p 16 c] 44)).alloc (.cells (arr [0, 0, 0, 0]) 46)).alloc (.cells (arr [0, 0, 0, 0]) 46)) w.heap.size 44 #[.slice p 16 c] from Blk.alloc (Blk.alloc (Blk.new _ _ _) _) _)
  have hB : Below w.heap.size w (((w.alloc (.cells #[.slice p 16 c] 44)).alloc (.cells (arr [0, 0, 0, 0]) 46)).alloc (.cells (arr [0, 0, 0, 0]) 46)) := (((Below.refl _ _).alloc (Nat.le_refl _) _).alloc (by simp) _).alloc (by simp; omega) _
  have hr := hR.below hB (Nat.le_refl _)
  go_enter Tryd.func29, Tryd.ntmps29
  go_wp2
  generalize hW : (((w.alloc (.cells #[.slice p 16 c] 44)).alloc (.cells (arr [0, 0, 0, 0]) 46)).alloc (.cells (arr [0, 0, 0, 0]) 46)) = W at HR HM HX hB hr
  try rw [show (((w.alloc (.cells #[.slice p 16 c] 44)).alloc (.cells #[.int .i64 0, .int .i64 0, .int .i64 0, .int .i64 0] 46)).alloc (.cells #[.int .i64 0, .int .i64 0, .int .i64 0, .int .i64 0] 46)) = W from hW]
  clear hW
  have cx : W.cell? ⟨w.heap.size, 0, none⟩ = some (.slice p 16 c) := HX.out.cell 0
  have hlx := HX.out.lt
  cases b
  all_goals
    go_region_held3 (fun w' => w'.cell? ⟨w.heap.size, 0, none⟩ = some (.slice p 16 c) ∧ Below W.heap.size W w')
      (first | exact ⟨cx, (Below.refl _ _).drew⟩ | assumption | exact ⟨cell_tr hbk (by exact cx), tr (Below.drew (Below.refl W.heap.size W)) hbk⟩ | (rename_i hh; exact ⟨cell_tr hbk hh.1, tr hh.2 hbk⟩))
      (first
        | (go_at_call 57; refine (outside_cI 1 1000 _).mono ?_; rintro e w' ⟨a, b, rfl, ha, hb, hbk⟩)
        | (go_at_call 56; refine (h.out ▸ containsFunc_outsideI 1 1000 a b _ ha hb p rows c (by have := h.out; omega) ?hx).mono ?_; (case hx => exact hr.below (tr (Below.drew (Below.refl W.heap.size W)) hbk) (Nat.le_refl _)); rintro e w' ⟨rfl, rfl⟩; rw [HA.out]))
  · rename_i hh
    obtain ⟨cx2, hbx⟩ := hh
    have HM2 := Lib.hid (show Blk w' (w.heap.size + 1 + 1) 46 (arr (castTo rows 0)) from HM.out.below hbx HM.out.lt)
    have HR2 := Lib.hid (HR.out.below hbx HR.out.lt)
    have hb2 := hB.trans (hbx.mono hB.size)
    have hr2 := hr.below hbx (Nat.le_refl _)
    have hz2 : w.heap.size + 1 + 1 < w'.heap.size := HM2.out.lt
    have HBD := Lib.hid (fun j (hj : j < 16) => show 1 ≤ nth rows j ∧ nth rows j ≤ 1000 by
      have h1 := HA.out
      unfold anyB at h1
      rw [List.any_eq_false] at h1
      have h2 := h1 _ (nth_mem (by have := h.out; omega : j < rows.length))
      simp [outB] at h2
      omega)
    clear hbk hbx ha hb cx hr hB HM HR HX
    go_wp2
    go_loopw [15] (fun i wr => ∃ k : Nat, k ≤ 4 ∧ i = .int .i64 k ∧ Hid (Blk wr (w.heap.size + 1 + 1) 46 (arr (castTo rows k))) ∧ Below (w.heap.size + 1 + 1) w' wr) (fun i _ => 4 - (intOf i).toNat)
    case atStart => exact ⟨0, by omega, rfl, HM2, Below.refl _ _⟩
    case round =>
      obtain ⟨k, hk, rfl, HK, hBk⟩ := hrel
      by_cases hlt : k < 4
      · have k1 : (wr.alloc (.cells #[.int .i64 k] 3)).cell? ⟨w.heap.size, 0, none⟩ = some (.slice p 16 c) := (World.cell?_alloc_lt wr _ ⟨w.heap.size, 0, none⟩ (by have := hBk.size; simp; omega)).trans ((hBk.cell (p := ⟨w.heap.size, 0, none⟩) (by simp; omega)).trans cx2)
        have k2 : (wr.alloc (.cells #[.int .i64 k] 3)).cell? ⟨wr.heap.size, 0, none⟩ = some (.int .i64 k) := (Blk.new wr 3 #[.int .i64 k]).cell 0
        have HK2 := Lib.hid (HK.out.alloc (.cells #[.int .i64 k] 3))
        have k3 : (wr.alloc (.cells #[.int .i64 k] 3)).cell? ⟨w.heap.size + 1 + 1, k, none⟩ = some (.int .i64 (nth (castTo rows k) k)) := by rw [HK2.out.cell k, arr_get (by rw [castTo_len]; exact hlt)]
        have k4 := HK2.out.frozen k
        have hrk : Reads (wr.alloc (.cells #[.int .i64 k] 3)) p rows := (hR.below (hb2.trans ((hBk.alloc (by have := hBk.size; omega) _).mono (by omega))) (Nat.le_refl _))
        have HS := Lib.hid (castTo_succ rows hlt)
        have HF := Lib.hid (fun q => figure_cast ⟨w.heap.size, 0, none⟩ ⟨wr.heap.size, 0, none⟩ (fun j => oddB (nth rows (k * 4 + j))) ((wr.alloc (.cells #[.int .i64 k] 3)).drewN q) (fun j q2 hj => by
          refine (cast1_any k j hlt hj p rows c ⟨w.heap.size, 0, none⟩ ⟨wr.heap.size, 0, none⟩ (((wr.alloc (.cells #[.int .i64 k] 3)).drewN q).drewN q2) h.out hrk HBD.out k1 k2).mono ?_
          rintro e w'' ⟨rfl, rfl⟩
          exact ⟨rfl, q2, rfl⟩))
        have HST := Lib.hid (fun q => (show Blk (((wr.alloc (.cells #[.int .i64 k] 3)).drewN q).setCell ⟨w.heap.size + 1 + 1, k, none⟩ (.int .i64 (figTo (fun j => oddB (nth rows (k * 4 + j))) 4))) (w.heap.size + 1 + 1) 46 (arr (castTo rows (k + 1))) from HS.out ▸ (arr_set _ _ _ ▸ (show Blk ((wr.alloc (.cells #[.int .i64 k] 3)).drewN q) (w.heap.size + 1 + 1) 46 (arr (castTo rows k)) from HK2.out).set_ k (.int .i64 (figTo (fun j => oddB (nth rows (k * 4 + j))) 4)))))
        clear hrk
        go_wp2
        go_region_with (go_at_call 52; refine (HF.out _).mono ?_; rintro e w'' ⟨rfl, r, rfl⟩)
        all_goals
          go_wp2
          go_roundw
          case rel => exact ⟨k + 1, by omega, by go_num, HST.out _, (below_drewN (hBk.alloc (by have := hBk.size; omega) _) _).setCell (Nat.le_refl _) _⟩
          case measure => simp [intOf]; omega
      · obtain rfl : k = 4 := by omega
        have HR3 := Lib.hid (HR2.out.below hBk (by omega))
        have hb3 := hb2.trans (hBk.mono (by omega))
        have HI := Lib.hid (show (Tryd.prog.info? 46).map (·.size) = some (arr (castTo rows 4)).size by rw [arr_size, castTo_len]; exact info_moth)
        clear hBk hb2
        go_wp2_with (first | (refine wpList_load_row rfl 46 (.tmp 4) rfl (w.heap.size + 1 + 1) rfl 46 (arr (castTo rows 4)) (0, 0) _ HK.out Tryd.underlying46 rfl HI.out ?_) | (refine wpList_store_row rfl 46 (.tmp 2) (.tmp 23) rfl (w.heap.size + 1) (arr (castTo rows 4)) rfl rfl 46 _ HR3.out HI.out (by rw [arr_size, arr_size, castTo_len]; rfl) (arr_one _) ?_))
        exact bodyPost_ret (v := .tuple #[.agg (arr (castTo rows 4)), .int .i64 0]) (results_cell_slot Tryd.results29 _ _ (w.heap.size + 1) 46 (arr (castTo rows 4)) (0, 0) _ rfl (HR3.out.row _) Tryd.underlying46 rfl HI.out _ rfl) rfl ⟨rfl, below_setRow hb3 (by omega) _⟩
  · rename_i hh
    obtain ⟨_, hbx⟩ := hh
    have HM2 := Lib.hid (show Blk w' (w.heap.size + 1 + 1) 46 (arr [0, 0, 0, 0]) from HM.out.below hbx HM.out.lt)
    have HR2 := Lib.hid (HR.out.below hbx HR.out.lt)
    have hb2 := hB.trans (hbx.mono hB.size)
    clear hbk hbx ha hb cx hr hB HM HR HX
    go_wp2_with (first | (refine wpList_load_row rfl 46 (.tmp 4) rfl (w.heap.size + 1 + 1) rfl 46 (arr [0, 0, 0, 0]) (0, 0) _ HM2.out Tryd.underlying46 rfl info_moth ?_) | (refine wpList_store_row rfl 46 (.tmp 2) (.tmp 14) rfl (w.heap.size + 1) (arr [0, 0, 0, 0]) rfl rfl 46 _ HR2.out info_moth rfl (arr_one _) ?_))
    exact bodyPost_ret (v := .tuple #[.agg (arr [0, 0, 0, 0]), .int .i64 3]) (results_cell_slot Tryd.results29 _ _ (w.heap.size + 1) 46 (arr [0, 0, 0, 0]) (0, 0) _ rfl (HR2.out.row _) Tryd.underlying46 rfl info_moth _ rfl) rfl ⟨rfl, below_setRow hb2 (by omega) _⟩
theorem cast_any (p : Option Addr) (rows : List Int) (c : Nat) (w : World) (hm : rows.length ≤ 1000000) (hR : Reads w p rows) :
    Calls Tryd.prog 29 #[.slice p rows.length c] w fun e w' => e = .returned (.tuple #[.agg (arr (castV rows)), .int .i64 (castE rows)]) ∧ Below w.heap.size w w' := by
  by_cases h : rows.length = 16
  · have := cast_go p rows c w h hR _ (Lib.hid rfl)
    rw [h]
    cases hb : anyB (outB 1 1000) rows
    · rw [hb] at this
      have e1 : castE rows = 0 := by simp [castE, h, hb]
      rw [show castV rows = castTo rows 4 by unfold castV; rw [if_pos e1], e1]
      exact this
    · rw [hb] at this
      have e1 : castE rows = 3 := by simp [castE, h, hb]
      rw [show castV rows = [0, 0, 0, 0] by unfold castV; rw [if_neg (by omega)], e1]
      exact this
  · have := cast_long p rows c w h hm
    have e1 : castE rows = 5 := by simp [castE, h]
    rwa [show castV rows = [0, 0, 0, 0] by unfold castV; rw [if_neg (by omega)], e1]
end Go.Proofs.YtgaljmhhagldlaaDoor
