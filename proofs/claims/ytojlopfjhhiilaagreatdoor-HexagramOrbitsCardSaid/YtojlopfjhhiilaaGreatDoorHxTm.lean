/-
  HexagramOrbits: the reference's orbit and number of maps, and the law: five texts in one, for the claim.
-/
import Derived.Test.YtojlopfjhhiilaaGreatDoorHxTe
import Derived.Test.YtojlopfjhhiilaaGreatDoorHxRd
import Derived.Deep.CutRange
import Derived.Deep.QuietTactic
import Derived.BigQuiet
import Derived.Test.YtojlopfjhhiilaaGreatDoorHxYw
import Derived.Test.YtojlopfjhhiilaaGreatDoorHxEq
import Derived.Deep.MidRow
import Derived.Great.BuildSlice
import Derived.Test.YtojlopfjhhiilaaGreatDoorHxCi
import Derived.Test.YtojlopfjhhiilaaGreatDoorHxW
namespace Go.Proofs.YtojlopfjhhiilaaGreatDoor
open Go Go.RowKit
set_option linter.unusedVariables false

def lit (B : List Bool) (p : Nat) : Bool := B.getD p false
def cntB : List Bool → Nat
  | [] => 0
  | b :: r => (if b then 1 else 0) + cntB r
theorem cntB_le : ∀ B : List Bool, cntB B ≤ B.length
  | [] => Nat.le_refl _
  | b :: r => by have := cntB_le r; simp only [cntB, List.length_cons]; split <;> omega
theorem cntB_set : ∀ {B : List Bool} {p : Nat}, p < B.length → lit B p = false → cntB (B.set p true) = cntB B + 1
  | [], p, h, _ => by simp at h
  | b :: r, 0, _, hb => by
    have : b = false := by simpa [lit] using hb
    subst this
    simp [cntB]; omega
  | b :: r, p + 1, h, hb => by
    have := cntB_set (B := r) (p := p) (by simpa using h) (by simpa [lit] using hb)
    simp only [List.set_cons_succ, cntB, this]; omega
theorem lit_set {B : List Bool} {P : Nat} (hP : P < B.length) (p : Nat) : lit (B.set P true) p = if P = p then true else lit B p := by
  unfold lit
  by_cases e : P = p
  · subst e
    simp [hP]
  · simp [e]
theorem lit_off (p : Nat) : lit off64 p = false := by
  unfold lit off64
  simp only [List.getD_eq_getElem?_getD, List.getElem?_replicate]
  split <;> rfl

/-- What one pass keeps: s, h the set and the first; B₀ the marks at the pass's start; b: something was added. -/
structure Pass (s h : Nat) (B₀ B : List Bool) (b : Bool) (dn : Nat → Nat → Prop) : Prop where
  len : B.length = 64
  snd : ∀ p, lit B p = true → (p : Int) ∈ reachTo (s : Int) (h : Int) 64
  fst : lit B h = true
  more : b = true → cntB B₀ < cntB B
  same : b = false → B = B₀ ∧ ∀ g k, dn g k → g < 64 → k < 4 → lit B₀ g = true → setB (s : Int) k = true → lit B₀ (opV (g : Int) k).toNat = true
theorem Pass.skip {s h : Nat} {B₀ B : List Bool} {b : Bool} {dn dn' : Nat → Nat → Prop} (H : Pass s h B₀ B b dn) {g k : Nat} (hd : ∀ g' k', dn' g' k' → dn g' k' ∨ (g' = g ∧ k' = k))
    (hc : lit B g = true → setB (s : Int) k = true → lit B (opV (g : Int) k).toNat = true) : Pass s h B₀ B b dn' := by
  refine ⟨H.len, H.snd, H.fst, H.more, fun hb => ?_⟩
  obtain ⟨e, hs⟩ := H.same hb
  refine ⟨e, fun g' k' hd' hg hk m1 m2 => ?_⟩
  rcases hd g' k' hd' with h1 | ⟨rfl, rfl⟩
  · exact hs g' k' h1 hg hk m1 m2
  · rw [← e] at m1 ⊢
    exact hc m1 m2
theorem Pass.wide {s h : Nat} {B₀ B : List Bool} {b : Bool} {dn dn' : Nat → Nat → Prop} (H : Pass s h B₀ B b dn) (hd : ∀ g' k', g' < 64 → k' < 4 → dn' g' k' → dn g' k') : Pass s h B₀ B b dn' :=
  ⟨H.len, H.snd, H.fst, H.more, fun hb => ⟨(H.same hb).1, fun g k h1 h2 h3 => (H.same hb).2 g k (hd g k h2 h3 h1) h2 h3⟩⟩
theorem Pass.mark {s h : Nat} (h64 : h < 64) (s16 : s < 16) {B₀ B : List Bool} {b : Bool} {dn dn' : Nat → Nat → Prop} (H : Pass s h B₀ B b dn) {g k T : Nat} (hk : k < 4) (hg : g < 64) (m1 : lit B g = true) (m2 : setB (s : Int) k = true)
    (hT : opV (g : Int) k = T) (hT64 : T < 64) (m3 : lit B T = false) : Pass s h B₀ (B.set T true) true dn' := by
  have hl : T < B.length := by rw [H.len]; exact hT64
  refine ⟨by rw [List.length_set]; exact H.len, fun p hp => ?_, ?_, fun _ => ?_, fun hb => by cases hb⟩
  · rw [lit_set hl] at hp
    split at hp
    · rename_i e
      subst e
      have hx := H.snd g m1
      have := orb_shut h64 s16 (g : Int) hx k (by simp [opsTo, hk, m2])
      rw [opL_op k ⟨by omega, by omega⟩] at this
      rw [Int.toNat_natCast, hT] at this
      exact this
    · exact H.snd p hp
  · rw [lit_set hl]
    split
    · rfl
    · exact H.fst
  · rw [cntB_set hl m3]
    cases b with
    | true => have := H.more rfl; omega
    | false => rw [(H.same rfl).1]; omega
/-- The marked numbers below n. -/
def outL (B : List Bool) (n : Nat) : List Int := ((List.range n).filter (lit B)).map fun p : Nat => (p : Int)
theorem outL_yes {B : List Bool} {n : Nat} (h : lit B n = true) : outL B (n + 1) = outL B n ++ [(n : Int)] := by simp [outL, List.range_succ, List.filter_append, h]
theorem outL_no {B : List Bool} {n : Nat} (h : lit B n = false) : outL B (n + 1) = outL B n := by simp [outL, List.range_succ, List.filter_append, h]
theorem outL_len (B : List Bool) (n : Nat) : (outL B n).length ≤ n := by
  unfold outL
  rw [List.length_map]
  exact Nat.le_trans (List.length_filter_le _ _) (by simp)
theorem asc_ext : ∀ {xs ys : List Int}, xs.Pairwise (· < ·) → ys.Pairwise (· < ·) → (∀ x, x ∈ xs ↔ x ∈ ys) → xs = ys
  | [], [], _, _, _ => rfl
  | [], y :: ys, _, _, h => by have := (h y).2 (List.mem_cons_self ..); simp at this
  | x :: xs, [], _, _, h => by have := (h x).1 (List.mem_cons_self ..); simp at this
  | x :: xs, y :: ys, hx, hy, h => by
    rw [List.pairwise_cons] at hx hy
    have e : x = y := by
      have h1 := (h x).1 (List.mem_cons_self ..)
      have h2 := (h y).2 (List.mem_cons_self ..)
      rcases List.mem_cons.1 h1 with e | h1
      · exact e
      · rcases List.mem_cons.1 h2 with e | h2
        · exact e.symm
        · have := hx.1 y h2
          have := hy.1 x h1
          omega
    subst e
    rw [asc_ext hx.2 hy.2 fun z => ⟨fun hz => by
      rcases List.mem_cons.1 ((h z).1 (List.mem_cons_of_mem _ hz)) with e | h1
      · have := hx.1 z hz; omega
      · exact h1, fun hz => by
      rcases List.mem_cons.1 ((h z).2 (List.mem_cons_of_mem _ hz)) with e | h1
      · have := hy.1 z hz; omega
      · exact h1⟩]
theorem outL_asc (B : List Bool) (n : Nat) : (outL B n).Pairwise (· < ·) := by
  unfold outL
  rw [List.pairwise_map]
  exact ((List.pairwise_lt_range).filter _).imp (fun {a b} (h : a < b) => by omega)
theorem orb_pair {h s : Nat} (hh : h < 64) (hs : s < 16) : (orbitL (h : Int) (s : Int)).Pairwise (· < ·) := by
  rw [orb_eq hh hs]
  have h1 := sortL_asc (reachTo (s : Int) (h : Int) 64)
  have h2 : (sortL (reachTo (s : Int) (h : Int) 64)).Nodup := (sortL_perm _).nodup_iff.2 (orb_hexes hh).1
  exact (h1.and h2).imp fun {a b} ⟨x, y⟩ => by omega
/-- What is marked when nothing more is added is the orbit. -/
theorem outL_orbit {h s : Nat} (hh : h < 64) (hs : s < 16) {B₀ B : List Bool} (H : Pass s h B₀ B false fun _ _ => True) : outL B 64 = orbitL (h : Int) (s : Int) := by
  refine asc_ext (outL_asc _ _) (orb_pair hh hs) fun x => ?_
  rw [orb_mem hh hs]
  constructor
  · intro hx
    simp only [outL, List.mem_map, List.mem_filter] at hx
    obtain ⟨p, ⟨_, hp⟩, rfl⟩ := hx
    exact H.snd p hp
  · intro hx
    refine reach_least (C := outL B 64) ?_ ?_ 64 x hx
    · simp only [outL, List.mem_map, List.mem_filter, List.mem_range]
      exact ⟨h, ⟨hh, H.fst⟩, rfl⟩
    · intro y hy o ho
      simp only [outL, List.mem_map, List.mem_filter, List.mem_range] at hy ⊢
      obtain ⟨p, ⟨hp64, hp⟩, rfl⟩ := hy
      obtain ⟨e, hc⟩ := H.same rfl
      have ho2 : o < 4 ∧ setB (s : Int) o = true := by simpa [opsTo] using ho
      have hx := opV_hex (p : Int) o
      have hv := hc p o trivial hp64 ho2.1 (by rw [← e]; exact hp) ho2.2
      rw [← e] at hv
      rw [opL_op o ⟨by omega, by omega⟩, Int.toNat_natCast]
      have h0 := hx.1
      have h1 := hx.2
      exact ⟨(opV (p : Int) o).toNat, ⟨by omega, hv⟩, by omega⟩
end Go.Proofs.YtojlopfjhhiilaaGreatDoor
namespace Go.Proofs.YtojlopfjhhiilaaGreatDoor
open Go Go.RowKit
set_option linter.unusedVariables false
theorem set_bits : ∀ s : Nat, s < 16 → ∀ k : Nat, k < 4 → bits BinOp.and IntKind.i64 ((s : Int) / 2 ^ k) 1 = if setB (s : Int) k = true then 1 else 0 := by decide +kernel

def isT : Value → Bool
  | .bool b => b
  | _ => false
def cntW (w : World) (g : Nat) : Nat := match w.heap[g]? with
  | some (.cells cs _ _) => cntB (cs.toList.map isT)
  | _ => 0
theorem cntW_eq {w : World} {g : Nat} {t : TypeId} {B : List Bool} (h : Blk w g t (arrB B)) : cntW w g = cntB B := by
  unfold cntW
  rw [show w.heap[g]? = _ from h]
  have : ∀ bs : List Bool, (bs.map Value.bool).map isT = bs := fun bs => by
    induction bs with
    | nil => rfl
    | cons b r ih => simp only [List.map_cons, ih]; rfl
  simp only [arrB, this]
theorem lit_cell {w : World} {g : Nat} {t : TypeId} {B : List Bool} (h : Blk w g t (arrB B)) {p : Nat} (hp : p < B.length) {b : Bool} (hb : lit B p = b) : w.cell? ⟨g, p, none⟩ = some (.bool b) := by
  have := h.cell p
  rw [arrB_get hp] at this
  rw [this]
  unfold lit at hb
  rw [hb]

set_option maxRecDepth 100000 in
set_option maxHeartbeats 16000000 in
theorem refOrbit_any (h s : Nat) (h64 : h < 64) (s16 : s < 16) (w : World) :
    Calls Tryz.prog 11 #[.int .i64 h, .int .i64 s] w fun e w' => ∃ q, (∃ c, e = .returned (.slice q (orbitL (h : Int) (s : Int)).length c)) ∧ Reads w' q (orbitL (h : Int) (s : Int)) ∧ Below w.heap.size w w' := by
  obtain ⟨i0, hi, hz0, hz1, hz2⟩ := info_parts info_int
  go_enter Tryz.func11, Tryz.ntmps11
  have N0 := Lib.hid (show Blk (w.alloc (.cells (arrB off64) 34)) w.heap.size 34 (arrB off64) from Blk.new w _ _)
  go_upto_region 2 with (refine wpList_store_row rfl 34 (.tmp 5) (.tmp 11) rfl w.heap.size (arrB off64) rfl rfl 34 _ N0.out info_64b rfl (arrB_one _) ?_)
  have hb0 : Below w.heap.size w ((w.alloc (.cells (arrB off64) 34)).setRow w.heap.size (arrB off64)) := below_setRow ((Below.refl _ _).alloc (Nat.le_refl _) _) (Nat.le_refl _) _
  have HI := Lib.hid (show Blk ((w.alloc (.cells (arrB off64) 34)).setRow w.heap.size (arrB off64)) w.heap.size 34 (arrB off64) from N0.out.row _)
  clear N0
  generalize hW : (w.alloc (.cells (arrB off64) 34)).setRow w.heap.size (arrB off64) = W0 at hb0 HI
  have e2 : (w.alloc (.cells #[.bool false, .bool false, .bool false, .bool false, .bool false, .bool false, .bool false, .bool false, .bool false, .bool false, .bool false, .bool false, .bool false, .bool false, .bool false, .bool false, .bool false, .bool false, .bool false, .bool false, .bool false, .bool false, .bool false, .bool false, .bool false, .bool false, .bool false, .bool false, .bool false, .bool false, .bool false, .bool false, .bool false, .bool false, .bool false, .bool false, .bool false, .bool false, .bool false, .bool false, .bool false, .bool false, .bool false, .bool false, .bool false, .bool false, .bool false, .bool false, .bool false, .bool false, .bool false, .bool false, .bool false, .bool false, .bool false, .bool false, .bool false, .bool false, .bool false, .bool false, .bool false, .bool false, .bool false, .bool false] 34)).setRow w.heap.size (arrB off64) = W0 := hW
  rw [e2]
  clear hW e2
  have hh3 : (h : Int) < 64 := by omega
  have hc0 := lit_cell HI.out (p := h) (by simpa [off64] using h64) (lit_off h)
  have hf0 := HI.out.frozen h
  obtain ⟨G, hG⟩ : ∃ G, w.heap.size = G := ⟨_, rfl⟩
  rw [hG] at hc0 hf0 HI ⊢
  have HG := Lib.hid hG
  clear hG
  go_wp2
  clear hc0 hf0
  go_loopw [6] (fun more wr => ∃ (B : List Bool) (b : Bool), more = .bool b ∧ Hid (∃ B₀, Pass s h B₀ B b fun _ _ => True) ∧ Hid (Blk wr G 34 (arrB B)) ∧ Below w.heap.size w wr) (fun more wr => (64 - cntW wr G) + (if isT more then 1 else 0))
  case atStart =>
    refine ⟨off64.set h true, true, rfl, ⟨off64, by simp [off64], fun p hp => ?_, ?_, fun _ => ?_, fun e => by cases e⟩, ?_, hb0.setCell (p := ⟨G, h, none⟩) (by rw [← HG.out]; exact Nat.le_refl _) _⟩
    · rw [lit_set (by simpa [off64] using h64)] at hp
      split at hp
      · rename_i e
        subst e
        exact reach_first _ _ _
      · rw [lit_off] at hp
        cases hp
    · rw [lit_set (by simpa [off64] using h64), if_pos rfl]
    · rw [cntB_set (by simpa [off64] using h64) (lit_off h)]; omega
    · rw [← arrB_set]; exact HI.out.set_ h _
  case round =>
    obtain ⟨B, b, rfl, HP, HB, hB⟩ := hrel
    cases b
    · go_wp2
      obtain ⟨B₀, HPP⟩ := HP.out
      have HEQ := Lib.hid (outL_orbit h64 s16 HPP)
      have HLN := Lib.hid HPP.len
      have hown0 := none_ownsI wr
      have hbn := below1 wr (.cells #[] 3)
      have HBV := HB
      clear HPP HP HB
      obtain ⟨V, hV⟩ : ∃ V, wr = V := ⟨_, rfl⟩
      rw [hV] at HBV hB hown0 hbn ⊢
      clear hV
      go_loopw [9, 10] (fun v g wz => ∃ g' : Nat, g' ≤ 64 ∧ g = .int .i64 g' ∧ (∃ N, Hid ((outL B g').length = N) ∧ wz.ownsRow V.heap.size 3 1 v N ((outL B g').map (Value.int .i64))) ∧ Hid (Below V.heap.size V wz)) (fun _ g _ => 64 - (intOf g).toNat)
      case atStart => exact ⟨0, by omega, rfl, ⟨0, Lib.hid rfl, hown0⟩, Lib.hid hbn⟩
      case round =>
        obtain ⟨g', hg, rfl, ⟨N, HN, hown⟩, HX⟩ := hrel
        obtain ⟨q, c, e, hrd0⟩ := Got.of_owns hown
        rw [HN.out] at e
        subst e
        by_cases hlt : g' < 64
        · have hd : decide ((g' : Int) < 64) = true := decide_eq_true (by omega)
          have hg3 : (g' : Int) < 64 := by omega
          have hN64 : N ≤ 64 := by have := outL_len B g'; have := HN.out; omega
          have hsz := HX.out.size
          cases hm : lit B g'
          · have hc1 := lit_cell (HBV.out.below HX.out HBV.out.lt) (p := g') (by rw [HLN.out]; exact hlt) hm
            have HM := Lib.hid (outL_no hm)
            clear hm hrd0 hsz
            go_wp2
            go_roundw
            case rel => exact ⟨g' + 1, by omega, by go_num, ⟨N, by rw [HM.out]; exact HN, by rw [HM.out]; exact hown⟩, HX⟩
            case measure => simp [intOf]; omega
          · have hc1 := lit_cell (HBV.out.below HX.out HBV.out.lt) (p := g') (by rw [HLN.out]; exact hlt) hm
            have HM := Lib.hid (outL_yes hm)
            clear hm hrd0
            go_wp2_with (at_builtin; refine wpList_append_own _ rfl _ _ 22 rfl V.heap.size 3 i0 (.int .i64 0) 1 8 Tryz.underlying22 hi hz0 hz1 hz2 rfl (by decide) _ N _ rfl (hown.alloc _) ⟨wr.heap.size, 0, none⟩ 1 1 [.int .i64 (g' : Int)] rfl rfl (news_at _ _ rfl) (one_int _) (by unfold maxLen; omega) (by omega) (by simp; omega) ?_)
            intro v2 w6 hown3 hg6 _
            have hX6 : Below V.heap.size V w6 := (HX.out.alloc HX.out.size _).grown hg6 (by simp; omega) (owns_base hown)
            have hown4 : w6.ownsRow V.heap.size 3 1 v2 (N + 1) ((outL B (g' + 1)).map (Value.int .i64)) := by
              rw [HM.out]
              simpa using hown3
            have HO := Lib.hid hown4
            have HN2 := Lib.hid (show (outL B (g' + 1)).length = N + 1 by rw [HM.out, List.length_append, HN.out]; rfl)
            obtain ⟨q2, c2, e2, hrd⟩ := Got.of_owns hown4
            rw [HN2.out] at e2
            subst e2
            clear hg6 hown hown3 hown4 hrd hc1
            go_wp2
            go_roundw
            case rel => exact ⟨g' + 1, by omega, by go_num, ⟨N + 1, HN2, HO.out⟩, Lib.hid hX6⟩
            case measure => simp [intOf]; omega
        · obtain rfl : g' = 64 := by omega
          have hd : decide (((64 : Nat) : Int) < 64) = false := by decide
          have hrd1 := hrd0
          rw [HEQ.out] at hrd1
          have HN1 := Lib.hid (show (orbitL (h : Int) (s : Int)).length = N by rw [← HEQ.out]; exact HN.out)
          clear hrd0 hown
          go_wp2
          go_ret
          rw [HN1.out]
          exact ⟨q, ⟨c, rfl⟩, hrd1, tr hB HX.out⟩
    · go_wp2
      go_loopw [6, 7] (fun more g wz => ∃ (B' : List Bool) (b : Bool) (g' : Nat), g' ≤ 64 ∧ g = .int .i64 g' ∧ more = .bool b ∧ Hid (Pass s h B B' b fun x _ => x < g') ∧ Hid (Blk wz G 34 (arrB B')) ∧ Below w.heap.size w wz) (fun _ g _ => 64 - (intOf g).toNat)
      case atStart =>
        obtain ⟨B₀, P0⟩ := HP.out
        exact ⟨B, false, 0, by omega, rfl, rfl, Lib.hid ⟨P0.len, P0.snd, P0.fst, (fun e => by cases e), fun _ => ⟨rfl, fun g k h0 => by omega⟩⟩, HB, hB⟩
      case round =>
        obtain ⟨B', b, g', hg, rfl, rfl, HP2, HB2, hB2⟩ := hrel
        by_cases hlt : g' < 64
        · have hd2 : decide ((g' : Int) < 64) = true := decide_eq_true (by omega)
          go_wp2
          go_loopw [6, 8] (fun more k wz => ∃ (B'' : List Bool) (b : Bool) (k' : Nat), k' ≤ 4 ∧ k = .int .i64 k' ∧ more = .bool b ∧ Hid (Pass s h B B'' b fun x y => x < g' ∨ (x = g' ∧ y < k')) ∧ Hid (Blk wz G 34 (arrB B'')) ∧ Below w.heap.size w wz) (fun _ k _ => 4 - (intOf k).toNat)
          case atStart => exact ⟨B', b, 0, by omega, rfl, rfl, Lib.hid (HP2.out.wide fun x y _ _ h0 => by rcases h0 with h0 | ⟨_, h0⟩ <;> omega), HB2, hB2⟩
          case round =>
            obtain ⟨B'', b', k', hk, rfl, rfl, HP3, HB3, hB3⟩ := hrel
            by_cases hlk : k' < 4
            · have hdn : ∀ x y, (x < g' ∨ (x = g' ∧ y < k' + 1)) → (x < g' ∨ (x = g' ∧ y < k')) ∨ (x = g' ∧ y = k') := fun x y h0 => by omega
              have HDN := Lib.hid hdn
              have hg3 : (g' : Int) < 64 := by omega
              have hbt := set_bits s s16 k' hlk
              have hlen := HP3.out.len
              clear hdn
              cases hm : lit B'' g'
              · have hc1 := lit_cell HB3.out (p := g') (by omega) hm
                have HS := Lib.hid (HP3.out.skip (g := g') (k := k') HDN.out (fun e => by rw [hm] at e; cases e))
                clear hm hbt hlen
                go_wp2
                go_roundw
                case rel => exact ⟨B'', b', k' + 1, by omega, by go_num, rfl, HS, HB3, hB3⟩
                case measure => simp [intOf]; omega
              · have hc1 := lit_cell HB3.out (p := g') (by omega) hm
                cases hset : setB (s : Int) k'
                · rw [hset] at hbt
                  have hbt : bits BinOp.and IntKind.i64 ((s : Int) / 2 ^ k') 1 = 0 := by simpa using hbt
                  have HS := Lib.hid (HP3.out.skip (g := g') (k := k') HDN.out (fun _ e => by rw [hset] at e; cases e))
                  clear hm hset hlen
                  go_wp2
                  go_roundw
                  case rel => exact ⟨B'', b', k' + 1, by omega, by go_num, rfl, HS, HB3, hB3⟩
                  case measure => simp [intOf]; omega
                · rw [hset] at hbt
                  have hbt : bits BinOp.and IntKind.i64 ((s : Int) / 2 ^ k') 1 = 1 := by simpa using hbt
                  have HM := Lib.hid hm
                  have HSE := Lib.hid hset
                  clear hm hset
                  go_wp2_with fail
                  refine (refOp_any (g' : Int) ⟨by omega, by omega⟩ (k' : Int) (by omega) (by omega) _).mono ?_
                  rintro e w3 ⟨rfl, hb3⟩
                  rw [Int.toNat_natCast]
                  have hvx := opV_hex (g' : Int) k'
                  obtain ⟨T, hT⟩ := Int.eq_ofNat_of_zero_le hvx.1
                  have hT3 : (T : Int) < 64 := by have := hvx.2; omega
                  have hT64 : T < 64 := by omega
                  have hTT : (opV (g' : Int) k').toNat = T := by rw [hT]; exact Int.toNat_natCast _
                  have HTV := Lib.hid hT
                  have HTT := Lib.hid hTT
                  rw [hT]
                  have hB4 := tr hB3 hb3
                  have HB4 := Lib.hid (HB3.out.below hb3 HB3.out.lt)
                  clear hb3 hvx hT hTT hc1
                  cases hmT : lit B'' T
                  · have hc2 := lit_cell HB4.out (p := T) (by omega) hmT
                    have HMK := Lib.hid (HP3.out.mark (dn' := fun x y => x < g' ∨ (x = g' ∧ y < k' + 1)) h64 s16 hlk hlt HM.out HSE.out HTV.out hT64 hmT)
                    clear hmT
                    go_wp2_with fail
                    refine (refOp_any (g' : Int) ⟨by omega, by omega⟩ (k' : Int) (by omega) (by omega) _).mono ?_
                    rintro e w5 ⟨rfl, hb5⟩
                    rw [Int.toNat_natCast, HTV.out]
                    have hB6 := tr hB4 hb5
                    have HB6 := Lib.hid (HB4.out.below hb5 HB4.out.lt)
                    have hc3 := cell_tr hb5 hc2
                    have hf3 := HB6.out.frozen T
                    clear hb5 hc2 hbt hlen
                    go_wp2
                    go_roundw
                    case rel => exact ⟨B''.set T true, true, k' + 1, by omega, by go_num, rfl, HMK, Lib.hid (by rw [← arrB_set]; exact HB6.out.set_ T _), hB6.setCell (p := ⟨G, T, none⟩) (by rw [← HG.out]; exact Nat.le_refl _) _⟩
                    case measure => simp [intOf]; omega
                  · have hc2 := lit_cell HB4.out (p := T) (by omega) hmT
                    have HS := Lib.hid (HP3.out.skip (g := g') (k := k') HDN.out (fun _ _ => by rw [HTT.out]; exact hmT))
                    clear hmT hlen
                    go_wp2
                    go_roundw
                    case rel => exact ⟨B'', b', k' + 1, by omega, by go_num, rfl, HS, HB4, hB4⟩
                    case measure => simp [intOf]; omega
            · obtain rfl : k' = 4 := by omega
              have hd4 : decide (((4 : Nat) : Int) < 4) = false := by decide
              go_wp2
              go_roundw
              case rel => exact ⟨B'', b', g' + 1, by omega, by go_num, rfl, Lib.hid (HP3.out.wide fun x y _ _ h0 => by omega), HB3, hB3⟩
              case measure => simp [intOf]; omega
        · obtain rfl : g' = 64 := by omega
          have hd4 : decide (((64 : Nat) : Int) < 64) = false := by decide
          have hms : 64 - cntW wr G + (if isT (.bool b) then 1 else 0) < 64 - cntB B + 1 := by
            rw [cntW_eq HB2.out]
            have h1 := HP2.out.len
            have h2 := cntB_le B'
            cases b
            · have := (HP2.out.same rfl).1
              rw [this]
              simp [isT]
            · have := HP2.out.more rfl
              simp [isT]
              omega
          have HMS := Lib.hid hms
          have HCW := Lib.hid (cntW_eq HB.out)
          clear hms
          go_wp2
          go_roundw
          case rel => exact ⟨B', b, rfl, ⟨B, HP2.out.wide fun x y h0 _ _ => h0⟩, HB2, hB2⟩
          case measure => have := HMS.out; rw [HCW.out]; simpa [isT] using this
end Go.Proofs.YtojlopfjhhiilaaGreatDoor
namespace Go.Proofs.YtojlopfjhhiilaaGreatDoor
open Go Go.RowKit
set_option linter.unusedVariables false

section
variable {P : Program} {o : Oper} {a : Act} {C : World → Prop} {K : Act → Prop}
theorem quiet_load_mid (ty : TypeId) (x : Operand) (ho : o.op = .load ty x) (b off : Nat) (hx : a.eval x = .pointer (some ⟨b, off, none⟩)) (cs : List Value) (d : TypeDesc) (hC : ∀ w, C w → w.rangeAt b off cs)
    (hu : P.underlying ty = some d) (hd : d.isRow = true) (hi : (P.info? ty).map (·.size) = some cs.length) (hk : K (a.put o.dst (.agg cs.toArray))) : o.quiet P a C K :=
  ⟨_, fun w hw => by
    unfold Oper.quietAt execOp
    simp only [ho, hx, Sem.run_bind, run_loadAt_mid w b off ty cs d (hC w hw) hu hd hi, Result.andThen_ok]
    exact ⟨rfl, rfl⟩, hk⟩
theorem quiet_eql (t t2 e : TypeId) (x y : Operand) (n : Nat) (ho : o.op = .binOp .eql t x y t2) (ht : P.underlying t = some (.array n e)) (he : P.underlying e = some (.int .i64)) (hs : (P.info? e).map (·.size) = some 1)
    (xs ys : List Int) (hx : a.eval x = .agg (arr xs)) (hy : a.eval y = .agg (arr ys)) (hl : xs.length = n) (hl2 : ys.length = n) (hm : P.eqGuardType P.depth t = false) (hk : K (a.put o.dst (.bool (decide (xs = ys))))) : o.quiet P a C K :=
  ⟨_, fun w hw => by
    unfold Oper.quietAt execOp
    simp only [ho, hx, hy, Sem.run_bind, run_eqGuard_agg w .eql t x y _ _ hm, eql_ints t e n ht he hs xs ys hl hl2 w, Result.andThen_ok]
    exact ⟨rfl, rfl⟩, hk⟩
end
theorem info_64i : (Tryz.prog.info? 46).map (fun i => (i.zero, i.size, i.bytes)) = some (some (.agg (arr (List.replicate 64 0))), 64, 512) := by kernel_rfl
theorem size_64i : (Tryz.prog.info? 46).map (·.size) = some 64 := by kernel_rfl
theorem size_int : (Tryz.prog.info? 3).map (·.size) = some 1 := by kernel_rfl
/-- The first n places are given by f, the others are 0. -/
def setTo (f : Nat → Int) : Nat → List Int
  | 0 => List.replicate 64 0
  | n + 1 => (setTo f n).set n (f n)
theorem setTo_eq (f : Nat → Int) : ∀ n, n ≤ 64 → setTo f n = upto f n ++ List.replicate (64 - n) 0
  | 0, _ => rfl
  | n + 1, h => by
    rw [setTo, setTo_eq f n (by omega), upto_succ]
    have e : 64 - n = (64 - (n + 1)) + 1 := by omega
    have := upto_length f n
    rw [e, List.replicate_succ, List.set_append]
    simp [this]
theorem setTo_64 (f : Nat → Int) : setTo f 64 = upto f 64 := by rw [setTo_eq f 64 (Nat.le_refl _)]; simp
theorem setTo_length (f : Nat → Int) (n : Nat) : (setTo f n).length = 64 := by
  induction n with
  | zero => simp [setTo]
  | succ n ih => rw [setTo, List.length_set, ih]
theorem setTo_id : setTo (fun h => (h : Int)) 64 = idL := by rw [setTo_64]; rfl
theorem setTo_comp {X : List Int} (hX : MapL X) (o : Nat) : setTo (fun h => opV (nth X h) o) 64 = compL X (opL o) := by
  rw [setTo_64]
  unfold upto compL
  apply List.ext_getElem (by simp [hX.1])
  intro i h1 h2
  have hi : i < X.length := by simpa using h2
  have hx := hX.2 _ (List.getElem_mem hi)
  simp only [List.getElem_map, List.getElem_range]
  rw [opL_op o hx, nth_eq hi]
  congr 1
  have := hx.1
  omega
theorem gotT {W : World} {B : Nat} {t : TypeId} {v : Value} {fs : List (List Int)} (hfs : Mapps fs) (h : W.ownsRow B t 64 v fs.length (flatM fs)) : ∃ p c, v = .slice p fs.length c ∧ ∀ k, k < fs.length → ∃ g, p = some ⟨g, 0, none⟩ ∧ W.rangeAt g (64 * k) ((nthM fs k).map (Value.int .i64)) := by
  have hc := fun g hg => h.cells (g := g) hg
  rcases h.2 with ⟨rfl, h0⟩ | ⟨g, cap, cur, rfl, _, _, _⟩
  · exact ⟨none, 0, by rw [h0], fun k hk => by omega⟩
  · refine ⟨_, cap, rfl, fun k hk => ⟨g, rfl, fun j u hj => ?_⟩⟩
    have hm := hfs _ (nthM_mem hk)
    have hj64 : j < 64 := by
      have := (List.getElem?_eq_some_iff.1 hj).1
      simp [hm.1] at this
      exact this
    have := hc g rfl (64 * k + j) u (by rw [flatM_at hfs hj64, List.getElem?_eq_getElem hk, ← nthM_eq hk]; exact hj)
    have e : (⟨g, 0, none⟩ : Addr).add (64 * k + j) = ⟨g, 0 + (64 * k + j), none⟩ := by unfold Addr.add; split <;> simp_all
    rw [e, Nat.zero_add] at this
    exact this
theorem news_arrT (w : World) (t : TypeId) (Y : List Int) : ∀ j u, (Y.map (Value.int .i64))[j]? = some u → (w.alloc (.cells (arr Y) t)).cell? ((⟨w.heap.size, 0, none⟩ : Addr).add j) = some u := fun j u hj => by
  rw [Go.WideShapes.add_plain, Nat.zero_add, (Blk.new w t (arr Y)).cell j]
  simpa [arr] using hj

set_option maxRecDepth 100000 in
set_option maxHeartbeats 16000000 in
theorem refMaps_any (s : Nat) (s16 : s < 16) (w : World) :
    Calls Tryz.prog 7 #[.int .i64 s] w fun e w' => e = .returned (.int .i64 (mapsN (s : Int) : Nat)) ∧ Below w.heap.size w w' := by
  obtain ⟨ie, hie, hz, hsz, hby⟩ := info_parts info_64i
  have HIE := Lib.hid (show Tryz.prog.info? 46 = some ie ∧ ie.zero = some (.agg (arr (List.replicate 64 0))) ∧ ie.size = 64 ∧ ie.bytes = 512 from ⟨hie, hz, hsz, hby⟩)
  have HL52 := Lib.hid (fun k => reachM_52 (set := (s : Int)) (by omega) (by omega) k)
  clear hie hz hsz hby
  go_enter Tryz.func7, Tryz.ntmps7
  have N0 := Lib.hid (show Blk (w.alloc (.cells (arr (List.replicate 64 0)) 46)) w.heap.size 46 (arr (List.replicate 64 0)) from Blk.new w _ _)
  go_upto_region 2 with (refine wpList_store_row rfl 46 (.tmp 3) (.tmp 12) rfl w.heap.size (arr (List.replicate 64 0)) rfl rfl 46 _ N0.out size_64i rfl (arr_one _) ?_)
  have hb0 : Below w.heap.size w ((w.alloc (.cells (arr (List.replicate 64 0)) 46)).setRow w.heap.size (arr (List.replicate 64 0))) := below_setRow ((Below.refl _ _).alloc (Nat.le_refl _) _) (Nat.le_refl _) _
  have HI := Lib.hid (show Blk ((w.alloc (.cells (arr (List.replicate 64 0)) 46)).setRow w.heap.size (arr (List.replicate 64 0))) w.heap.size 46 (arr (setTo (fun h => (h : Int)) 0)) from N0.out.row _)
  clear N0
  generalize hW : (w.alloc (.cells (arr (List.replicate 64 0)) 46)).setRow w.heap.size (arr (List.replicate 64 0)) = W0 at hb0 HI
  have e2 : (w.alloc (.cells #[.int .i64 0, .int .i64 0, .int .i64 0, .int .i64 0, .int .i64 0, .int .i64 0, .int .i64 0, .int .i64 0, .int .i64 0, .int .i64 0, .int .i64 0, .int .i64 0, .int .i64 0, .int .i64 0, .int .i64 0, .int .i64 0, .int .i64 0, .int .i64 0, .int .i64 0, .int .i64 0, .int .i64 0, .int .i64 0, .int .i64 0, .int .i64 0, .int .i64 0, .int .i64 0, .int .i64 0, .int .i64 0, .int .i64 0, .int .i64 0, .int .i64 0, .int .i64 0, .int .i64 0, .int .i64 0, .int .i64 0, .int .i64 0, .int .i64 0, .int .i64 0, .int .i64 0, .int .i64 0, .int .i64 0, .int .i64 0, .int .i64 0, .int .i64 0, .int .i64 0, .int .i64 0, .int .i64 0, .int .i64 0, .int .i64 0, .int .i64 0, .int .i64 0, .int .i64 0, .int .i64 0, .int .i64 0, .int .i64 0, .int .i64 0, .int .i64 0, .int .i64 0, .int .i64 0, .int .i64 0, .int .i64 0, .int .i64 0, .int .i64 0, .int .i64 0] 46)).setRow w.heap.size (arr (List.replicate 64 0)) = W0 := hW
  rw [e2]
  clear hW e2
  obtain ⟨G, hG⟩ : ∃ G, w.heap.size = G := ⟨_, rfl⟩
  rw [hG] at HI ⊢
  have HG := Lib.hid hG
  clear hG
  go_wp2
  go_loopw [4] (fun i wr => ∃ k : Nat, k ≤ 64 ∧ i = .int .i64 k ∧ Hid (Blk wr G 46 (arr (setTo (fun h => (h : Int)) k))) ∧ Below w.heap.size w wr) (fun i _ => 64 - (intOf i).toNat)
  case atStart => exact ⟨0, by omega, rfl, HI, hb0⟩
  case round =>
    obtain ⟨k, hk, rfl, HB, hB⟩ := hrel
    by_cases hlt : k < 64
    · have hk3 : (k : Int) < 64 := by omega
      have hc := HB.out.cell k
      rw [arr_get (by rw [setTo_length]; exact hlt)] at hc
      have hf := HB.out.frozen k
      have HS := Lib.hid (show Blk (wr.setCell ⟨G, k, none⟩ (.int .i64 (k : Int))) G 46 (arr (setTo (fun h => (h : Int)) (k + 1))) by
        rw [setTo, ← arr_set]; exact HB.out.set_ k _)
      generalize nth (setTo (fun h => (h : Int)) k) k = u at hc
      go_wp2
      go_roundw
      case rel => exact ⟨k + 1, by omega, by go_num, HS, hB.setCell (p := ⟨G, k, none⟩) (by rw [← HG.out]; exact Nat.le_refl _) _⟩
      case measure => simp [intOf]; omega
    · obtain rfl : k = 64 := by omega
      have hd : decide (((64 : Nat) : Int) < 64) = false := by decide
      have HB2 := Lib.hid (show Blk wr G 46 (arr idL) by rw [← setTo_id]; exact HB.out)
      have HIi := Lib.hid (show (Tryz.prog.info? 46).map (·.size) = some (arr idL).size by rw [arr_size, idL_map.1]; exact size_64i)
      have HFILL := Lib.hid (fun zs (h : zs.size = 64) => fill_row (arr idL) zs 64 (by decide) (by rw [arr_size, idL_map.1]) h)
      have HID := Lib.hid idL_map
      have HR0 := Lib.hid (show reachM (s : Int) 0 = [idL] from rfl)
      clear hlt hk HB
      obtain ⟨M, hM⟩ : ∃ M, idL = M := ⟨_, rfl⟩
      rw [hM] at HB2 HIi HFILL HID HR0
      clear hM
      obtain ⟨ie1, ie2, ie3, ie4⟩ := HIE.out
      obtain ⟨V, hV⟩ : ∃ V, wr = V := ⟨_, rfl⟩
      rw [hV] at HB2 hB ⊢
      clear hV
      have HOW := Lib.hid (show (V.alloc (.cells (arr M) 46)).ownsRow V.heap.size 46 64 (.slice (some ⟨V.heap.size, 0, none⟩) 1 1) [M].length (flatM [M]) from
        ⟨by simp [flatM, HID.out.1], Or.inr ⟨V.heap.size, 1, arr M, rfl, Nat.le_refl _, Blk.new V 46 (arr M), Nat.le_refl _, by unfold maxLen; omega, by rw [arr_size, HID.out.1], by
          have h64 := HID.out.1
          simp only [flatM, List.flatMap_cons, List.flatMap_nil, List.append_nil, arr]
          exact List.take_of_length_le (by simp [h64])⟩⟩)
      go_wp2_with (first
        | (refine wpList_load_row rfl 46 (.tmp 3) rfl G rfl 46 (arr M) (0, 0) _ HB2.out Tryz.underlying46 rfl HIi.out ?_)
        | (refine wpList_buildSlice rfl 52 46 1 #[(0, .tmp 20)] rfl (arr M) ie (.agg (arr (List.replicate 64 0))) Tryz.underlying52 ie1 ie2 (by rw [ie3]; decide) (by rw [ie3]; decide) (by rw [ie3]; simp only [List.map_toArray, List.map_cons, List.map_nil]; exact HFILL.out _ (by simp)) ?_) | fail)
      clear ie1 ie2 ie3 ie4
      go_loopw [5, 6] (fun v i wz => ∃ (k : Nat) (fs : List (List Int)), i = .int .i64 k ∧ k ≤ fs.length ∧ Hid (reachM (s : Int) k = fs) ∧ Hid (wz.ownsRow V.heap.size 46 64 v fs.length (flatM fs)) ∧ Below w.heap.size w wz) (fun _ i _ => 53 - (intOf i).toNat)
      case atStart => exact ⟨0, [M], rfl, by omega, HR0, HOW, hB.alloc hB.size _⟩
      case round =>
        obtain ⟨i, fs, rfl, hi, HFS, HOWN, hB2⟩ := hrel
        have HMP := Lib.hid (show Mapps fs by rw [← HFS.out]; exact reachM_maps _ _)
        have hl52 : fs.length ≤ 52 := by rw [← HFS.out]; exact HL52.out i
        obtain ⟨p, c, rfl, hgot⟩ := gotT HMP.out HOWN.out
        have HGOT := Lib.hid hgot
        clear hgot
        by_cases hlt : i < fs.length
        · have hdi : decide (i < fs.length) = true := decide_eq_true hlt
          have HXM := Lib.hid (show MapL (nthM fs i) from HMP.out _ (nthM_mem hlt))
          obtain ⟨X, hX⟩ : ∃ X, nthM fs i = X := ⟨_, rfl⟩
          have HX := Lib.hid hX
          rw [hX] at HXM
          have HLI := Lib.hid hlt
          clear hX hi
          go_wp2
          go_loopw [5, 7] (fun v kk wz => ∃ (k : Nat) (gs : List (List Int)), kk = .int .i64 k ∧ k ≤ 4 ∧ Hid (stepM X fs (opsTo (s : Int) k) = gs) ∧ Hid (wz.ownsRow V.heap.size 46 64 v gs.length (flatM gs)) ∧ Below w.heap.size w wz) (fun _ kk _ => 4 - (intOf kk).toNat)
          case atStart => exact ⟨0, fs, rfl, by omega, Lib.hid rfl, HOWN, hB2⟩
          case round =>
            obtain ⟨k, gs, rfl, hk, HGS, HOWN2, hB3⟩ := hrel
            have HMG := Lib.hid (show Mapps gs by rw [← HGS.out]; exact stepM_maps HXM.out _ HMP.out)
            have HNX := Lib.hid (show nthM gs i = X by rw [← HGS.out, (stepM_len X fs _).2 i HLI.out]; exact HX.out)
            have hig : i < gs.length := by
              have := (stepM_len X fs (opsTo (s : Int) k)).1
              rw [HGS.out] at this
              have := HLI.out
              omega
            have hlg : gs.length ≤ 56 := by
              have h1 := stepM_len2 X fs (opsTo (s : Int) k)
              rw [HGS.out] at h1
              have h2 := opsTo_len (s : Int) k
              omega
            obtain ⟨p2, c2, rfl, hgot2⟩ := gotT HMG.out HOWN2.out
            have HGOT2 := Lib.hid hgot2
            clear hgot2
            by_cases hlk : k < 4
            · have hdk : decide ((k : Int) < 4) = true := decide_eq_true (by omega)
              have hbt := set_bits s s16 k hlk
              cases hset : setB (s : Int) k
              · rw [hset] at hbt
                have hbt : bits BinOp.and IntKind.i64 ((s : Int) / 2 ^ k) 1 = 0 := by simpa using hbt
                have HN := Lib.hid (show stepM X fs (opsTo (s : Int) (k + 1)) = gs by rw [opsTo_no hset, HGS.out])
                clear hset
                go_wp2
                go_roundw
                case rel => exact ⟨k + 1, gs, by go_num, by omega, HN, HOWN2, hB3⟩
                case measure => simp [intOf]; omega
              · rw [hset] at hbt
                have hbt : bits BinOp.and IntKind.i64 ((s : Int) / 2 ^ k) 1 = 1 := by simpa using hbt
                have HN := Lib.hid (show stepM X fs (opsTo (s : Int) (k + 1)) = addM gs (compL X (opL k)) by rw [opsTo_yes hset, stepM_snoc, HGS.out])
                have HYM := Lib.hid (compL_map HXM.out (opL_map k))
                have HSC := Lib.hid (setTo_comp HXM.out k)
                obtain ⟨Y, hY⟩ : ∃ Y, compL X (opL k) = Y := ⟨_, rfl⟩
                rw [hY] at HN HYM HSC
                clear hset hY
                obtain ⟨g, rfl, hrange⟩ := HGOT2.out i hig
                rw [HNX.out] at hrange
                have HRG := Lib.hid hrange
                clear hrange
                obtain ⟨V3, hV3⟩ : ∃ V3, wr = V3 := ⟨_, rfl⟩
                rw [hV3] at HOWN2 HGOT2 HRG hB3 ⊢
                clear hV3
                have N0 := Lib.hid (show Blk (V3.alloc (.cells (arr (List.replicate 64 0)) 46)) V3.heap.size 46 (arr (List.replicate 64 0)) from Blk.new V3 _ _)
                go_upto_region 15 with (refine wpList_store_row rfl 46 (.tmp 8) (.tmp 38) rfl V3.heap.size (arr (List.replicate 64 0)) rfl rfl 46 _ N0.out size_64i rfl (arr_one _) ?_)
                have hU := below_setRow ((Below.refl V3.heap.size V3).alloc (Nat.le_refl _) (.cells (arr (List.replicate 64 0)) 46)) (Nat.le_refl _) (arr (List.replicate 64 0))
                have HBN := Lib.hid (show Blk ((V3.alloc (.cells (arr (List.replicate 64 0)) 46)).setRow V3.heap.size (arr (List.replicate 64 0))) V3.heap.size 46 (arr (setTo (fun h => opV (nth X h) k) 0)) from N0.out.row _)
                clear N0
                generalize hW3 : (V3.alloc (.cells (arr (List.replicate 64 0)) 46)).setRow V3.heap.size (arr (List.replicate 64 0)) = U at hU HBN
                have e3 : (V3.alloc (.cells #[.int .i64 0, .int .i64 0, .int .i64 0, .int .i64 0, .int .i64 0, .int .i64 0, .int .i64 0, .int .i64 0, .int .i64 0, .int .i64 0, .int .i64 0, .int .i64 0, .int .i64 0, .int .i64 0, .int .i64 0, .int .i64 0, .int .i64 0, .int .i64 0, .int .i64 0, .int .i64 0, .int .i64 0, .int .i64 0, .int .i64 0, .int .i64 0, .int .i64 0, .int .i64 0, .int .i64 0, .int .i64 0, .int .i64 0, .int .i64 0, .int .i64 0, .int .i64 0, .int .i64 0, .int .i64 0, .int .i64 0, .int .i64 0, .int .i64 0, .int .i64 0, .int .i64 0, .int .i64 0, .int .i64 0, .int .i64 0, .int .i64 0, .int .i64 0, .int .i64 0, .int .i64 0, .int .i64 0, .int .i64 0, .int .i64 0, .int .i64 0, .int .i64 0, .int .i64 0, .int .i64 0, .int .i64 0, .int .i64 0, .int .i64 0, .int .i64 0, .int .i64 0, .int .i64 0, .int .i64 0, .int .i64 0, .int .i64 0, .int .i64 0, .int .i64 0] 46)).setRow V3.heap.size (arr (List.replicate 64 0)) = U := hW3
                rw [e3]
                clear hW3 e3
                obtain ⟨N, hN⟩ : ∃ N, V3.heap.size = N := ⟨_, rfl⟩
                rw [hN] at hU HBN ⊢
                have HNN := Lib.hid hN
                clear hN
                go_wp2
                go_loopw [9] (fun hh wz => ∃ m : Nat, m ≤ 64 ∧ hh = .int .i64 m ∧ Hid (Blk wz N 46 (arr (setTo (fun h => opV (nth X h) k) m))) ∧ Hid (Below N V3 wz)) (fun hh _ => 64 - (intOf hh).toNat)
                case atStart => exact ⟨0, by omega, rfl, HBN, Lib.hid hU⟩
                case round =>
                  obtain ⟨m, hm, rfl, HB4, HX4⟩ := hrel
                  by_cases hl4 : m < 64
                  · have hm3 : (m : Int) < 64 := by omega
                    have hxm := HXM.out.nth hl4
                    have hc : wr.cell? ⟨g, i * 64 + m, none⟩ = some (.int .i64 (nth X m)) := by
                      have := HRG.out m (.int .i64 (nth X m)) (by rw [List.getElem?_map, nth_eq (by rw [HXM.out.1]; exact hl4), List.getElem?_eq_getElem (by rw [HXM.out.1]; exact hl4)]; rfl)
                      rw [Nat.mul_comm 64 i] at this
                      exact cell_tr (by rw [HNN.out]; exact HX4.out) this
                    have HST := Lib.hid (show setTo (fun h => opV (nth X h) k) (m + 1) = (setTo (fun h => opV (nth X h) k) m).set m (opV (nth X m) k) from rfl)
                    obtain ⟨x, hx⟩ : ∃ x, nth X m = x := ⟨_, rfl⟩
                    rw [hx] at hxm hc HST
                    clear hx
                    go_wp2_with fail
                    refine (refOp_any x hxm (k : Int) (by omega) (by omega) _).mono ?_
                    rintro e w5 ⟨rfl, hb5⟩
                    rw [Int.toNat_natCast]
                    have HX5 := Lib.hid (HX4.out.trans (hb5.mono (by have := HB4.out.lt; omega)))
                    have HB5 := Lib.hid (HB4.out.below hb5 HB4.out.lt)
                    have hc5 := HB5.out.cell m
                    rw [arr_get (by rw [setTo_length]; exact hl4)] at hc5
                    have hf5 := HB5.out.frozen m
                    generalize nth (setTo (fun h => opV (nth X h) k) m) m = u at hc5
                    clear hb5 hc hxm
                    go_wp2
                    go_roundw
                    case rel => exact ⟨m + 1, by omega, by go_num, Lib.hid (by rw [HST.out, ← arr_set]; exact HB5.out.set_ m _), Lib.hid (HX5.out.setCell (p := ⟨N, m, none⟩) (Nat.le_refl _) _)⟩
                    case measure => simp [intOf]; omega
                  · obtain rfl : m = 64 := by omega
                    have hd64 : decide (((64 : Nat) : Int) < 64) = false := by decide
                    have HBY := Lib.hid (show Blk wr N 46 (arr Y) by rw [← HSC.out]; exact HB4.out)
                    clear hl4 hm HB4
                    go_wp2
                    go_loopw [10, 11] (fun old j wz => ∃ (m : Nat) (b : Bool), m ≤ gs.length ∧ j = .int .i64 m ∧ old = .bool b ∧ Hid (b = decide (Y ∈ gs.take m)) ∧ Hid (Blk wz N 46 (arr Y)) ∧ Hid (Below N V3 wz)) (fun _ j _ => gs.length - (intOf j).toNat)
                    case atStart => exact ⟨0, false, by omega, rfl, rfl, Lib.hid (by simp), HBY, HX4⟩
                    case round =>
                      obtain ⟨m, b, hm, rfl, rfl, HBB, HB6, HX6⟩ := hrel
                      by_cases hl6 : m < gs.length
                      · have hdm : decide (m < gs.length) = true := decide_eq_true hl6
                        have HTK := Lib.hid (show gs.take (m + 1) = gs.take m ++ [nthM gs m] by rw [List.take_add_one, List.getElem?_eq_getElem hl6, nthM_eq hl6]; rfl)
                        cases b
                        · have HLM := Lib.hid (HMG.out _ (nthM_mem hl6))
                          have HR6 : Hid (wr.rangeAt g (m * 64) ((nthM gs m).map (Value.int .i64))) := by
                            obtain ⟨g', e', hr'⟩ := HGOT2.out m hl6
                            simp only [Option.some.injEq, Addr.mk.injEq, and_true] at e'
                            subst e'
                            rw [Nat.mul_comm 64 m] at hr'
                            exact fun j u hj => cell_tr (by rw [HNN.out]; exact HX6.out) (hr' j u hj)
                          have HRN : Hid (wr.rangeAt N 0 (Y.map (Value.int .i64))) := Blk.range HB6.out
                          have HI1 := Lib.hid (show (Tryz.prog.info? 46).map (·.size) = some ((nthM gs m).map (Value.int .i64)).length by rw [List.length_map, HLM.out.1]; exact size_64i)
                          have HI2 := Lib.hid (show (Tryz.prog.info? 46).map (·.size) = some (Y.map (Value.int .i64)).length by rw [List.length_map, HYM.out.1]; exact size_64i)
                          obtain ⟨Z, hZ⟩ : ∃ Z, nthM gs m = Z := ⟨_, rfl⟩
                          rw [hZ] at HLM HR6 HI1 HTK
                          have HT3 := Lib.hid (show decide (Z = Y) = decide (Y ∈ gs.take (m + 1)) by
                            have h0 : ¬ Y ∈ gs.take m := by simpa using HBB.out.symm
                            rw [HTK.out]
                            simp [h0, eq_comm])
                          clear hZ HTK
                          go_wp2
                          refine wp_region_quiet_lit (by kernel_rfl) (by kernel_rfl) ?_
                          go_big_quiet_step (fail)
                          go_big_quiet_step (fail)
                          go_big_quiet_step (fail)
                          go_big_quiet_step (fail)
                          go_big_quiet_step (fail)
                          go_big_quiet_want
                          refine quiet_load_mid 46 (.tmp 63) rfl g (m * 64) rfl (Z.map (Value.int .i64)) _ (fun w' hw' => by obtain ⟨n', e'⟩ := hw'; subst e'; exact HR6.out) Tryz.underlying46 rfl HI1.out ?_
                          go_big_quiet_on
                          go_frame
                          go_big_quiet_want
                          refine quiet_load_mid 46 (.tmp 8) rfl N 0 rfl (Y.map (Value.int .i64)) _ (fun w' hw' => by obtain ⟨n', e'⟩ := hw'; subst e'; exact HRN.out) Tryz.underlying46 rfl HI2.out ?_
                          go_big_quiet_on
                          go_frame
                          go_big_quiet_want
                          refine quiet_eql 46 46 3 (.tmp 64) (.tmp 65) 64 rfl Tryz.underlying46 Tryz.underlying3 size_int Z Y rfl rfl HLM.out.1 HYM.out.1 (by kernel_rfl) ?_
                          go_big_quiet_on
                          go_frame
                          repeat (go_big_quiet_step (fail))
                          refine wpQuiet_nil ?_
                          intro _ hw'
                          obtain ⟨nq, hw''⟩ := hw'
                          subst hw''
                          go_wp2
                          go_roundw
                          case rel => exact ⟨m + 1, decide (Z = Y), by omega, by go_num, rfl, HT3, HB6, Lib.hid (below_drewN HX6.out nq)⟩
                          case measure => simp [intOf]; omega
                        · have HT2 := Lib.hid (show true = decide (Y ∈ gs.take (m + 1)) by
                            have : Y ∈ gs.take m := by simpa using HBB.out.symm
                            rw [HTK.out]
                            simp [this])
                          go_wp2
                          go_quiet (fail)
                          go_wp2
                          go_roundw
                          case rel => exact ⟨m + 1, true, by omega, by go_num, rfl, HT2, HB6, Lib.hid (below_drewN HX6.out nq)⟩
                          case measure => simp [intOf]; omega
                      · obtain rfl : m = gs.length := by omega
                        have hdm : decide (gs.length < gs.length) = false := decide_eq_false (by omega)
                        have hB7 := hB3.trans ((show Below V3.heap.size V3 wr by rw [HNN.out]; exact HX6.out).mono hB3.size)
                        have HOW7 := Lib.hid (owns_below HOWN2.out (show Below V3.heap.size V3 wr by rw [HNN.out]; exact HX6.out))
                        have hVN : V.heap.size ≤ wr.heap.size := by have h1 := HX6.out.size; have h2 := HOWN2.out.lt g rfl; omega
                        cases b
                        · have HNE := Lib.hid (show ¬ Y ∈ gs by simpa using HBB.out.symm)
                          have HN2 := Lib.hid (show addM gs Y = gs ++ [Y] by unfold addM; rw [if_neg HNE.out])
                          have HIY := Lib.hid (show (Tryz.prog.info? 46).map (·.size) = some (arr Y).size by rw [arr_size, HYM.out.1]; exact size_64i)
                          have HFY := Lib.hid (fun zs (h : zs.size = 64) => fill_row (arr Y) zs 64 (by decide) (by rw [arr_size, HYM.out.1]) h)
                          have HYL := Lib.hid HYM.out.1
                          obtain ⟨ie1, ie2, ie3, ie4⟩ := HIE.out
                          go_wp2_with (first
                            | (refine wpList_load_row rfl 46 (.tmp 8) rfl N rfl 46 (arr Y) (0, 0) _ HB6.out Tryz.underlying46 rfl HIY.out ?_)
                            | (refine wpList_buildSlice rfl 52 46 1 #[(0, .tmp 71)] rfl (arr Y) ie (.agg (arr (List.replicate 64 0))) Tryz.underlying52 ie1 ie2 (by rw [ie3]; decide) (by rw [ie3]; decide) (by rw [ie3]; simp only [List.map_toArray, List.map_cons, List.map_nil]; exact HFY.out _ (by simp)) ?_)
                            | (at_builtin; go_loud (refine wpList_append_own _ rfl _ _ 52 rfl V.heap.size 46 ie (.agg (arr (List.replicate 64 0))) 64 512 Tryz.underlying52 ie1 ie2 ie3 ie4 rfl (by decide) _ gs.length _ rfl (HOW7.out.alloc _) ⟨wr.heap.size, 0, none⟩ 1 1 (Y.map (Value.int .i64)) rfl (by rw [List.length_map, HYL.out]) (news_arrT wr 46 Y) (one_arr Y) (by unfold maxLen; omega) (by omega) (by simp; omega) ?_)))
                          intro v2 w6 hown3 hg6 _
                          have hB8 : Below w.heap.size w w6 := (hB7.alloc hB7.size _).grown hg6 (by have := hB7.size; simp; omega) (fun j e => by have h1 := owns_base HOW7.out j e; have h2 := hB.size; omega)
                          have HOW8 := Lib.hid (show w6.ownsRow V.heap.size 46 64 v2 (gs ++ [Y]).length (flatM (gs ++ [Y])) by rw [List.length_append, flatM_snoc]; exact hown3)
                          have HN3 := Lib.hid (show stepM X fs (opsTo (s : Int) (k + 1)) = gs ++ [Y] by rw [HN.out, HN2.out])
                          clear hg6 hown3 ie1 ie2 ie3 ie4
                          go_wp2
                          go_roundw
                          case rel => exact ⟨k + 1, gs ++ [Y], by go_num, by omega, HN3, HOW8, hB8⟩
                          case measure => simp [intOf]; omega
                        · have HIN := Lib.hid (show Y ∈ gs by simpa using HBB.out.symm)
                          have HN2 := Lib.hid (show stepM X fs (opsTo (s : Int) (k + 1)) = gs by rw [HN.out]; unfold addM; rw [if_pos HIN.out])
                          go_wp2
                          go_roundw
                          case rel => exact ⟨k + 1, gs, by go_num, by omega, HN2, HOW7, hB7⟩
                          case measure => simp [intOf]; omega
            · obtain rfl : k = 4 := by omega
              have hd4 : decide (((4 : Nat) : Int) < 4) = false := by decide
              have hl53 : i < 52 := by have := HLI.out; omega
              have HNEXT := Lib.hid (show reachM (s : Int) (i + 1) = gs by
                rw [reachM, HFS.out, if_pos HLI.out, HX.out, HGS.out])
              go_wp2
              go_roundw
              case rel => exact ⟨i + 1, gs, by go_num, by omega, HNEXT, HOWN2, hB3⟩
              case measure => simp [intOf]; omega
        · have hie : i = fs.length := by omega
          have HRES := Lib.hid (show mapsN (s : Int) = fs.length by
            unfold mapsN
            obtain ⟨n, hn⟩ : ∃ n : Nat, n = 52 := ⟨_, rfl⟩
            rw [← hn]
            obtain ⟨d, hd⟩ : ∃ d, n = i + d := ⟨n - i, by omega⟩
            rw [hd, reachM_end (by rw [HFS.out]; omega) d, HFS.out])
          have hdi : decide (i < fs.length) = false := decide_eq_false hlt
          clear hie hlt hi
          go_wp2
          go_ret
          exact ⟨by rw [HRES.out]; rfl, hB2⟩
end Go.Proofs.YtojlopfjhhiilaaGreatDoor
namespace Go.Proofs.YtojlopfjhhiilaaGreatDoor
open Go Go.RowKit
set_option linter.unusedVariables false

set_option maxRecDepth 100000 in
set_option maxHeartbeats 4000000 in
theorem orbits_ok (h s N : Nat) (h64 : h < 64) (s16 : s < 16) (L : List Int) (n : Nat) (EO : Hid (orbitE (h : Int) (s : Int) = 0)) (LO : Hid (orbitL (h : Int) (s : Int) = L)) (HN : Hid (L.length = n)) (n64 : n ≤ 64) (SE : Hid (setE (s : Int) = 0)) (MR : Hid (mapsR (s : Int) = (N : Nat))) (MN : Hid (mapsN (s : Int) = N)) (HH : Hid (hexB (h : Int) = true)) (w : World) (hs : Src w) (hf : Fst w) :
    Calls Tryz.prog 3 #[.int .i64 h, .int .i64 s] w fun e w' => e = .returned (.bool true) ∧ Below w.heap.size w w' := by
  go_enter Tryz.func3, Tryz.ntmps3
  go_wp2_with fail
  refine (orbit_any _ _ _ hs).mono ?_
  rintro e w1 ⟨q1, ⟨c1, rfl⟩, hr1, hb1⟩
  rw [EO.out, LO.out]
  go_wp2_with fail
  refine (mapsOf_any _ _ (hs.below hb1 (Nat.le_refl _))).mono ?_
  rintro e w2 ⟨rfl, hb2⟩
  have hb3 := tr hb1 hb2
  rw [SE.out, MR.out]
  rw [LO.out] at hr1
  rw [HN.out]
  have hr3 := Lib.hid (hr1.below hb2 (Nat.le_refl _))
  clear hb1 hb2 hr1
  have d1 : decide ((s : Int) < 0) = false := decide_eq_false (by omega)
  have d2 : decide ((15 : Int) < (s : Int)) = false := decide_eq_false (by omega)
  go_wp2_with fail
  refine (refMaps_any s s16 _).mono ?_
  rintro e w4 ⟨rfl, hb4⟩
  have hb5 := tr hb3 hb4
  have hr5 := Lib.hid (hr3.out.below hb4 (Nat.le_refl _))
  clear hb4 hb3 hr3
  rw [MN.out]
  go_wp2_with fail
  refine (refHex_any _ _).mono ?_
  rintro e w6 ⟨rfl, rfl⟩
  rw [HH.out]
  go_wp2_with fail
  refine (refOrbit_any h s h64 s16 _).mono ?_
  rintro e w7 ⟨q2, ⟨c2, rfl⟩, hr7, hb7⟩
  rw [LO.out, HN.out]
  rw [LO.out] at hr7
  have hb8 := tr hb5 hb7
  have hr8 := hr5.out.below hb7 (Nat.le_refl _)
  clear hb7 hb5 hr5
  go_wp2_with fail
  refine (same_any q1 L n c1 q2 L n c2 _ HN HN (by omega) hr8 hr7).mono ?_
  rintro e w9 ⟨rfl, r, rfl⟩
  rw [decide_eq_true rfl]
  have hb9 := below_drewN hb8 r
  go_wp2_with fail
  refine (known_any _ (hs.below hb9 (Nat.le_refl _)) (hf.below hb9 (Nat.le_refl _))).mono ?_
  rintro e wk ⟨rfl, hbk⟩
  go_wp2
  go_ret
  exact ⟨rfl, tr hb9 hbk⟩
set_option maxRecDepth 100000 in
set_option maxHeartbeats 4000000 in
theorem orbits_badH (h : Int) (s N : Nat) (s16 : s < 16) (EO : Hid (orbitE h (s : Int) = 3)) (LO : Hid (orbitL h (s : Int) = [])) (SE : Hid (setE (s : Int) = 0)) (MR : Hid (mapsR (s : Int) = (N : Nat))) (MN : Hid (mapsN (s : Int) = N)) (HH : Hid (hexB h = false)) (w : World) (hs : Src w) (hf : Fst w) :
    Calls Tryz.prog 3 #[.int .i64 h, .int .i64 s] w fun e w' => e = .returned (.bool true) ∧ Below w.heap.size w w' := by
  go_enter Tryz.func3, Tryz.ntmps3
  go_wp2_with fail
  refine (orbit_any _ _ _ hs).mono ?_
  rintro e w1 ⟨q1, ⟨c1, rfl⟩, hr1, hb1⟩
  rw [EO.out, LO.out]
  go_wp2_with fail
  refine (mapsOf_any _ _ (hs.below hb1 (Nat.le_refl _))).mono ?_
  rintro e w2 ⟨rfl, hb2⟩
  have hb3 := tr hb1 hb2
  rw [SE.out, MR.out]
  clear hb1 hb2 hr1
  have d1 : decide ((s : Int) < 0) = false := decide_eq_false (by omega)
  have d2 : decide ((15 : Int) < (s : Int)) = false := decide_eq_false (by omega)
  go_wp2_with fail
  refine (refMaps_any s s16 _).mono ?_
  rintro e w4 ⟨rfl, hb4⟩
  have hb5 := tr hb3 hb4
  clear hb4 hb3
  rw [MN.out]
  go_wp2_with fail
  refine (refHex_any _ _).mono ?_
  rintro e w6 ⟨rfl, rfl⟩
  rw [HH.out]
  go_wp2_with fail
  refine (known_any _ (hs.below hb5 (Nat.le_refl _)) (hf.below hb5 (Nat.le_refl _))).mono ?_
  rintro e wk ⟨rfl, hbk⟩
  go_wp2
  go_ret
  exact ⟨rfl, tr hb5 hbk⟩
set_option maxRecDepth 100000 in
set_option maxHeartbeats 4000000 in
theorem orbits_both_lo (h set : Int) (hb : set < 0) (EO : Hid (orbitE h set = 3)) (LO : Hid (orbitL h set = [])) (SE : Hid (setE set = 2)) (MR : Hid (mapsR set = 0)) (HH : Hid (hexB h = false)) (w : World) (hs : Src w) (hf : Fst w) :
    Calls Tryz.prog 3 #[.int .i64 h, .int .i64 set] w fun e w' => e = .returned (.bool true) ∧ Below w.heap.size w w' := by
  go_enter Tryz.func3, Tryz.ntmps3
  go_wp2_with fail
  refine (orbit_any _ _ _ hs).mono ?_
  rintro e w1 ⟨q1, ⟨c1, rfl⟩, hr1, hb1⟩
  rw [EO.out, LO.out]
  go_wp2_with fail
  refine (mapsOf_any _ _ (hs.below hb1 (Nat.le_refl _))).mono ?_
  rintro e w2 ⟨rfl, hb2⟩
  have hb3 := tr hb1 hb2
  rw [SE.out, MR.out]
  clear hb1 hb2 hr1
  have d1 : decide (set < 0) = true := decide_eq_true hb
  clear hb
  go_wp2_with fail
  refine (refHex_any _ _).mono ?_
  rintro e w6 ⟨rfl, rfl⟩
  rw [HH.out]
  go_wp2_with fail
  refine (known_any _ (hs.below hb3 (Nat.le_refl _)) (hf.below hb3 (Nat.le_refl _))).mono ?_
  rintro e wk ⟨rfl, hbk⟩
  go_wp2
  go_ret
  exact ⟨rfl, tr hb3 hbk⟩
set_option maxRecDepth 100000 in
set_option maxHeartbeats 4000000 in
theorem orbits_badS_lo (h set : Int) (hb : set < 0) (EO : Hid (orbitE h set = 2)) (LO : Hid (orbitL h set = [])) (SE : Hid (setE set = 2)) (MR : Hid (mapsR set = 0)) (HH : Hid (hexB h = true)) (w : World) (hs : Src w) (hf : Fst w) :
    Calls Tryz.prog 3 #[.int .i64 h, .int .i64 set] w fun e w' => e = .returned (.bool true) ∧ Below w.heap.size w w' := by
  go_enter Tryz.func3, Tryz.ntmps3
  go_wp2_with fail
  refine (orbit_any _ _ _ hs).mono ?_
  rintro e w1 ⟨q1, ⟨c1, rfl⟩, hr1, hb1⟩
  rw [EO.out, LO.out]
  go_wp2_with fail
  refine (mapsOf_any _ _ (hs.below hb1 (Nat.le_refl _))).mono ?_
  rintro e w2 ⟨rfl, hb2⟩
  have hb3 := tr hb1 hb2
  rw [SE.out, MR.out]
  clear hb1 hb2 hr1
  have d1 : decide (set < 0) = true := decide_eq_true hb
  clear hb
  go_wp2_with fail
  refine (refHex_any _ _).mono ?_
  rintro e w6 ⟨rfl, rfl⟩
  rw [HH.out]
  go_wp2_with fail
  refine (known_any _ (hs.below hb3 (Nat.le_refl _)) (hf.below hb3 (Nat.le_refl _))).mono ?_
  rintro e wk ⟨rfl, hbk⟩
  go_wp2
  go_ret
  exact ⟨rfl, tr hb3 hbk⟩
set_option maxRecDepth 100000 in
set_option maxHeartbeats 4000000 in
theorem orbits_both_hi (h set : Int) (hb : 15 < set) (EO : Hid (orbitE h set = 3)) (LO : Hid (orbitL h set = [])) (SE : Hid (setE set = 2)) (MR : Hid (mapsR set = 0)) (HH : Hid (hexB h = false)) (w : World) (hs : Src w) (hf : Fst w) :
    Calls Tryz.prog 3 #[.int .i64 h, .int .i64 set] w fun e w' => e = .returned (.bool true) ∧ Below w.heap.size w w' := by
  go_enter Tryz.func3, Tryz.ntmps3
  go_wp2_with fail
  refine (orbit_any _ _ _ hs).mono ?_
  rintro e w1 ⟨q1, ⟨c1, rfl⟩, hr1, hb1⟩
  rw [EO.out, LO.out]
  go_wp2_with fail
  refine (mapsOf_any _ _ (hs.below hb1 (Nat.le_refl _))).mono ?_
  rintro e w2 ⟨rfl, hb2⟩
  have hb3 := tr hb1 hb2
  rw [SE.out, MR.out]
  clear hb1 hb2 hr1
  have d1 : decide (set < 0) = false := decide_eq_false (by omega)
  have d2 : decide ((15 : Int) < set) = true := decide_eq_true hb
  clear hb
  go_wp2_with fail
  refine (refHex_any _ _).mono ?_
  rintro e w6 ⟨rfl, rfl⟩
  rw [HH.out]
  go_wp2_with fail
  refine (known_any _ (hs.below hb3 (Nat.le_refl _)) (hf.below hb3 (Nat.le_refl _))).mono ?_
  rintro e wk ⟨rfl, hbk⟩
  go_wp2
  go_ret
  exact ⟨rfl, tr hb3 hbk⟩
set_option maxRecDepth 100000 in
set_option maxHeartbeats 4000000 in
theorem orbits_badS_hi (h set : Int) (hb : 15 < set) (EO : Hid (orbitE h set = 2)) (LO : Hid (orbitL h set = [])) (SE : Hid (setE set = 2)) (MR : Hid (mapsR set = 0)) (HH : Hid (hexB h = true)) (w : World) (hs : Src w) (hf : Fst w) :
    Calls Tryz.prog 3 #[.int .i64 h, .int .i64 set] w fun e w' => e = .returned (.bool true) ∧ Below w.heap.size w w' := by
  go_enter Tryz.func3, Tryz.ntmps3
  go_wp2_with fail
  refine (orbit_any _ _ _ hs).mono ?_
  rintro e w1 ⟨q1, ⟨c1, rfl⟩, hr1, hb1⟩
  rw [EO.out, LO.out]
  go_wp2_with fail
  refine (mapsOf_any _ _ (hs.below hb1 (Nat.le_refl _))).mono ?_
  rintro e w2 ⟨rfl, hb2⟩
  have hb3 := tr hb1 hb2
  rw [SE.out, MR.out]
  clear hb1 hb2 hr1
  have d1 : decide (set < 0) = false := decide_eq_false (by omega)
  have d2 : decide ((15 : Int) < set) = true := decide_eq_true hb
  clear hb
  go_wp2_with fail
  refine (refHex_any _ _).mono ?_
  rintro e w6 ⟨rfl, rfl⟩
  rw [HH.out]
  go_wp2_with fail
  refine (known_any _ (hs.below hb3 (Nat.le_refl _)) (hf.below hb3 (Nat.le_refl _))).mono ?_
  rintro e wk ⟨rfl, hbk⟩
  go_wp2
  go_ret
  exact ⟨rfl, tr hb3 hbk⟩
end Go.Proofs.YtojlopfjhhiilaaGreatDoor
namespace Go.Proofs.YtojlopfjhhiilaaGreatDoor
open Go Go.RowKit
set_option linter.unusedVariables false

theorem orbits_law (h set : Int) (w : World) (hs : Src w) (hf : Fst w) :
    Calls Tryz.prog 3 #[.int .i64 h, .int .i64 set] w fun e w' => e = .returned (.bool true) ∧ Below w.heap.size w w' := by
  have hbadH : ∀ st : Int, ¬ Hex h → orbitE h st = 3 ∧ orbitL h st = [] := fun st hn => by
    have h3 : chkH [h] = 3 := by
      rcases chkH_or [h] with h0 | h0
      · exact absurd (chkH_zero h0 0 (by simp)) hn
      · exact h0
    have e : orbitE h st = 3 := by unfold orbitE; rw [h3]; rfl
    exact ⟨e, by unfold orbitL; rw [e]; rfl⟩
  by_cases hset : 0 ≤ set ∧ set ≤ 15
  · obtain ⟨s, rfl⟩ := Int.eq_ofNat_of_zero_le hset.1
    have s16 : s < 16 := by omega
    by_cases hh : Hex h
    · obtain ⟨n, rfl⟩ := Int.eq_ofNat_of_zero_le hh.1
      have n64 : n < 64 := by have := hh.2; omega
      exact orbits_ok n s _ n64 s16 _ _ (Lib.hid (orbE_in n64 s16)) (Lib.hid rfl) (Lib.hid rfl) (orb_len64 n64 s16) (Lib.hid (setE_in s16)) (Lib.hid (mapsR_in s16)) (Lib.hid rfl) (Lib.hid (hexB_of hh)) w hs hf
    · obtain ⟨e1, e2⟩ := hbadH (s : Int) hh
      exact orbits_badH h s _ s16 (Lib.hid e1) (Lib.hid e2) (Lib.hid (setE_in s16)) (Lib.hid (mapsR_in s16)) (Lib.hid rfl) (Lib.hid (hexB_not hh)) w hs hf
  · have hs2 : setE set = 2 := by
      rcases setE_or set with h0 | h0
      · exact absurd (setE_zero h0) hset
      · exact h0
    have hm : mapsR set = 0 := by unfold mapsR; rw [hs2]; rfl
    by_cases hh : Hex h
    · have h0 : chkH [h] = 0 := chkH_of fun k hk => by
        have : k = 0 := by simpa using hk
        subst this
        exact hh
      have e1 : orbitE h set = 2 := by unfold orbitE; rw [if_pos h0, hs2]
      have e2 : orbitL h set = [] := by unfold orbitL; rw [e1]; rfl
      by_cases hb : set < 0
      · exact orbits_badS_lo h set hb (Lib.hid e1) (Lib.hid e2) (Lib.hid hs2) (Lib.hid hm) (Lib.hid (hexB_of hh)) w hs hf
      · exact orbits_badS_hi h set (by omega) (Lib.hid e1) (Lib.hid e2) (Lib.hid hs2) (Lib.hid hm) (Lib.hid (hexB_of hh)) w hs hf
    · obtain ⟨e1, e2⟩ := hbadH set hh
      by_cases hb : set < 0
      · exact orbits_both_lo h set hb (Lib.hid e1) (Lib.hid e2) (Lib.hid hs2) (Lib.hid hm) (Lib.hid (hexB_not hh)) w hs hf
      · exact orbits_both_hi h set (by omega) (Lib.hid e1) (Lib.hid e2) (Lib.hid hs2) (Lib.hid hm) (Lib.hid (hexB_not hh)) w hs hf
end Go.Proofs.YtojlopfjhhiilaaGreatDoor
