/-
  Package shield: the places of a copy that do not follow.
-/
import Derived.Test.YtojlopfjhhiilaaDoorShF
import Derived.Deep.RegionHeld3
import Derived.Laws.AppendOwn
import Derived.Laws.AppendOwnNone
import Derived.OwnWalk
namespace Go.Proofs.YtojlopfjhhiilaaDoor
open Go Go.RowKit
set_option linter.unusedVariables false

theorem cell_tr {w w' : World} (hb : Below w.heap.size w w') {a : Addr} {v : Value} (h : w.cell? a = some v) : w'.cell? a = some v :=
  (hb.cell (World.block_lt_of_cell? w _ h)).trans h
theorem info_int : (Tryd.prog.info? 3).map (fun i => (i.zero, i.size, i.bytes)) = some (some (.int .i64 0), 1, 8) := by kernel_rfl
theorem news_at {W : World} {n : Nat} (T : TypeId) (v : Value) (h : W.heap.size = n) : ∀ j u, ([v] : List Value)[j]? = some u → (W.alloc (.cells #[v] T)).cell? ((⟨n, 0, none⟩ : Addr).add j) = some u := fun j u hj => by
  subst h
  rw [Go.WideShapes.add_plain, Nat.zero_add, (Blk.new W T #[v]).cell]
  simpa using hj
theorem one_int (x : Int) : ∀ u ∈ [Value.int .i64 x], u.oneCell' = true := fun u hu => by
  rcases List.mem_singleton.1 hu with rfl
  rfl
theorem owns_below {w w' : World} {base : Nat} {e : TypeId} {size : Nat} {v : Value} {n : Nat} {xs : List Value} (h : w.ownsRow base e size v n xs) (hb : Below w.heap.size w w') : w'.ownsRow base e size v n xs := by
  obtain ⟨h1, h2⟩ := h
  refine ⟨h1, ?_⟩
  rcases h2 with h2 | ⟨g, cap, cur, hv, hg, hh, r⟩
  · exact Or.inl h2
  · have hlt : g < w.heap.size := by
      rcases Nat.lt_or_ge g w.heap.size with h | h
      · exact h
      · simp [Array.getElem?_eq_none h] at hh
    exact Or.inr ⟨g, cap, cur, hv, hg, by rw [hb.block g hlt]; exact hh, r⟩
theorem owns_base {w : World} {base : Nat} {e : TypeId} {size : Nat} {v : Value} {n : Nat} {xs : List Value} (h : w.ownsRow base e size v n xs) : ∀ k, v.ownBlock = some k → base ≤ k := fun k hk => by
  rcases h.2 with ⟨rfl, _⟩ | ⟨g, cap, cur, rfl, hg, _, _⟩
  · simp [Value.ownBlock] at hk
  · simp [Value.ownBlock] at hk; omega
/-- The places below k whose figure does not follow. -/
def wrongTo (s : List Int) : Nat → List Int
  | 0 => []
  | k + 1 => if k < 4 ∨ nth s k = followF s k then wrongTo s k else wrongTo s k ++ [(k : Int)]
theorem wrongTo_four (s : List Int) : wrongTo s 4 = [] := rfl
theorem wrongTo_len (s : List Int) (k : Nat) : (wrongTo s k).length ≤ k := by
  induction k with
  | zero => simp [wrongTo]
  | succ k ih =>
    unfold wrongTo; split
    · omega
    · simp; omega
/-- What Wrong returns. -/
def wrongV (s : List Int) : List Int := if chkF s = 0 then wrongTo s 16 else []

theorem checkF_n (p : Option Addr) (xs : List Int) (n c : Nat) (w : World) (hx : Hid (xs.length = n)) (hl : n ≤ 100) (hR : Reads w p xs) :
    Calls Tryd.prog 48 #[.slice p n c] w fun e w' => e = .returned (.int .i64 (chkF xs)) ∧ Below w.heap.size w w' := by
  obtain rfl := hx.out
  exact checkF_any p xs c w hl hR
theorem wrongTo_no {s : List Int} {p : Nat} (h : nth s p = followF s p) : wrongTo s (p + 1) = wrongTo s p := by rw [wrongTo, if_pos (.inr h)]
theorem wrongTo_yes {s : List Int} {p : Nat} (h4 : 4 ≤ p) (h : nth s p ≠ followF s p) : wrongTo s (p + 1) = wrongTo s p ++ [(p : Int)] := by rw [wrongTo, if_neg (by omega)]

set_option maxRecDepth 100000 in
set_option maxHeartbeats 2000000 in
theorem wrong_any (s : List Int) (hs : s.length = 16) (w : World) (hp : Par w) :
    Calls Tryd.prog 30 #[.agg (arr s)] w fun e w' => (∃ q c, e = .returned (.tuple #[.slice q (wrongV s).length c, .int .i64 (chkF s)]) ∧ Reads w' q (wrongV s)) ∧ Below w.heap.size w w' := by
  have hB0 : Below w.heap.size w (w.alloc (.cells (arr s) 24)) := (Below.refl _ _).alloc (Nat.le_refl _) _
  have HM := Lib.hid (Blk.new w 24 (arr s))
  have HL := Lib.hid hs
  obtain ⟨i0, hi, hz0, hz1, hz2⟩ := info_parts info_int
  have hR : Reads (w.alloc (.cells (arr s) 24)) (some ⟨w.heap.size, 0, none⟩) s := HM.out.reads
  clear hs
  rcases chkF_or s with h | h
  · have hz := Lib.hid (chkF_zero h)
    have H := Lib.hid h
    have E := Lib.hid (show wrongV s = wrongTo s 16 by unfold wrongV; rw [if_pos h])
    clear h
    go_enter Tryd.func30, Tryd.ntmps30
    go_wp2_with fail
    refine (checkF_n (some ⟨w.heap.size, 0, none⟩) s 16 16 _ HL (by omega) hR).mono ?_
    rintro e w1 ⟨rfl, hb1⟩
    rw [H.out]
    have hM1 := Lib.hid (HM.out.below hb1 (by simp))
    have hb2 : Below w.heap.size w w1 := hB0.trans (hb1.mono (by simp))
    have hsz1 : w.heap.size < w1.heap.size := hM1.out.lt
    clear hb1 hB0 hR
    go_wp2
    go_loopw [5, 6] (fun v i wr => ∃ p : Nat, 4 ≤ p ∧ p ≤ 16 ∧ i = .int .i64 p ∧ wr.ownsRow (w.heap.size + 1) 3 1 v (wrongTo s p).length ((wrongTo s p).map (Value.int .i64)) ∧ Below (w.heap.size + 1) w1 wr) (fun _ i _ => 16 - (intOf i).toNat)
    case atStart => exact ⟨4, by omega, by omega, rfl, ⟨rfl, Or.inl ⟨rfl, rfl⟩⟩, Below.refl _ _⟩
    case round =>
      obtain ⟨p, hp4, hp16, rfl, hown, hB⟩ := hrel
      by_cases hlt : p < 16
      · have HX := Lib.hid (hM1.out.below hB (by omega))
        have hsz : w.heap.size < wr.heap.size := HX.out.lt
        have hc0 : wr.cell? ⟨w.heap.size, p, none⟩ = some (.int .i64 (nth s p)) := by rw [HX.out.cell p, arr_get (by have := HL.out; omega)]
        have hch : Chart wr w.heap.size s := HX.out.chart HL.out
        have hfg : Figs s := fun k hk => hz.out k (by have := HL.out; omega)
        have hpw : Par wr := hp.below (hb2.trans (hB.mono (by omega))) (Nat.le_refl _)
        have hwl := wrongTo_len s p
        by_cases hq : nth s p = followF s p
        · have e3 : (nth s p != followF s p) = false := by simp [hq]
          have E3 := Lib.hid e3
          have HQ := Lib.hid (wrongTo_no hq)
          clear hq e3
          go_wp2_with fail
          go_region_held3 (fun w' => w'.cell? ⟨w.heap.size, p, none⟩ = some (.int .i64 (nth s p)) ∧ Below wr.heap.size wr w')
            (first | exact ⟨hc0, (Below.refl _ _).drew⟩ | assumption | exact ⟨cell_tr hbk (by exact hc0), tr (Below.drew (Below.refl wr.heap.size wr)) hbk⟩)
            (first | (go_at_call 50; refine (follow_any w.heap.size p s hp4 hlt _ (hch.below (Below.drew (Below.refl wr.heap.size wr)) hsz) hfg (hpw.below (Below.drew (Below.refl wr.heap.size wr)) (Nat.le_refl _))).mono ?_; rintro e w' ⟨rfl, hbk⟩))
          rename_i hh
          obtain ⟨_, hbx⟩ := hh
          rw [E3.out]
          have hown2 := owns_below hown hbx
          have hB2 := hB.trans (hbx.mono (by omega))
          clear hbx hown hc0 hch hpw hbk hB hfg
          go_wp2
          go_roundw
          case rel => exact ⟨p + 1, by omega, by omega, by go_num, by rw [HQ.out]; exact hown2, hB2⟩
          case measure => simp [intOf]; omega
        · have e3 : (nth s p != followF s p) = true := by simp [hq]
          have E3 := Lib.hid e3
          have HQ := Lib.hid (wrongTo_yes hp4 hq)
          clear hq e3
          go_wp2_with fail
          go_region_held3 (fun w' => w'.cell? ⟨w.heap.size, p, none⟩ = some (.int .i64 (nth s p)) ∧ Below wr.heap.size wr w')
            (first | exact ⟨hc0, (Below.refl _ _).drew⟩ | assumption | exact ⟨cell_tr hbk (by exact hc0), tr (Below.drew (Below.refl wr.heap.size wr)) hbk⟩)
            (first | (go_at_call 50; refine (follow_any w.heap.size p s hp4 hlt _ (hch.below (Below.drew (Below.refl wr.heap.size wr)) hsz) hfg (hpw.below (Below.drew (Below.refl wr.heap.size wr)) (Nat.le_refl _))).mono ?_; rintro e w' ⟨rfl, hbk⟩))
          rename_i hh2
          obtain ⟨_, hbx⟩ := hh2
          rw [E3.out]
          have hown2 := owns_below hown hbx
          have hB2 := hB.trans (hbx.mono (by omega))
          have hsz2 : wr.heap.size ≤ w'.heap.size := hbx.size
          clear hbx hown hc0 hch hpw hbk hB hfg
          go_wp2_with (at_builtin; refine wpList_append_own _ rfl _ _ 34 rfl (w.heap.size + 1) 3 i0 (.int .i64 0) 1 8 Tryd.underlying34 hi hz0 hz1 hz2 rfl (by decide) _ (wrongTo s p).length _ rfl (hown2.alloc _) ⟨w'.heap.size, 0, none⟩ 1 1 [.int .i64 p] rfl rfl (news_at _ _ rfl) (one_int _) (by unfold maxLen; omega) (by omega) (by simp; omega) ?_)
          intro v2 w6 hown3 hg _
          have hB3 : Below (w.heap.size + 1) w1 w6 := (hB2.alloc (by omega) _).grown hg (by simp; omega) (owns_base hown2)
          clear hg hown2 hB2
          go_wp2
          go_roundw
          case rel => exact ⟨p + 1, by omega, by omega, by go_num, by rw [HQ.out]; simpa using hown3, hB3⟩
          case measure => simp [intOf]; omega
      · obtain rfl : p = 16 := by omega
        go_wp2
        obtain ⟨q, c, rfl, hrd⟩ := Got.of_owns hown
        go_ret2
        exact ⟨⟨q, c, by rw [H.out, E.out]; rfl, by rw [E.out]; exact hrd⟩, hb2.trans (hB.mono (by omega))⟩
  · have H := Lib.hid h
    have E := Lib.hid (show wrongV s = [] by unfold wrongV; rw [if_neg (by omega)])
    clear h
    go_enter Tryd.func30, Tryd.ntmps30
    go_wp2_with fail
    refine (checkF_n (some ⟨w.heap.size, 0, none⟩) s 16 16 _ HL (by omega) hR).mono ?_
    rintro e w1 ⟨rfl, hb1⟩
    rw [H.out]
    have hb2 : Below w.heap.size w w1 := hB0.trans (hb1.mono (by simp))
    go_wp2
    go_ret2
    exact ⟨⟨none, 0, by rw [H.out, E.out]; rfl, by rw [E.out]; exact Reads.nil _ _⟩, hb2⟩
end Go.Proofs.YtojlopfjhhiilaaDoor
