/-
  Package hexagram: chains; lists that are appended to; where a number stands in a list.
-/
import Derived.Test.YtojlopfjhhiilaaGreatDoorHxD
import Derived.Laws.AppendOwn
import Derived.Laws.AppendOwnNone
import Derived.OwnWalk
namespace Go.Proofs.YtojlopfjhhiilaaGreatDoor
open Go Go.RowKit
set_option linter.unusedVariables false

theorem cell_tr {w w' : World} (hb : Below w.heap.size w w') {a : Addr} {v : Value} (h : w.cell? a = some v) : w'.cell? a = some v :=
  (hb.cell (World.block_lt_of_cell? w _ h)).trans h
theorem info_int : (Tryz.prog.info? 3).map (fun i => (i.zero, i.size, i.bytes)) = some (some (.int .i64 0), 1, 8) := by kernel_rfl
theorem news_at {W : World} {n : Nat} (T : TypeId) (v : Value) (h : W.heap.size = n) : ∀ j u, ([v] : List Value)[j]? = some u → (W.alloc (.cells #[v] T)).cell? ((⟨n, 0, none⟩ : Addr).add j) = some u := fun j u hj => by
  subst h
  rw [Go.WideShapes.add_plain, Nat.zero_add, (Blk.new W T #[v]).cell]
  simpa using hj
theorem one_int (x : Int) : ∀ u ∈ [Value.int .i64 x], u.oneCell' = true := fun u hu => by
  rcases List.mem_singleton.1 hu with rfl
  rfl
theorem owns_below {w w' : World} {base : Nat} {e : TypeId} {size : Nat} {v : Value} {n : Nat} {xs : List Value} (h : w.ownsRow base e size v n xs) (hb : Below w.heap.size w w') : w'.ownsRow base e size v n xs := by
  obtain ⟨h1, h2⟩ := h
  refine ⟨h1, ?_⟩
  rcases h2 with h2 | ⟨g, cap, cur, hv, hg, hh, r⟩
  · exact Or.inl h2
  · have hlt : g < w.heap.size := by
      rcases Nat.lt_or_ge g w.heap.size with h | h
      · exact h
      · simp [Array.getElem?_eq_none h] at hh
    exact Or.inr ⟨g, cap, cur, hv, hg, by rw [hb.block g hlt]; exact hh, r⟩
theorem owns_base {w : World} {base : Nat} {e : TypeId} {size : Nat} {v : Value} {n : Nat} {xs : List Value} (h : w.ownsRow base e size v n xs) : ∀ k, v.ownBlock = some k → base ≤ k := fun k hk => by
  rcases h.2 with ⟨rfl, _⟩ | ⟨g, cap, cur, rfl, hg, _, _⟩
  · simp [Value.ownBlock] at hk
  · simp [Value.ownBlock] at hk; omega

/-- Where a number stands in a list first, from 0 on; -1 if it does not. -/
def idxI : List Int → Int → Int
  | [], _ => -1
  | y :: r, x => if y = x then 0 else if idxI r x < 0 then -1 else idxI r x + 1
theorem idxI_none {xs : List Int} {x : Int} (h : ∀ j, j < xs.length → nth xs j ≠ x) : idxI xs x = -1 := by
  induction xs with
  | nil => rfl
  | cons y r ih =>
    have h0 := h 0 (by simp)
    have : idxI r x = -1 := ih fun j hj => by have := h (j + 1) (by simpa using hj); simpa [nth] using this
    simp only [nth, List.getD_cons_zero] at h0
    simp [idxI, h0, this]
theorem idxI_at {xs : List Int} {x : Int} {k : Nat} (hk : k < xs.length) (h : ∀ j, j < k → nth xs j ≠ x) (h1 : nth xs k = x) : idxI xs x = k := by
  induction xs generalizing k with
  | nil => simp at hk
  | cons y r ih =>
    cases k with
    | zero => simp only [nth, List.getD_cons_zero] at h1; simp [idxI, h1]
    | succ k =>
      have h0 := h 0 (by omega)
      have : idxI r x = k := ih (by simpa using hk) (fun j hj => by have := h (j + 1) (by omega); simpa [nth] using this) (by simpa [nth] using h1)
      simp only [nth, List.getD_cons_zero] at h0
      simp [idxI, h0, this]
      omega
set_option maxHeartbeats 400000 in
theorem index_any (p : Option Addr) (xs : List Int) (n c : Nat) (x : Int) (w : World) (hn : Hid (xs.length = n)) (hl : n ≤ 1000000) (hR : Reads w p xs) :
    Calls Tryz.prog 41 #[.slice p n c, .int .i64 x] w fun e w' => e = .returned (.int .i64 (idxI xs x)) ∧ w = w' := by
  go_enter Tryz.func41, Tryz.ntmps41
  go_wp2
  go_loop [8] (fun i => ∃ k : Nat, k ≤ n ∧ i = .int .i64 k ∧ Hid (∀ j, j < k → nth xs j ≠ x)) (fun i => n - (intOf i).toNat)
  case atStart => exact ⟨0, by omega, rfl, fun j hj => by omega⟩
  case round =>
    obtain ⟨k, hk, rfl, HN⟩ := hrel
    by_cases hlt : k < n
    · obtain ⟨q, o, rfl, hcell⟩ := hR k (by have := hn.out; omega)
      obtain ⟨v, hv⟩ : ∃ v, nth xs k = v := ⟨_, rfl⟩
      rw [hv] at hcell
      have HV := Lib.hid hv
      clear hv
      by_cases hq : v = x
      · subst hq
        have E := Lib.hid (idxI_at (by have := hn.out; omega) HN.out HV.out)
        go_wp2
        go_ret
        exact ⟨by rw [E.out]; rfl, rfl⟩
      · have e1 : decide (x = v) = false := by simpa using fun h => hq h.symm
        have e2 : (x == v) = false := by simpa using fun h => hq h.symm
        have HQ := Lib.hid hq
        clear hq
        go_wp2
        go_round
        case rel => exact ⟨k + 1, by omega, by go_num, fun j hj => by
          by_cases e : j = k
          · subst e; rw [HV.out]; exact HQ.out
          · exact HN.out j (by omega)⟩
        case measure => simp [intOf]; omega
    · obtain rfl : k = n := by omega
      have E := Lib.hid (idxI_none (x := x) (xs := xs) fun j hj => HN.out j (by have := hn.out; omega))
      go_wp2
      go_ret
      exact ⟨by rw [E.out]; rfl, rfl⟩

/-- A hexagram, its nuclear one, and so on. -/
def chI (h : Int) : Nat → Int
  | 0 => h
  | k + 1 => opV (chI h k) 3
def chL (h : Int) (k : Nat) : List Int := upto (chI h) k
def chB (h : Int) (k : Nat) : Int := idxI (chL h k) (chI h k)
def chN (h : Int) : Nat := if 0 ≤ chB h 1 then 1 else if 0 ≤ chB h 2 then 2 else if 0 ≤ chB h 3 then 3 else 4
theorem chI_hex {h : Int} (hh : Hex h) (k : Nat) : Hex (chI h k) := by
  cases k with
  | zero => exact hh
  | succ k => exact opV_hex _ _
theorem hex_all {P : Int → Prop} (h : ∀ i : Fin 64, P (i.val : Int)) {x : Int} (hx : Hex x) : P x := by
  obtain ⟨a, b⟩ := hx
  obtain ⟨n, rfl⟩ := Int.eq_ofNat_of_zero_le a
  exact h ⟨n, by omega⟩
theorem chB_four {h : Int} (hh : Hex h) : 0 ≤ chB h 4 := hex_all (P := fun h => 0 ≤ chB h 4) (by decide +kernel) hh
theorem chB_zero (h : Int) : chB h 0 = -1 := rfl
theorem chB_lo (h : Int) (k : Nat) : -1 ≤ chB h k := by
  unfold chB
  generalize chL h k = xs
  induction xs with
  | nil => simp [idxI]
  | cons y r ih => simp only [idxI]; split; omega; split <;> omega
theorem chN_is {h : Int} {k : Nat} (hk : k ≤ 4) (h0 : ∀ j, j < k → chB h j < 0) (h1 : 0 ≤ chB h k) : chN h = k := by
  have z := chB_zero h
  have : k = 0 ∨ k = 1 ∨ k = 2 ∨ k = 3 ∨ k = 4 := by omega
  unfold chN
  rcases this with rfl | rfl | rfl | rfl | rfl
  · omega
  · rw [if_pos h1]
  · rw [if_neg (by have := h0 1 (by omega); omega), if_pos h1]
  · rw [if_neg (by have := h0 1 (by omega); omega), if_neg (by have := h0 2 (by omega); omega), if_pos h1]
  · rw [if_neg (by have := h0 1 (by omega); omega), if_neg (by have := h0 2 (by omega); omega), if_neg (by have := h0 3 (by omega); omega)]
/-- What Chain returns. -/
def chainL (h : Int) : List Int := if chkH [h] = 0 then chL h (chN h) else []
def chainB (h : Int) : Int := if chkH [h] = 0 then chB h (chN h) else 0

set_option maxRecDepth 100000 in
set_option maxHeartbeats 2000000 in
theorem chain_any (h : Int) (w : World) (hs : Src w) :
    Calls Tryz.prog 24 #[.int .i64 h] w fun e w' => (∃ q c, e = .returned (.tuple #[.slice q (chainL h).length c, .int .i64 (chainB h), .int .i64 (chkH [h])]) ∧ Reads w' q (chainL h)) ∧ Below w.heap.size w w' := by
  obtain ⟨i0, hi, hz0, hz1, hz2⟩ := info_parts info_int
  rcases chkH_or [h] with h0 | h0
  · have H := Lib.hid h0
    have hx := chkH_zero h0 0 (by simp)
    simp only [nth, List.getD_cons_zero] at hx
    have E1 := Lib.hid (show chainL h = chL h (chN h) by unfold chainL; rw [if_pos h0])
    have E2 := Lib.hid (show chainB h = chB h (chN h) by unfold chainB; rw [if_pos h0])
    have H4 := Lib.hid (chB_four hx)
    clear h0
    go_enter Tryz.func24, Tryz.ntmps24
    go_wp2_with fail
    refine (checkH_any _ [h] 1 _ (by simp) (reads_new w _ [h])).mono ?_
    rintro e w1 ⟨rfl, hb1⟩
    rw [H.out]
    have hb2 : Below w.heap.size w w1 := (below1 _ _).trans (hb1.mono (by simp))
    clear hb1
    go_wp2
    go_loopw [0, 2, 3] (fun v l b wr => ∃ k : Nat, k ≤ 4 ∧ v = .int .i64 (chI h k) ∧ b = .int .i64 (chB h k) ∧ Hid (∀ j, j < k → chB h j < 0) ∧ wr.ownsRow w.heap.size 3 1 l k ((chL h k).map (Value.int .i64)) ∧ Below w.heap.size w wr) (fun v l b wr => 5 - (match l with | .slice _ n _ => n | _ => 0))
    case atStart => exact ⟨0, by omega, rfl, rfl, fun j hj => by omega, ⟨rfl, Or.inl ⟨rfl, rfl⟩⟩, hb2⟩
    case round =>
      obtain ⟨k, hk, rfl, rfl, HN, hown, hB⟩ := hrel
      have hlo := chB_lo h k
      have Hl0 : Hid ((chL h k).length = k) := upto_length _ _
      obtain ⟨q, c, e, hrd0⟩ := Got.of_owns hown
      rw [Hl0.out] at e
      subst e
      by_cases hq : chB h k < 0
      · have hk4 : k < 4 := by
          rcases Nat.lt_or_ge k 4 with h1 | h1
          · exact h1
          · obtain rfl : k = 4 := by omega
            have := H4.out
            omega
        have hsz := hB.size
        go_wp2_with (at_builtin; refine wpList_append_own _ rfl _ _ 22 rfl w.heap.size 3 i0 (.int .i64 0) 1 8 Tryz.underlying22 hi hz0 hz1 hz2 rfl (by decide) _ k _ rfl (hown.alloc _) ⟨wr.heap.size, 0, none⟩ 1 1 [.int .i64 (chI h k)] rfl rfl (news_at _ _ rfl) (one_int _) (by unfold maxLen; omega) (by omega) (by simp; omega) ?_)
        intro v2 w6 hown3 hg _
        have hB3 : Below w.heap.size w w6 := (hB.alloc hB.size _).grown hg (by simp; omega) (owns_base hown)
        have hown4 : w6.ownsRow w.heap.size 3 1 v2 (k + 1) ((chL h (k + 1)).map (Value.int .i64)) := by
          unfold chL at hown3 ⊢
          rw [upto_succ]
          simpa using hown3
        have HO := Lib.hid hown4
        have Hl : Hid ((chL h (k + 1)).length = k + 1) := upto_length _ _
        obtain ⟨q2, c2, e2, hrd⟩ := Got.of_owns hown4
        rw [Hl.out] at e2
        subst e2
        clear hg hown hown3 hB hown4 hrd0
        have hsz6 := hB3.size
        go_wp2_with fail
        refine (operate_any (chI h k) 3 (by omega) (chI_hex hx k) _ (hs.below hB3 (Nat.le_refl _))).mono ?_
        rintro e w7 ⟨rfl, hb7⟩
        have HO2 := Lib.hid (owns_below HO.out hb7)
        have hrd2 := hrd.below hb7 (Nat.le_refl _)
        have hB4 := tr hB3 hb7
        clear hb7 hB3 hrd HO
        go_wp2_with fail
        refine (index_any q2 (chL h (k + 1)) (k + 1) c2 (chI h (k + 1)) _ Hl (by omega) hrd2).mono ?_
        rintro e w8 ⟨rfl, rfl⟩
        go_wp2
        go_roundw
        case rel => exact ⟨k + 1, by omega, rfl, rfl, fun j hj => by
          by_cases e : j = k
          · subst e; exact hq
          · exact HN.out j (by omega), HO2.out, hB4⟩
        case measure => simp; omega
      · have Hn := Lib.hid (chN_is hk HN.out (by omega))
        have E3 := Lib.hid (show (chainL h).length = k by rw [E1.out, Hn.out, Hl0.out])
        have E4 := Lib.hid (show chainB h = chB h k by rw [E2.out, Hn.out])
        have E5 := Lib.hid (show chainL h = chL h k by rw [E1.out, Hn.out])
        clear hown hlo
        go_wp2
        refine bodyPost_ret (v := .tuple #[.slice q k c, .int .i64 (chB h k), .int .i64 0]) (by simp [results, Tryz.results24, go_sem]) rfl ⟨⟨q, ⟨c, by rw [E3.out, E4.out, H.out]⟩, by rw [E5.out]; exact hrd0⟩, hB⟩
  · have H := Lib.hid h0
    have E1 := Lib.hid (show chainL h = [] by unfold chainL; rw [if_neg (by omega)])
    have E2 := Lib.hid (show chainB h = 0 by unfold chainB; rw [if_neg (by omega)])
    clear h0
    go_enter Tryz.func24, Tryz.ntmps24
    go_wp2_with fail
    refine (checkH_any _ [h] 1 _ (by simp) (reads_new w _ [h])).mono ?_
    rintro e w1 ⟨rfl, hb1⟩
    rw [H.out]
    have hb2 : Below w.heap.size w w1 := (below1 _ _).trans (hb1.mono (by simp))
    clear hb1
    go_wp2
    refine bodyPost_ret (v := .tuple #[.slice none 0 0, .int .i64 0, .int .i64 3]) (by simp [results, Tryz.results24, go_sem]) rfl ⟨⟨none, 0, by rw [E1.out, E2.out, H.out]; rfl, by rw [E1.out]; exact Reads.nil _ _⟩, hb2⟩
end Go.Proofs.YtojlopfjhhiilaaGreatDoor
