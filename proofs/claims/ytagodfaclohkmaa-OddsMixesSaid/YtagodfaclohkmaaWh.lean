/-
  OddsMixes, the walk: own copies of lists, both sides, and what is compared.
-/
import Derived.Test.YtagodfaclohkmaaWe
import Derived.Test.YtagodfaclohkmaaWf
import Derived.Test.YtagodfaclohkmaaWg
import Derived.Test.YtagodfaclohkmaaZa
import Derived.Deep.AppendLies
import Derived.Deep.RegionHeld3
import Derived.WalkKit
import Derived.Below
namespace Go.Proofs.Ytagodfaclohkmaa
open Go.RowKit
set_option linter.unusedVariables false

/-- A list that lies outside of a block. -/
def Far (w : World) (g : Nat) (r : Option Addr) (xs : List Int) : Prop := ∀ i, i < xs.length → ∃ q o, r = some ⟨q, o, none⟩ ∧ q ≠ g ∧ w.cell? ⟨q, o + i, none⟩ = some (.int .i64 (nth xs i))
theorem Far.reads {w : World} {g : Nat} {r : Option Addr} {xs : List Int} (h : Far w g r xs) : Reads w r xs := fun i hi => by
  obtain ⟨q, o, h1, _, h3⟩ := h i hi
  exact ⟨q, o, h1, h3⟩
theorem Far.below {w w' : World} {g : Nat} {r : Option Addr} {xs : List Int} (h : Far w g r xs) (hb : Below w.heap.size w w') : Far w' g r xs := fun i hi => by
  obtain ⟨q, o, h1, h2, h3⟩ := h i hi
  exact ⟨q, o, h1, h2, cell_tr hb h3⟩
theorem Far.grown {w w' : World} {g g' : Nat} {r : Option Addr} {xs : List Int} (h : Far w g r xs) (hg : w.grownBy w' (some g)) (hat : some g = some g' ∨ g' = w.heap.size) : Far w' g' r xs := fun i hi => by
  obtain ⟨q, o, h1, h2, h3⟩ := h i hi
  have hlt := World.block_lt_of_cell? w _ h3
  refine ⟨q, o, h1, ?_, ?_⟩
  · rcases hat with e | e
    · cases e; exact h2
    · simp at hlt; omega
  · rw [hg.cell_far _ (by simpa using hlt) (by show some q ≠ some g; simpa using h2)]
    exact h3
/-- The first k copies. -/
def Copies (w : World) (g : Nat) (ls : List (List Int)) (vals : List Value) (k : Nat) : Prop := ∀ j, j < k → ∃ r c, vals[j]? = some (.slice r (nthL ls j).length c) ∧ Far w g r (nthL ls j)
theorem owns_kept {w w' : World} {B e n : Nat} {v : Value} {xs : List Value} (h : w.ownsRow B e 1 v n xs) (hb : Below w.heap.size w w') : w'.ownsRow B e 1 v n xs := by
  refine ⟨h.1, ?_⟩
  rcases h.2 with h | ⟨g, cap, cur, h1, h2, h3, h4⟩
  · exact .inl h
  · refine .inr ⟨g, cap, cur, h1, h2, ?_, h4⟩
    have hlt : g < w.heap.size := by
      rcases Nat.lt_or_ge g w.heap.size with h | h
      · exact h
      · rw [Array.getElem?_eq_none h] at h3; cases h3
    rw [hb.block g hlt]; exact h3
theorem empty_ownsL (w : World) : (w.alloc (.cells #[] 22)).ownsRow w.heap.size 22 1 (.slice (some ⟨w.heap.size, 0, none⟩) 0 0) 0 [] :=
  ⟨rfl, Or.inr ⟨w.heap.size, 0, #[], rfl, Nat.le_refl _, heap_alloc_new w _, Nat.le_refl _, by simp [maxLen], rfl, rfl⟩⟩
theorem info_list : (Try.prog.info? 22).map (fun i => (i.zero, i.size, i.bytes)) = some (some (.slice none 0 0), 1, 24) := by kernel_rfl
theorem copies_readsL {w : World} {B g k cap : Nat} {ls : List (List Int)} {vals : List Value} (h : w.ownsRow B 22 1 (.slice (some ⟨g, 0, none⟩) k cap) k vals) (hc : Copies w g ls vals k) (hk : ls.length = k) : ReadsL w (some ⟨g, 0, none⟩) ls := fun j hj => by
  obtain ⟨r, c, h1, h2⟩ := hc j (by omega)
  have h3 := h.cells (g := g) rfl j _ h1
  rw [Go.WideShapes.add_plain] at h3
  exact ⟨g, 0, rfl, r, c, h3, h2.reads⟩

theorem oddsMixes_equal (L : List Int) (hL : L.length ≤ 1000000) (pa : Option Addr) (ca : Nat) (pb : Option Addr) (cb : Nat) (w : World) (hRa : Reads w pa L) (hRb : Reads w pb L) :
    Calls Try.prog 24 #[.slice pa L.length ca, .slice pb L.length cb] w fun e w' => e = .returned (.bool true) ∧ Below w.heap.size w w' := by
  have h := equal_any pa L ca pb L cb w (by omega) (by omega) hRa hRb
  rwa [eqL_self] at h
theorem sMix_length (cs : List Int) (ls : List (List Int)) : (sMix cs ls).1.length ≤ 4096 := by
  unfold sMix
  split
  · simp
  · rename_i hz
    split
    · simp
    · split
      · simp
      · have hl : (low (mixL (low cs) ls (nthL ls 0).length)).length = (nthL ls 0).length := by rw [low_length]; exact tab_length _ _
        rw [hl]
        have hz : chkM cs ls = 0 := by simpa using hz
        by_cases hn : 0 < ls.length
        · unfold chkM at hz
          by_cases h2 : chkL ls = 0
          · exact (chk1_ok (chkL_each h2 hn)).1
          · exfalso
            split at hz
            · rename_i h; exact h hz
            · split at hz
              · simp at hz
              · first | exact h2 hz | (rw [if_pos h2] at hz; exact h2 hz)
        · have : nthL ls 0 = [] := by unfold nthL; simp [show ls.length = 0 by omega] <;> (rcases ls with _ | ⟨x, r⟩ <;> simp at hn ⊢)
          rw [this]; simp

set_option maxRecDepth 100000 in
set_option maxHeartbeats 8000000 in
theorem oddsMixes_main (p : Option Addr) (cs : List Int) (c : Nat) (q : Option Addr) (ls : List (List Int)) (cl : Nat) (w : World) (hl : cs.length ≤ 30) (hll : ls.length ≤ 30) (hC : Came w p cs c) (hL : CameL w q ls) :
    Calls Try.prog 8 #[.slice p cs.length c, .slice q ls.length cl] w fun e w' => e = .returned (.bool true) ∧ Below w.heap.size w w' := by
  obtain ⟨i0, hi, hz0, hz1, hz2⟩ := info_parts info_list
  have n1 : ¬ 30 < cs.length := by omega
  have n2 : ¬ 30 < ls.length := by omega
  have hO := empty_ownsL w
  have hB0 := below1 w (.cells #[] 22)
  go_enter Try.func8, Try.ntmps8
  go_wp2
  go_loopw [5, 6] (fun v i wr => ∃ k : Nat, k ≤ ls.length ∧ i = .int .i64 k ∧ ∃ g cap vals, v = .slice (some ⟨g, 0, none⟩) k cap ∧ wr.ownsRow w.heap.size 22 1 v k vals ∧ Copies wr g ls vals k ∧ Hid (∀ j, j < k → longB (nthL ls j).length = false) ∧ Below w.heap.size w wr) (fun _ i _ => ls.length - (intOf i).toNat)
  case atStart => exact ⟨0, Nat.zero_le _, rfl, w.heap.size, 0, [], rfl, hO, (fun j hj => by omega), (fun j hj => by omega : ∀ j, j < 0 → longB (nthL ls j).length = false), hB0⟩
  case round =>
    obtain ⟨k, hk, rfl, g, cap, vals, rfl, hown, hcp, Hlo, hb⟩ := hrel
    by_cases hlt : k < ls.length
    · obtain ⟨q1, o1, r1, c1, rfl, hc1, hr1⟩ := hL.below hb (Nat.le_refl _) k hlt
      have hki : (k : Int) < (ls.length : Int) := by omega
      cases hlb : longB (nthL ls k).length with
      | true =>
        have H1 := Lib.hid hlb
        clear hlb
        go_wp2_with fail
        go_call (long_any r1 (nthL ls k) c1 wr) as e w2 ⟨rfl, hb2⟩
        rw [H1.out]
        go_wp2_with fail
        go_call (known_any _) as e w3 ⟨rfl, hb3⟩
        go_wp2
        go_returns
        exact ⟨rfl, tr hb (tr hb2 hb3)⟩
      | false =>
        have Hn : Hid (∀ j, j < k + 1 → longB (nthL ls j).length = false) := fun j hj => by
          by_cases e : j = k
          · subst e; exact hlb
          · exact Hlo.out j (by omega)
        have hln := longB_false hlb
        have H1 := Lib.hid hlb
        clear hlb
        go_wp2_with fail
        go_call (long_any r1 (nthL ls k) c1 wr) as e w2 ⟨rfl, hb2⟩
        rw [H1.out]
        have hown2 := owns_kept hown hb2
        have hc1' := cell_tr hb2 hc1
        have hB2 := tr hb hb2
        have hgw : g < w2.heap.size := (hown2.lt g rfl).2
        go_wp2_with fail
        go_call (own_new r1 (nthL ls k) c1 w2 (by omega) (hr1.below hb2 (Nat.le_refl _))) as e w3 ⟨⟨p3, c3, rfl, r3, hfr⟩, hb3⟩
        have hown3 := owns_kept hown2 hb3
        have hB3 := tr hB2 hb3
        have hcp3 : Copies w3 g ls vals k := fun j hj => by
          obtain ⟨r, c, h1, h2⟩ := hcp j hj
          exact ⟨r, c, h1, (h2.below hb2).below hb3⟩
        have hfar : Far w3 g p3 (nthL ls k) := fun i hi => by
          obtain ⟨q, o, h1, h2⟩ := r3 i hi
          have := hfr q o h1
          exact ⟨q, o, h1, by omega, h2⟩
        have hvl : vals.length = k := by simpa using hown.1
        obtain ⟨LL, hLL⟩ : ∃ n, (nthL ls k).length = n := ⟨_, rfl⟩
        have HLL := Lib.hid hLL
        rw [hLL]
        have hbs := hB3.size
        clear hown hown2 hb2 hb3 hB2 hb hcp hc1 hr1 r3 hLL hln
        go_wp2_with (at_builtin; refine wpList_append_lies _ rfl _ _ 54 rfl w.heap.size 22 i0 (.slice none 0 0) 1 24 Try.underlying54 hi hz0 hz1 hz2 rfl (by decide) _ _ _ rfl (hown3.alloc _) ⟨w3.heap.size, 0, none⟩ 1 1 [.slice p3 LL c3] rfl rfl ?c1 ?c2 ?c0 ?c3 ?c4 ?c5 _ rfl ?_)
        case c1 =>
          intro jj u hjj
          rcases jj with _ | jj
          · have hu : u = .slice p3 LL c3 := by simpa using hjj.symm
            subst hu
            rw [Go.WideShapes.add_plain, World.cell?_alloc_at _ _ _ _ rfl]
            simp
          · simp at hjj
        case c2 =>
          intro u hu
          have hu : u = .slice p3 LL c3 := by simpa using hu
          subst hu
          rfl
        case c0 => omega
        case c3 => unfold maxLen; omega
        case c4 => omega
        case c5 => simp; omega
        intro g' cap' w4 hown' hgrow hat hlt'
        have hbz : Below w.heap.size w w4 := (hB3.alloc hB3.size _).grown hgrow (by simp; omega) (fun q e => by
          have h9 := (hown3.lt q e)
          omega)
        have hat' : some g = some g' ∨ g' = (w3.alloc (.cells #[.slice p3 LL c3] 22)).heap.size := by simpa [Value.ownBlock] using hat
        have hcp4 : Copies w4 g' ls (vals ++ [.slice p3 LL c3]) (k + 1) := fun j hj => by
          by_cases e : j = k
          · subst e
            refine ⟨p3, c3, ?_, (hfar.below (below1 _ _)).grown hgrow hat'⟩
            rw [HLL.out, List.getElem?_append_right (by omega), hvl]
            simp
          · obtain ⟨r, c, h1, h2⟩ := hcp3 j (by omega)
            refine ⟨r, c, ?_, (h2.below (below1 _ _)).grown hgrow hat'⟩
            rw [List.getElem?_append_left (by omega)]; exact h1
        have Hcp4 := Lib.hid hcp4
        clear hcp4 hcp3 hfar hown3 hgrow hat hat'
        go_wp2
        go_roundw
        case rel => exact ⟨k + 1, by omega, by go_num, g', cap', _, rfl, hown', Hcp4.out, Hn, hbz⟩
        case measure => simp [intOf]; omega
    · have hkl : k = ls.length := by omega
      rw [hkl]
      rw [hkl] at hown hcp
      have Hln : Hid (∀ j, j < ls.length → (nthL ls j).length ≤ 1000000) := fun j hj => by have := longB_false (Hlo.out j (by omega)); omega
      have hRL := copies_readsL hown hcp rfl
      have hmix := fun p c W (h : Reads W p cs) (h' : ReadsL W (some ⟨g, 0, none⟩) ls) => mix_any p cs c (some ⟨g, 0, none⟩) ls cap W (by omega) (by omega) Hln.out h h'
      have href := fun W (h : Reads W p cs) (h' : ReadsL W q ls) => refMix_any p cs c q ls cl W (by omega) (by omega) Hln.out h h'
      have hml := sMix_length cs ls
      obtain ⟨M, E, hM⟩ : ∃ M E, sMix cs ls = (M, E) := ⟨_, _, rfl⟩
      rw [hM] at hmix href hml
      dsimp only at hmix href hml
      clear hkl hlt hk hown hcp Hlo hM hO hB0
      obtain ⟨w1, hw1⟩ : ∃ W : World, W = wr := ⟨_, rfl⟩
      subst hw1
      go_wp2_with fail
      go_call (own_any p cs c w1 (by omega) (hC.below hb (Nat.le_refl _))) as e w2 ⟨⟨p2, c2, rfl, r2⟩, hb2⟩
      have hRL2 := hRL.below hb2 (Nat.le_refl _)
      go_wp2_with fail
      go_call (hmix p2 c2 w2 r2 hRL2) as e w3 ⟨⟨pm, cm, rfl, rm⟩, hb3⟩
      have hB3 := tr hb (tr hb2 hb3)
      have hRL3 := hRL2.below hb3 (Nat.le_refl _)
      clear hb2 hb3 hb r2 hRL hRL2 hmix
      go_wp2_with fail
      go_call (href w3 (hC.2.1.below hB3 (Nat.le_refl _)) (hL.reads.below hB3 (Nat.le_refl _))) as e w4 ⟨⟨pn, cn, rfl, rn⟩, hb4⟩
      have hB4 := tr hB3 hb4
      have hRL4 := hRL3.below hb4 (Nat.le_refl _)
      have rm4 := rm.below hb4 (Nat.le_refl _)
      have hL4 := hL.reads.below hB4 (Nat.le_refl _)
      clear hb4 hB3 hRL3 rm href
      go_wp2
      go_loopw [11] (fun i wr => ∃ k : Nat, k ≤ ls.length ∧ i = .int .i64 k ∧ Below w4.heap.size w4 wr) (fun i _ => ls.length - (intOf i).toNat)
      case atStart => exact ⟨0, Nat.zero_le _, rfl, Below.refl _ _⟩
      case round =>
        obtain ⟨k, hk, rfl, hbr⟩ := hrel
        by_cases hlt : k < ls.length
        · obtain ⟨q1, o1, e1, r1, c1, hc1, hr1⟩ := hL4.below hbr (Nat.le_refl _) k hlt
          obtain ⟨q5, o5, e5, r5, c5, hc5, hr5⟩ := hRL4.below hbr (Nat.le_refl _) k hlt
          cases e5
          subst e1
          rw [Nat.zero_add] at hc5
          have hki : (k : Int) < (ls.length : Int) := by omega
          have hx := Hln.out k hlt
          obtain ⟨X, hX⟩ : ∃ X, nthL ls k = X := ⟨_, rfl⟩
          rw [hX] at hc1 hr1 hc5 hr5 hx
          clear hX
          go_wp2_with fail
          go_region_held3 (fun w' => w'.cell? ⟨g, k, none⟩ = some (.slice r5 X.length c5) ∧ w'.cell? ⟨q1, o1 + k, none⟩ = some (.slice r1 X.length c1) ∧ Below wr.heap.size wr w')
            (first
              | exact ⟨hc5, hc1, Below.refl _ _⟩
              | exact ⟨hc5, hc1, (Below.refl _ _).drew⟩
              | exact ⟨cell_tr hbA hc5, cell_tr hbA hc1, tr (Below.refl _ _).drew hbA⟩
              | exact ⟨cell_tr hbA hc5, cell_tr hbA hc1, hbA⟩
              | assumption)
            (first
              | (go_at_call 24; refine (oddsMixes_equal X hx r5 c5 r1 c1 _ (hr5.below (B := wr.heap.size) (by first | exact Below.refl _ _ | exact (Below.refl _ _).drew) (Nat.le_refl _)) (hr1.below (B := wr.heap.size) (by first | exact Below.refl _ _ | exact (Below.refl _ _).drew) (Nat.le_refl _))).mono ?_; rintro e w' ⟨rfl, hbA⟩))
          rename_i hh
          obtain ⟨_, _, hbx⟩ := hh
          rename World => w9
          have hbz := tr hbr hbx
          go_wp2
          go_roundw
          case rel => exact ⟨k + 1, by omega, by go_num, hbz⟩
          case measure => simp [intOf]; omega
        · go_wp2_with fail
          go_call (oddsMixes_equal M (by omega) pm cm pn cn wr (rm4.below hbr (Nat.le_refl _)) (rn.below hbr (Nat.le_refl _))) as e w5 ⟨rfl, hb5⟩
          go_wp2_with fail
          go_call (known_any _) as e w6 ⟨rfl, hb6⟩
          go_wp2
          go_returns
          exact ⟨rfl, tr hB4 (tr hbr (tr hb5 hb6))⟩
end Go.Proofs.Ytagodfaclohkmaa
