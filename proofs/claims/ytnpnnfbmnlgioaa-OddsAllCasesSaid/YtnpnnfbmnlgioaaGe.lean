/-
  The walk of OddsAllCases.
-/
import Derived.Test.YtnpnnfbmnlgioaaGb
import Derived.Test.YtnpnnfbmnlgioaaGc
import Derived.Test.YtnpnnfbmnlgioaaWf
import Derived.Test.YtnpnnfbmnlgioaaWg
import Derived.Test.YtnpnnfbmnlgioaaWh
import Derived.Test.YtnpnnfbmnlgioaaCh
import Derived.Test.YtnpnnfbmnlgioaaCm
import Derived.Test.YtnpnnfbmnlgioaaK
import Derived.Deep.DeepCutAuto
import Derived.Deep.RegionHeld3
namespace Go.Proofs.Ytnpnnfbmnlgioaa
open Go.RowKit
set_option linter.unusedVariables false

theorem Fr.set {w : World} {A : Nat} {x y : Int} (h : Fr w A x y) (u0 u1 : Int) : Fr ((w.setCell ⟨A, 0, none⟩ (.int .i64 u0)).setCell ⟨A, 1, none⟩ (.int .i64 u1)) A u0 u1 := by
  have f0 := h.f0
  have f1 := h.f1
  exact ⟨cell_set2_0 h.c0, set1 _ _ h.c1, by go_simp, by go_simp⟩
theorem came_chk {W : World} {p : Option Addr} {xs : List Int} {c : Nat} (h : chk1 xs = 0) (hR : Reads W p xs) : Came W p xs c := by
  obtain ⟨a1, a2, a3, a4⟩ := chk1_ok h
  refine ⟨fun hp => ?_, hR, fun k hk => by have := a2 k hk; omega⟩
  exfalso
  rcases xs with _ | ⟨x, r⟩
  · simp [lsum] at a3
  · obtain ⟨q, o, e, _⟩ := hR 0 (by simp)
    rw [hp] at e
    cases e
theorem sMap_err {xs ts : List Int} (h : chk1 xs = 0) : (sMap xs ts 4).2 = 0 ∨ (sMap xs ts 4).2 = 2 := by
  unfold sMap
  rw [if_neg (by rw [h]; simp), if_neg (by omega)]
  split
  · exact .inr rfl
  · exact .inl rfl
theorem of_one {xs : List Int} (h : chk1 xs = 0) {i : Nat} (hi : i < xs.length) : (sOf xs [(i : Int)]).2.2 = 0 ∧ badC (sOf xs [(i : Int)]).1 (sOf xs [(i : Int)]).2.1 = false ∧ val (sOf xs [(i : Int)]).1 (sOf xs [(i : Int)]).2.1 = fr xs i := by
  obtain ⟨a1, a2, a3, a4⟩ := chk1_ok h
  obtain ⟨b1, b2, b3, b4⟩ := onlyL_facts a2 (asc_one hi)
  rw [sOf_at h (asc_one hi) rfl]
  refine ⟨rfl, ok_frac a3 (by omega) b3 b4, ?_⟩
  rw [val_frac a3, sum_one hi]
  rfl
theorem fr_le_one {xs : List Int} (h : chk1 xs = 0) {i : Nat} (hi : i < xs.length) : fr xs i ≤ 1 := by
  obtain ⟨a1, a2, a3, a4⟩ := chk1_ok h
  have := (val_le (an := nth xs i) (ad := lsum xs) (bn := 1) (bd := 1) a3 (by omega)).2 (by have := nth_le_lsum (pos_of h) i; omega)
  rwa [val_self (d := 1) (by omega)] at this
theorem cell_tr_r {w w' : World} {a : Addr} {v : Value} (h : w.cell? a = some v) (hb : Below w.heap.size w w') : w'.cell? a = some v := cell_tr hb h
theorem sMix_err {cs : List Int} {ls : List (List Int)} (h : (sMix cs ls).2 ≠ 0) : (sMix cs ls).1 = [] := by
  unfold sMix at h ⊢
  split
  · rfl
  · split
    · rfl
    · split
      · rfl
      · rename_i h1 h2 h3
        rw [if_neg h1, if_neg h2, if_neg h3] at h
        exact absurd rfl h

set_option maxRecDepth 100000 in
set_option maxHeartbeats 16000000 in
theorem ac_main (pa : Option Addr) (cs : List Int) (ca : Nat) (q : Option Addr) (ls : List (List Int)) (cl : Nat) (At : Int) (pt : Option Addr) (ts : List Int) (ct : Nat) (w : World)
    (hCa : Came w pa cs ca) (hL : CameL w q ls) (hCt : Came w pt ts ct) (lc : cs.length ≤ 6) (ll : ls.length ≤ 6) (lt : ts.length ≤ 12) (a0 : 0 ≤ At) (a1 : At ≤ 255) :
    Calls Try.prog 4 #[.slice pa cs.length ca, .slice q ls.length cl, .agg #[.int .u8 At, .slice pt ts.length ct]] w fun e w' => e = .returned (.bool true) ∧ Below w.heap.size w w' := by
  obtain ⟨i0, hi, hz0, hz1, hz2⟩ := info_parts info_list
  have D0 : Below w.heap.size w (w.alloc (.cells #[.int .u8 At, .slice pt ts.length ct] 37)) := below1 _ _
  have bx0 : (w.alloc (.cells #[.int .u8 At, .slice pt ts.length ct] 37)).cell? ⟨w.heap.size, 0, none⟩ = some (.int .u8 At) := by go_simp
  have bx1 : (w.alloc (.cells #[.int .u8 At, .slice pt ts.length ct] 37)).cell? ⟨w.heap.size, 1, none⟩ = some (.slice pt ts.length ct) := by go_simp
  have hO := empty_ownsL (w.alloc (.cells #[.int .u8 At, .slice pt ts.length ct] 37))
  have y1 : decide (6 < (cs.length : Int)) = false := by simp; omega
  have y2 : decide (6 < (ls.length : Int)) = false := by simp; omega
  have y3 : decide (12 < (ts.length : Int)) = false := by simp; omega
  go_enter Try.func4, Try.ntmps4
  go_wp2_with fail
  clear y1 y2 y3
  obtain ⟨wS, hwS⟩ : ∃ x, w.alloc (.cells #[.int .u8 At, .slice pt ts.length ct] 37) = x := ⟨_, rfl⟩
  rw [hwS] at D0 bx0 bx1 hO ⊢
  have Hsz : Hid (wS.heap.size = w.heap.size + 1) := by show _ = _; rw [← hwS]; simp
  clear hwS
  have hB0 := below1 wS (.cells #[] 34)
  go_loopw [7, 8] (fun v i wr => ∃ k : Nat, k ≤ ls.length ∧ i = .int .i64 k ∧ ∃ g cap vals, v = .slice (some ⟨g, 0, none⟩) k cap ∧ wr.ownsRow wS.heap.size 34 1 v k vals ∧ Copies wr g ls vals k ∧ Hid (∀ j, j < k → (nthL ls j).length ≤ 12) ∧ Below wS.heap.size wS wr) (fun _ i _ => ls.length - (intOf i).toNat)
  case atStart => exact ⟨0, Nat.zero_le _, rfl, w.heap.size + 1, 0, [], rfl, by rw [Hsz.out] at hO ⊢; exact hO, (fun j hj => by omega), (fun j hj => by omega : ∀ j, j < 0 → (nthL ls j).length ≤ 12), hB0⟩
  case round =>
    obtain ⟨k, hk, rfl, g, cap, vals, rfl, hown, hcp, Hlo, hb⟩ := hrel
    have hB := tr D0 hb
    by_cases hlt : k < ls.length
    · obtain ⟨q1, o1, r1, c1, rfl, hc1, hr1⟩ := hL.below hB (Nat.le_refl _) k hlt
      have hki : (k : Int) < (ls.length : Int) := by omega
      by_cases hlb : 12 < (nthL ls k).length
      · have H1 : decide (12 < ((nthL ls k).length : Int)) = true := by simp; omega
        clear hlb
        go_wp2_with fail
        go_call (known_any _) as e w3 ⟨rfl, hb3⟩
        go_wp2
        go_ret
        exact ⟨rfl, tr hB hb3⟩
      · have Hn : Hid (∀ j, j < k + 1 → (nthL ls j).length ≤ 12) := fun j hj => by
          by_cases e : j = k
          · subst e; omega
          · exact Hlo.out j (by omega)
        have H1 : decide (12 < ((nthL ls k).length : Int)) = false := by simp; omega
        have hgw : g < wr.heap.size := (hown.lt g rfl).2
        go_wp2_with fail
        go_call (own_new r1 (nthL ls k) c1 wr (by omega) hr1) as e w3 ⟨⟨p3, c3, rfl, r3, hfr⟩, hb3⟩
        clear H1
        have hown3 := owns_kept hown hb3
        have hB3 := tr hb hb3
        have hcp3 : Copies w3 g ls vals k := fun j hj => by
          obtain ⟨r, c, h1, h2⟩ := hcp j hj
          exact ⟨r, c, h1, h2.below hb3⟩
        have hfar : Far w3 g p3 (nthL ls k) := fun i hi => by
          obtain ⟨q, o, h1, h2⟩ := r3 i hi
          have := hfr q o h1
          exact ⟨q, o, h1, by omega, h2⟩
        have hvl : vals.length = k := by simpa using hown.1
        obtain ⟨LL, hLL⟩ : ∃ n, (nthL ls k).length = n := ⟨_, rfl⟩
        have HLL := Lib.hid hLL
        rw [hLL]
        have hbs := hB3.size
        clear hown hb3 hb hcp hc1 hr1 r3 hLL hB
        go_wp2_with (at_builtin; refine wpList_append_lies _ rfl _ _ 35 rfl wS.heap.size 34 i0 (.slice none 0 0) 1 24 Try.underlying35 hi hz0 hz1 hz2 rfl (by decide) _ _ _ rfl (hown3.alloc _) ⟨w3.heap.size, 0, none⟩ 1 1 [.slice p3 LL c3] rfl rfl ?c1 ?c2 ?c0 ?c3 ?c4 ?c5 _ rfl ?_)
        case c1 =>
          intro jj u hjj
          rcases jj with _ | jj
          · have hu : u = .slice p3 LL c3 := by simpa using hjj.symm
            subst hu
            rw [Go.WideShapes.add_plain, World.cell?_alloc_at _ _ _ _ rfl]
            simp
          · simp at hjj
        case c2 =>
          intro u hu
          have hu : u = .slice p3 LL c3 := by simpa using hu
          subst hu
          rfl
        case c0 => omega
        case c3 => unfold maxLen; omega
        case c4 => omega
        case c5 => simp; omega
        intro g' cap' w4 hown' hgrow hat hlt'
        have hbz : Below wS.heap.size wS w4 := (hB3.alloc hB3.size _).grown hgrow (by simp; omega) (fun q e => by
          have h9 := (hown3.lt q e)
          omega)
        have hat' : some g = some g' ∨ g' = (w3.alloc (.cells #[.slice p3 LL c3] 34)).heap.size := by simpa [Value.ownBlock] using hat
        have hcp4 : Copies w4 g' ls (vals ++ [.slice p3 LL c3]) (k + 1) := fun j hj => by
          by_cases e : j = k
          · subst e
            refine ⟨p3, c3, ?_, (hfar.below (below1 _ _)).grown hgrow hat'⟩
            rw [HLL.out, List.getElem?_append_right (by omega), hvl]
            simp
          · obtain ⟨r, c, h1, h2⟩ := hcp3 j (by omega)
            refine ⟨r, c, ?_, (h2.below (below1 _ _)).grown hgrow hat'⟩
            rw [List.getElem?_append_left (by omega)]; exact h1
        have Hcp4 := Lib.hid hcp4
        clear hcp4 hcp3 hfar hown3 hgrow hat hat'
        go_wp2
        go_roundw
        case rel => exact ⟨k + 1, by omega, by go_num, g', cap', _, rfl, hown', Hcp4.out, Hn, hbz⟩
        case measure => simp [intOf]; omega
    · as_aux_lemma =>
        obtain rfl : k = ls.length := by omega
        have Hln : Hid (∀ j, j < ls.length → (nthL ls j).length ≤ 1000000) := fun j hj => by have := Hlo.out j hj; omega
        have hRL := copies_readsL hown hcp rfl
        have hmix := fun p c W (h : Reads W p cs) (h' : ReadsL W (some ⟨g, 0, none⟩) ls) => mix_any p cs c (some ⟨g, 0, none⟩) ls cap W (by omega) (by omega) Hln.out h h'
        obtain ⟨M, E, hM⟩ : ∃ M E, sMix cs ls = (M, E) := ⟨_, _, rfl⟩
        rw [hM] at hmix
        dsimp only at hmix
        have HM := Lib.hid hM
        clear hM hown hcp Hln hO hB0 hlt hk
        obtain ⟨v0, rfl⟩ : ∃ x : World, x = wr := ⟨_, rfl⟩
        have D0 := hB
        have Y0 := cell_tr hb bx0
        have X0 := cell_tr hb bx1
        have Q0 := hRL
        clear hB hb hRL bx0 bx1
        go_wp2_with fail
        go_call (own_any pa cs ca _ (by omega) (hCa.below D0 (Nat.le_refl _))) as e v1 ⟨⟨ppRa, ccRa, rfl, Ra1⟩, hb⟩
        have Y1 := cell_tr_r Y0 hb
        have X1 := cell_tr_r X0 hb
        have Q1 := Q0.below hb (Nat.le_refl _)
        have D1 := tr D0 hb
        clear Y0 X0 Q0 D0 hb
        go_wp2_with fail
        go_call (hmix _ _ _ Ra1 Q1) as e v2 ⟨⟨ppRM, ccRM, rfl, RM2⟩, hb⟩
        clear Ra1
        clear Q1
        have Y2 := cell_tr_r Y1 hb
        have X2 := cell_tr_r X1 hb
        have D2 := tr D1 hb
        clear Y1 X1 D1 hb
        clear hmix
        by_cases hE : E = 0
        · subst hE
          have hmx := mix_mx (cs := cs) (ls := ls) (by rw [HM.out])
          obtain ⟨hX, _⟩ := hmx
          have hn12 : (nthL ls 0).length ≤ 12 := by
            by_cases k0 : 0 < ls.length
            · exact Hlo.out 0 k0
            · have : nthL ls 0 = [] := by unfold nthL; rcases ls with _ | ⟨x, r⟩ <;> simp at k0 ⊢
              rw [this]; simp
          obtain ⟨mc, ml, _⟩ := mix_chk hX (by omega)
          rw [HM.out] at mc ml
          dsimp only at mc ml
          have HX := Lib.hid hX
          have Hmc := Lib.hid mc
          have Hml : Hid (∀ j, j < cs.length → (nthL ls j).length = M.length) := fun j hj => by rw [hX.len j hj]; exact ml.symm
          have m12 : M.length ≤ 12 := by have : M.length = _ := ml; omega
          have m1 : 1 ≤ M.length := by
            have := (chk1_ok mc).2.2.1
            rcases M with _ | ⟨x, r⟩
            · simp [lsum] at this
            · simp
          have hll := hX.ll
          have z1 : ((ls.length : Int) != (cs.length : Int)) = false := by rw [hll]; simp
          obtain ⟨K, hK⟩ : ∃ K : Nat, At % (M.length : Int) = K := ⟨(At % (M.length : Int)).toNat, by have := Int.emod_nonneg At (show (M.length : Int) ≠ 0 by omega); omega⟩
          have hKl : K < M.length := by have := Int.emod_lt_of_pos At (show 0 < (M.length : Int) by omega); rw [hK] at this; omega
          have z2 : At.tmod (M.length : Int) = (K : Int) := by rw [Int.tmod_eq_emod_of_nonneg a0]; exact hK
          have z3 : ((M.length : Int) == 0) = false := beq_eq_false_iff_ne.2 (by omega)
          have z4 : ¬ (M.length : Int) = 0 := by omega
          clear hX mc ml hll hn12
          have yy := Y2
          go_wp2_with fail
          clear yy z1 z2 z3 z4
          have DA := D2
          have XA := X2
          have MA := RM2
          clear D2 X2 RM2 Y2
          go_loopw [13] (fun i wr => ∃ k : Nat, k ≤ cs.length ∧ i = .int .i64 k ∧ ∃ s0 s1 : Int, Fr wr v2.heap.size s0 s1 ∧ Hid (badC s0 s1 = false ∧ val s0 s1 = rsum (fun j => fr cs j * fr (nthL ls j) K) k) ∧ Below v2.heap.size v2 wr) (fun i _ => cs.length - (intOf i).toNat)
          case atStart => exact ⟨0, Nat.zero_le _, rfl, 0, 1, Fr.new _ _ _ _, ⟨by decide +kernel, by rw [val_zero]; rfl⟩, below1 _ _⟩
          case round =>
            obtain ⟨k, hk, rfl, s0, s1, FS, HV, hbr⟩ := hrel
            by_cases hlt : k < cs.length
            · have hkl : k < ls.length := by have := HX.out.ll; omega
              have D0 := tr DA hbr
              obtain ⟨q1, o1, r1, c1, rfl, hc1, hr1⟩ := hL.below D0 (Nat.le_refl _) k hkl
              have hki : (k : Int) < (cs.length : Int) := by omega
              have hki2 : (k : Int) < (ls.length : Int) := by omega
              obtain ⟨p1, vp, ep⟩ := of_one HX.out.cc hlt
              obtain ⟨p2, vq, eq⟩ := of_one (HX.out.cl k hlt) (i := K) (by rw [Hml.out k hlt]; exact hKl)
              obtain ⟨x0, x1, hx⟩ : ∃ x0 x1, sOf cs [(k : Int)] = (x0, x1, 0) := ⟨_, _, Prod.ext rfl (Prod.ext rfl p1)⟩
              obtain ⟨b0, b1, hb0⟩ : ∃ x0 x1, sOf (nthL ls k) [(K : Int)] = (x0, x1, 0) := ⟨_, _, Prod.ext rfl (Prod.ext rfl p2)⟩
              rw [hx] at vp ep
              rw [hb0] at vq eq
              dsimp only at vp ep vq eq
              obtain ⟨y0, y1, f, hy⟩ : ∃ y0 y1 f, sBoth x0 x1 b0 b1 = (y0, y1, f) := ⟨_, _, _, rfl⟩
              have hBok := sBoth_ok vp vq
              rw [hy] at hBok
              dsimp only at hBok
              obtain ⟨r0, r1', ge, hr⟩ : ∃ u0 u1 u2, sEither s0 s1 y0 y1 = (u0, u1, u2) := ⟨_, _, _, rfl⟩
              have hOfA := fun p c W (h : Reads W p cs) po co (h' : Reads W po [(k : Int)]) => of_any p cs c po [(k : Int)] co W (by omega) (by simp) h h'
              have hOfB := fun p c W (h : Reads W p (nthL ls k)) po co (h' : Reads W po [(K : Int)]) => of_any p (nthL ls k) c po [(K : Int)] co W (by have := Hlo.out k hkl; omega) (by simp) h h'
              have hBo := fun W => both_any x0 x1 b0 b1 W
              have hEi := fun W => either_any lenOk s0 s1 y0 y1 W
              rw [hx] at hOfA
              rw [hb0] at hOfB
              rw [hy] at hBo
              rw [hr] at hEi
              simp only [List.length_cons, List.length_nil, Nat.zero_add] at hOfA hOfB
              have z5 : (((nthL ls k).length : Int) != (M.length : Int)) = false := by rw [Hml.out k hlt]; simp
              have HB : Hid (f = 10 ∨ (f = 0 ∧ badC y0 y1 = false ∧ val y0 y1 = fr cs k * fr (nthL ls k) K)) := by
                rcases hBok with h | ⟨h1, h2, h3⟩
                · exact .inl h.1
                · exact .inr ⟨h1, h2, by rw [h3, ep, eq]⟩
              have HE : Hid (badC y0 y1 = false → val y0 y1 = fr cs k * fr (nthL ls k) K → ge = 10 ∨ (ge = 0 ∧ badC r0 r1' = false ∧ val r0 r1' = rsum (fun j => fr cs j * fr (nthL ls j) K) (k + 1))) := fun hv he => by
                obtain ⟨v1, v2⟩ := HV.out
                have hle : val s0 s1 + val y0 y1 ≤ 1 := by
                  rw [v2, he]
                  have := rsum_mono (f := fun j => fr cs j * fr (nthL ls j) K) (m := k + 1) (n := cs.length) hlt (fun j hj => Rat.mul_nonneg (fr_nonneg HX.out.cc j) (fr_nonneg (HX.out.cl j hj) K))
                  have h2 := fr_le_one Hmc.out hKl
                  have h3 := mix_fr HX.out (k := K) (by rw [← HX.out.len0, HX.out.len0]; have := Hml.out k hlt; rw [HX.out.len k hlt] at this; omega)
                  rw [HM.out] at h3
                  dsimp only at h3
                  rw [h3] at h2
                  exact Rat.le_trans this h2
                have hs := sEither_le v1 hv hle
                rw [hr] at hs
                dsimp only at hs
                rcases hs with hs | hs
                · subst hs
                  have := sEither_ok v1 hv (by rw [hr])
                  rw [hr] at this
                  dsimp only at this
                  exact .inr ⟨rfl, this.1, by rw [this.2, v2, he]; rfl⟩
                · exact .inl hs.1
              have hln := Hlo.out k hkl
              clear hx hb0 hy hr hBok p1 p2 ep eq vp vq HV
              have S0 := FS
              have C0 : Below wr.heap.size wr wr := Below.refl _ _
              have K0 := hc1
              have hbr0 := hbr
              clear FS hc1
              go_wp2_with fail
              go_call (own_any pa cs ca _ (by omega) (hCa.below D0 (Nat.le_refl _))) as e v1 ⟨⟨ppRa, ccRa, rfl, Ra1⟩, hb⟩
              have S1 := S0.tr hb
              have C1 := tr C0 hb
              have K1 := cell_tr_r K0 hb
              have D1 := tr D0 hb
              clear S0 C0 K0 D0 hb
              have P := below1 v1 (.cells #[.int .i64 (k : Int)] 3)
              have S2 := S1.tr P
              have C2 := tr C1 P
              have K2 := cell_tr_r K1 P
              have Ra2 := Ra1.below P (Nat.le_refl _)
              have D2 := tr D1 P
              have Rk2 : Reads (v1.alloc (.cells #[.int .i64 (k : Int)] 3)) (some ⟨v1.heap.size, 0, none⟩) [(k : Int)] := reads_new v1 [(k : Int)] 3
              clear S1 C1 K1 Ra1 D1 P
              go_wp2_with fail
              go_call (hOfA _ _ _ Ra2 _ _ Rk2) as e v3 ⟨rfl, hb⟩
              have S3 := S2.tr hb
              have C3 := tr C2 hb
              have K3 := cell_tr_r K2 hb
              have Ra3 := Ra2.below hb (Nat.le_refl _)
              have Rk3 := Rk2.below hb (Nat.le_refl _)
              have D3 := tr D2 hb
              clear S2 C2 K2 Ra2 Rk2 D2 hb
              clear Ra3 Rk3
              have P := below1 v3 (.cells #[.int .i64 x0, .int .i64 x1] 23)
              have S4 := S3.tr P
              have C4 := tr C3 P
              have K4 := cell_tr_r K3 P
              have D4 := tr D3 P
              have A4 := Fr.new v3 x0 x1 23
              clear S3 C3 K3 D3 P
              have kk := K4
              go_wp2_with fail
              go_call (own_any r1 (nthL ls k) c1 _ (by omega) (hr1.below C4 (Nat.le_refl _))) as e v5 ⟨⟨ppRb, ccRb, rfl, Rb5⟩, hb⟩
              have S5 := S4.tr hb
              have C5 := tr C4 hb
              have K5 := cell_tr_r K4 hb
              have A5 := A4.tr hb
              have D5 := tr D4 hb
              clear S4 C4 K4 A4 D4 hb
              clear kk
              have P := below1 v5 (.cells #[.int .i64 (K : Int)] 3)
              have S6 := S5.tr P
              have C6 := tr C5 P
              have K6 := cell_tr_r K5 P
              have A6 := A5.tr P
              have Rb6 := Rb5.below P (Nat.le_refl _)
              have D6 := tr D5 P
              have RK6 : Reads (v5.alloc (.cells #[.int .i64 (K : Int)] 3)) (some ⟨v5.heap.size, 0, none⟩) [(K : Int)] := reads_new v5 [(K : Int)] 3
              clear S5 C5 K5 A5 Rb5 D5 P
              go_wp2_with fail
              go_call (hOfB _ _ _ Rb6 _ _ RK6) as e v7 ⟨rfl, hb⟩
              have S7 := S6.tr hb
              have C7 := tr C6 hb
              have K7 := cell_tr_r K6 hb
              have A7 := A6.tr hb
              have Rb7 := Rb6.below hb (Nat.le_refl _)
              have RK7 := RK6.below hb (Nat.le_refl _)
              have D7 := tr D6 hb
              clear S6 C6 K6 A6 Rb6 RK6 D6 hb
              clear Rb7 RK7 K7
              have P := below1 v7 (.cells #[.int .i64 b0, .int .i64 b1] 23)
              have S8 := S7.tr P
              have C8 := tr C7 P
              have A8 := A7.tr P
              have D8 := tr D7 P
              have B8 := Fr.new v7 b0 b1 23
              clear S7 C7 A7 D7 P
              obtain ⟨cA0, cA1, fA0, fA1⟩ := id A8
              obtain ⟨cB0, cB1, fB0, fB1⟩ := id B8
              go_wp2_with fail
              go_call (hBo _) as e v9 ⟨rfl, hb⟩
              clear cA0 cA1 fA0 fA1 cB0 cB1 fB0 fB1
              have S9 := S8.tr hb
              have C9 := tr C8 hb
              have A9 := A8.tr hb
              have B9 := B8.tr hb
              have D9 := tr D8 hb
              clear S8 C8 A8 B8 D8 hb
              have P := below1 v9 (.cells #[.int .i64 y0, .int .i64 y1] 23)
              have S10 := S9.tr P
              have C10 := tr C9 P
              have A10 := A9.tr P
              have B10 := B9.tr P
              have D10 := tr D9 P
              have T10 := Fr.new v9 y0 y1 23
              clear S9 C9 A9 B9 D9 P
              clear hOfA hOfB hBo A10 B10
              by_cases hf : f = 10
              · subst hf
                go_wp2_with fail
                go_call (known_any _) as e v11 ⟨rfl, hb⟩
                have S11 := S10.tr hb
                have C11 := tr C10 hb
                have T11 := T10.tr hb
                have D11 := tr D10 hb
                clear S10 C10 T10 D10 hb
                go_wp2
                go_ret
                exact ⟨rfl, D11⟩
              · obtain ⟨hf0, vy, ey⟩ := HB.out.resolve_left hf
                subst hf0
                have HE1 := Lib.hid (HE.out vy ey)
                clear HE HB hf vy ey
                obtain ⟨cS0, cS1, fS0, fS1⟩ := id S10
                obtain ⟨cT0, cT1, fT0, fT1⟩ := id T10
                go_wp2_with fail
                go_call (hEi _) as e v11 ⟨rfl, hb⟩
                clear cS0 cS1 fS0 fS1 cT0 cT1 fT0 fT1
                have S11 := S10.tr hb
                have C11 := tr C10 hb
                have T11 := T10.tr hb
                have D11 := tr D10 hb
                clear S10 C10 T10 D10 hb
                by_cases hg : ge = 10
                · subst hg
                  obtain ⟨cS0, cS1, fS0, fS1⟩ := id S11
                  have hA0 : w.heap.size ≤ v2.heap.size := DA.size
                  go_wp2_with fail
                  go_call (known_any _) as e v ⟨rfl, hb⟩
                  go_wp2
                  go_ret
                  exact ⟨rfl, tr ((D11.setCell (p := ⟨v2.heap.size, 0, none⟩) hA0 _).setCell (p := ⟨v2.heap.size, 1, none⟩) hA0 _) hb⟩
                · obtain ⟨hg0, vr, er⟩ := HE1.out.resolve_left hg
                  subst hg0
                  have HR := Lib.hid (And.intro vr er)
                  clear HE1 hg vr er
                  obtain ⟨cS0, cS1, fS0, fS1⟩ := id S11
                  have hS9 := S11
                  have hC9 := tr hbr0 C11
                  go_wp2
                  go_roundw
                  case rel => exact ⟨k + 1, by omega, by go_num, r0, r1', Fr.set hS9 r0 r1', HR.out, (hC9.setCell (p := ⟨v2.heap.size, 0, none⟩) (Nat.le_refl _) _).setCell (p := ⟨v2.heap.size, 1, none⟩) (Nat.le_refl _) _⟩
                  case measure => simp [intOf]; omega
            · as_aux_lemma =>
                obtain rfl : k = cs.length := by omega
                have S0 := FS
                have D0 := tr DA hbr
                have X0 := cell_tr hbr XA
                have RM0 := MA.below hbr (Nat.le_refl _)
                have hcs0 : 1 ≤ cs.length := by
                  have := (chk1_ok HX.out.cc).2.2.1
                  rcases cs with _ | ⟨x, r⟩
                  · simp [lsum] at this
                  · simp
                have hn : M.length = (nthL ls 0).length := by have := Hml.out 0 hcs0; omega
                obtain ⟨p1, vp, ep⟩ := of_one Hmc.out hKl
                have hsum : sOf M [(K : Int)] = (s0, s1, 0) := by
                  have h3 := mix_fr HX.out (k := K) (by omega)
                  rw [HM.out] at h3
                  dsimp only at h3
                  obtain ⟨z1, z2⟩ := val_inj vp HV.out.1 (by rw [ep, HV.out.2]; exact h3)
                  exact Prod.ext z1 (Prod.ext z2 p1)
                have hOfM := fun p c W (h : Reads W p M) po co (h' : Reads W po [(K : Int)]) => of_any p M c po [(K : Int)] co W (by omega) (by simp) h h'
                rw [hsum] at hOfM
                simp only [List.length_cons, List.length_nil, Nat.zero_add] at hOfM
                have Hn := Lib.hid hn
                clear hsum p1 vp ep FS DA XA MA hbr hn HV
                go_wp2_with fail
                go_call (own_any ppRM M ccRM _ (by omega) (came_chk Hmc.out RM0)) as e v1 ⟨⟨ppRm, ccRm, rfl, Rm1⟩, hb⟩
                have S1 := S0.tr hb
                have X1 := cell_tr_r X0 hb
                have RM1 := RM0.below hb (Nat.le_refl _)
                have D1 := tr D0 hb
                clear S0 X0 RM0 D0 hb
                have P := below1 v1 (.cells #[.int .i64 (K : Int)] 3)
                have S2 := S1.tr P
                have X2 := cell_tr_r X1 P
                have RM2 := RM1.below P (Nat.le_refl _)
                have Rm2 := Rm1.below P (Nat.le_refl _)
                have D2 := tr D1 P
                have RK2 : Reads (v1.alloc (.cells #[.int .i64 (K : Int)] 3)) (some ⟨v1.heap.size, 0, none⟩) [(K : Int)] := reads_new v1 [(K : Int)] 3
                clear S1 X1 RM1 Rm1 D1 P
                go_wp2_with fail
                go_call (hOfM _ _ _ Rm2 _ _ RK2) as e v3 ⟨rfl, hb⟩
                have S3 := S2.tr hb
                have X3 := cell_tr_r X2 hb
                have RM3 := RM2.below hb (Nat.le_refl _)
                have Rm3 := Rm2.below hb (Nat.le_refl _)
                have RK3 := RK2.below hb (Nat.le_refl _)
                have D3 := tr D2 hb
                clear S2 X2 RM2 Rm2 RK2 D2 hb
                clear hOfM Rm3 RK3
                have P := below1 v3 (.cells #[.int .i64 s0, .int .i64 s1] 23)
                have S4 := S3.tr P
                have X4 := cell_tr_r X3 P
                have RM4 := RM3.below P (Nat.le_refl _)
                have D4 := tr D3 P
                have U4 := Fr.new v3 s0 s1 23
                clear S3 X3 RM3 D3 P
                obtain ⟨cU0, cU1, fU0, fU1⟩ := id U4
                obtain ⟨cS0, cS1, fS0, fS1⟩ := id S4
                have hO := empty_ownsL (v3.alloc (.cells #[.int .i64 s0, .int .i64 s1] 23))
                have Hsz : Hid ((v3.alloc (.cells #[.int .i64 s0, .int .i64 s1] 23)).heap.size = v3.heap.size + 1) := by show _ = _; simp
                go_wp2_with fail
                obtain ⟨wB, hwB⟩ : ∃ x, (v3.alloc (.cells #[.int .i64 s0, .int .i64 s1] 23)) = x := ⟨_, rfl⟩
                rw [hwB] at X4 RM4 D4 hO Hsz ⊢
                clear hwB cU0 cU1 fU0 fU1 cS0 cS1 fS0 fS1 U4 S4
                have DB := D4
                have XB := X4
                have MB := RM4
                clear D4 X4 RM4
                have hB0 := below1 wB (.cells #[] 34)
                go_loopw [22, 23] (fun v i wr => ∃ k : Nat, k ≤ ls.length ∧ i = .int .i64 k ∧ ∃ g cap vals, v = .slice (some ⟨g, 0, none⟩) k cap ∧ wr.ownsRow wB.heap.size 34 1 v k vals ∧ Copies wr g (mapped ls ts 4) vals k ∧ Hid (∀ j, j < k → (sMap (nthL ls j) ts 4).2 = 0) ∧ Below wB.heap.size wB wr) (fun _ i _ => ls.length - (intOf i).toNat)
                case atStart => exact ⟨0, Nat.zero_le _, rfl, v3.heap.size + 1, 0, [], rfl, by rw [Hsz.out] at hO ⊢; exact hO, (fun j hj => by omega), (fun j hj => by omega : ∀ j, j < 0 → (sMap (nthL ls j) ts 4).2 = 0), hB0⟩
                case round =>
                  obtain ⟨k, hk, rfl, g, cap, vals, rfl, hown, hcp, Hok, hbr⟩ := hrel
                  by_cases hlt : k < ls.length
                  · as_aux_lemma =>
                      have D0 := tr DB hbr
                      obtain ⟨q1, o1, r1, c1, rfl, hc1, hr1⟩ := hL.below D0 (Nat.le_refl _) k hlt
                      have hx1 := cell_tr hbr XB
                      have hki : (k : Int) < (ls.length : Int) := by omega
                      have hln := Hlo.out k hlt
                      have hkc : k < cs.length := by have := HX.out.ll; omega
                      obtain ⟨mm, em, hmm⟩ : ∃ u v, sMap (nthL ls k) ts 4 = (u, v) := ⟨_, _, rfl⟩
                      have hem := sMap_err (ts := ts) (HX.out.cl k hkc)
                      rw [hmm] at hem
                      dsimp only at hem
                      have hM9 := fun p c q d W (h : Reads W p (nthL ls k)) (h' : Reads W q ts) => map_new p (nthL ls k) c q ts d 4 W (by omega) (by omega) h h'
                      rw [hmm] at hM9
                      dsimp only at hM9
                      have O1 := fun w1 (hx : Below wr.heap.size wr w1) => own_any r1 (nthL ls k) c1 w1 (by omega) (hr1.below hx (Nat.le_refl _))
                      have O2 := fun w1 (hx : Below wr.heap.size wr w1) => own_any pt ts ct w1 (by omega) (hCt.below (tr D0 hx) (Nat.le_refl _))
                      have Hmm := Lib.hid hmm
                      have Hem := Lib.hid hem
                      clear hmm hem
                      go_upto_region 41 with fail
                      go_cut [24, 25] (fun sa sb wx => ∃ p c, sa = .slice p mm.length c ∧ sb = .int .i64 em ∧ Reads wx p mm ∧ (∀ q o, p = some ⟨q, o, none⟩ → wr.heap.size ≤ q) ∧ Below wr.heap.size wr wx)
                      case first => as_aux_lemma =>
                        go_region_held3 (fun w' => w'.cell? ⟨q1, o1 + k, none⟩ = some (.slice r1 (nthL ls k).length c1) ∧ w'.cell? ⟨w.heap.size, 1, none⟩ = some (.slice pt ts.length ct) ∧ Below wr.heap.size wr w')
                          (first | exact ⟨hc1, hx1, (Below.refl _ _).drew⟩ | assumption | (go_split_ands; exact ⟨cell_tr hbk (by assumption), cell_tr hbk (by assumption), tr (by assumption) hbk⟩))
                          (first
                            | (go_split_ands; go_at_call 16; (with_reducible refine (O1 _ (by assumption)).mono ?_); rintro e w' ⟨⟨pA, cA, rfl, hrA⟩, hbk⟩; (try have hrB := hrB.below hbk (Nat.le_refl _)))
                            | (go_split_ands; go_at_call 16; (with_reducible refine (O2 _ (by assumption)).mono ?_); rintro e w' ⟨⟨pB, cB, rfl, hrB⟩, hbk⟩; (try have hrA := hrA.below hbk (Nat.le_refl _)))
                            | (go_split_ands; go_at_call 19; (with_reducible refine (hM9 _ _ _ _ _ hrA hrB).mono ?_); rintro e w' ⟨⟨pM, cM, rfl, hrM, hfr⟩, hbk⟩; have hfr2 := fun q o e => Nat.le_trans (Below.size (by assumption)) (hfr q o e)))
                        all_goals
                          rename_i hh
                          obtain ⟨_, _, hz⟩ := hh
                          go_wp2_with fail
                          go_meet
                          exact ⟨_, _, rfl, rfl, hrM, hfr2, hz⟩
                      case rest => as_aux_lemma =>
                        obtain ⟨pM, cM, rfl, rfl, hrM, hfr, hd⟩ := hcut
                        obtain ⟨wC, rfl⟩ : ∃ x : World, x = wc := ⟨_, rfl⟩
                        by_cases he : em = 0
                        · subst he
                          have hgw : g < wr.heap.size := (hown.lt g rfl).2
                          have hown3 := owns_kept hown hd
                          have hB3 := tr hbr hd
                          have hcp3 : Copies wC g (mapped ls ts 4) vals k := fun j hj => by
                            obtain ⟨r, c, h1, h2⟩ := hcp j hj
                            exact ⟨r, c, h1, h2.below hd⟩
                          have hmk : nthL (mapped ls ts 4) k = mm := by
                            rw [nthL_mapped ts 4 hlt]
                            have := (map_ok (m := 4) (xs := nthL ls k) (ts := ts) (by show (sMap (nthL ls k) ts 4).2 = 0; rw [Hmm.out])).2.2.2.1
                            rw [← this]
                            show (sMap (nthL ls k) ts 4).1 = mm
                            rw [Hmm.out]
                          have hfar : Far wC g pM (nthL (mapped ls ts 4) k) := fun i hi => by
                            rw [hmk] at hi ⊢
                            obtain ⟨q, o, h1, h2⟩ := hrM i hi
                            have := hfr q o h1
                            exact ⟨q, o, h1, by omega, h2⟩
                          have hvl : vals.length = k := by simpa using hown.1
                          obtain ⟨LL, hLL⟩ : ∃ n, mm.length = n := ⟨_, rfl⟩
                          have HLL : Hid ((nthL (mapped ls ts 4) k).length = LL) := by show _ = _; rw [hmk]; exact hLL
                          have Hn : Hid (∀ j, j < k + 1 → (sMap (nthL ls j) ts 4).2 = 0) := fun j hj => by
                            by_cases e : j = k
                            · subst e; rw [Hmm.out]
                            · exact Hok.out j (by omega)
                          rw [hLL]
                          have hbs := hB3.size
                          clear hown hd hbr hcp hc1 hr1 hrM hLL hmk Hmm Hem hM9 O1 O2
                          go_wp2_with (at_builtin; refine wpList_append_lies _ rfl _ _ 35 rfl wB.heap.size 34 i0 (.slice none 0 0) 1 24 Try.underlying35 hi hz0 hz1 hz2 rfl (by decide) _ _ _ rfl (hown3.alloc _) ⟨wC.heap.size, 0, none⟩ 1 1 [.slice pM LL cM] rfl rfl ?c1 ?c2 ?c0 ?c3 ?c4 ?c5 _ rfl ?_)
                          case c1 =>
                            intro jj u hjj
                            rcases jj with _ | jj
                            · have hu : u = .slice pM LL cM := by simpa using hjj.symm
                              subst hu
                              rw [Go.WideShapes.add_plain, World.cell?_alloc_at _ _ _ _ rfl]
                              simp
                            · simp at hjj
                          case c2 =>
                            intro u hu
                            have hu : u = .slice pM LL cM := by simpa using hu
                            subst hu
                            rfl
                          case c0 => omega
                          case c3 => unfold maxLen; omega
                          case c4 => omega
                          case c5 => simp; omega
                          intro g' cap' w4 hown' hgrow hat hlt'
                          have hbz : Below wB.heap.size wB w4 := (hB3.alloc hB3.size _).grown hgrow (by simp; omega) (fun q e => by
                            have h9 := (hown3.lt q e)
                            omega)
                          have hat' : some g = some g' ∨ g' = (wC.alloc (.cells #[.slice pM LL cM] 34)).heap.size := by simpa [Value.ownBlock] using hat
                          have hcp4 : Copies w4 g' (mapped ls ts 4) (vals ++ [.slice pM LL cM]) (k + 1) := fun j hj => by
                            by_cases e : j = k
                            · subst e
                              refine ⟨pM, cM, ?_, (hfar.below (below1 _ _)).grown hgrow hat'⟩
                              rw [HLL.out, List.getElem?_append_right (by omega), hvl]
                              simp
                            · obtain ⟨r, c, h1, h2⟩ := hcp3 j (by omega)
                              refine ⟨r, c, ?_, (h2.below (below1 _ _)).grown hgrow hat'⟩
                              rw [List.getElem?_append_left (by omega)]; exact h1
                          have Hcp4 := Lib.hid hcp4
                          clear hcp4 hcp3 hfar hown3 hgrow hat hat'
                          go_wp2
                          go_roundw
                          case rel => exact ⟨k + 1, by omega, by go_num, g', cap', _, rfl, hown', Hcp4.out, Hn, hbz⟩
                          case measure => simp [intOf]; omega
                        · obtain rfl : em = 2 := Hem.out.resolve_left he
                          have D2 := tr D0 hd
                          go_wp2_with fail
                          go_call (known_any _) as e v ⟨rfl, hb⟩
                          go_wp2
                          go_ret
                          exact ⟨rfl, tr D2 hb⟩
                  · as_aux_lemma =>
                      obtain rfl : k = ls.length := by omega
                      have D0 := tr DB hbr
                      have hx1 := cell_tr hbr XB
                      have hm1 := MB.below hbr (Nat.le_refl _)
                      have hlen : (mapped ls ts 4).length = ls.length := by unfold mapped; simp
                      have hRL := copies_readsL hown hcp hlen
                      have hll := HX.out.ll
                      have h04 := map_ok (m := 4) (xs := nthL ls 0) (ts := ts) (Hok.out 0 (by omega))
                      have ht : ∀ i, i < (nthL ls 0).length → 0 ≤ nth ts i ∧ nth ts i < ((4 : Nat) : Int) := h04.2.2.1
                      have hmx := mapped_mx HX.out hcs0 ht (by omega : 4 ≤ 4096)
                      obtain ⟨d1, d2, d3⟩ := mix_chk hmx (by omega : 4 ≤ 4096)
                      have hsm := mix_map HX.out hcs0 (by have := Hn.out; omega) ht (by omega : 4 ≤ 4096)
                      rw [HM.out] at hsm
                      dsimp only at hsm
                      obtain ⟨e1, e2⟩ := ok_map (xs := M) (ts := ts) (m := 4) Hmc.out (by rw [Hn.out]; exact h04.2.1) (by rw [Hn.out]; exact ht) (by omega) (by omega)
                      have ec := (map_chk (xs := M) (ts := ts) (m := 4) Hmc.out (by rw [Hn.out]; exact ht) (by omega)).1
                      obtain ⟨aa, haa⟩ : ∃ u, sMap M ts 4 = (u, 0) := ⟨_, Prod.ext rfl e1⟩
                      obtain ⟨bb, hbb⟩ : ∃ u, sMix cs (mapped ls ts 4) = (u, 0) := ⟨_, Prod.ext rfl d3⟩
                      have haa2 : mapTo M ts 4 M.length = aa := by rw [← e2]; show (sMap M ts 4).1 = aa; rw [haa]
                      rw [haa2] at hsm ec
                      rw [hbb] at hsm d1 d2
                      dsimp only at hsm d1 d2
                      have la : aa.length = 4 := by rw [← haa2, mapTo_length]
                      have hM9 := fun p c q d W (h : Reads W p M) (h' : Reads W q ts) => map_any p M c q ts d 4 W (by omega) (by omega) h h'
                      rw [haa] at hM9
                      dsimp only at hM9
                      have hX9 := fun p c W (h : Reads W p cs) (h' : ReadsL W (some ⟨g, 0, none⟩) (mapped ls ts 4)) => mix_any p cs c (some ⟨g, 0, none⟩) (mapped ls ts 4) cap W (by omega) (by omega) (fun k hk => by rw [nthL_mapped ts 4 (by omega), mapTo_length]; omega) h h'
                      rw [hbb, hlen] at hX9
                      dsimp only at hX9
                      have Ec := Lib.hid ec
                      have Ed := Lib.hid d1
                      have Es := Lib.hid hsm
                      have La := Lib.hid la
                      have Ld := Lib.hid d2
                      have O1 := fun w1 (hx : Below wr.heap.size wr w1) => own_any ppRM M ccRM w1 (by omega) (came_chk Hmc.out (hm1.below hx (Nat.le_refl _)))
                      have O2 := fun w1 (hx : Below wr.heap.size wr w1) => own_any pt ts ct w1 (by omega) (hCt.below (tr D0 hx) (Nat.le_refl _))
                      clear haa haa2 hbb hsm ec d1 d3 e1 e2 hmx h04 ht hown hcp hlen hll hlt hO hB0 la d2
                      go_upto_region 45 with fail
                      go_cut [26, 10] (fun sa sb wx => ∃ p c, sa = .slice p aa.length c ∧ sb = .int .i64 0 ∧ Reads wx p aa ∧ Below wr.heap.size wr wx)
                      case first => as_aux_lemma =>
                        go_region_held3 (fun w' => w'.cell? ⟨w.heap.size, 1, none⟩ = some (.slice pt ts.length ct) ∧ Below wr.heap.size wr w')
                          (first | exact ⟨hx1, (Below.refl _ _).drew⟩ | assumption | (go_split_ands; exact ⟨cell_tr hbk (by assumption), tr (by assumption) hbk⟩))
                          (first
                            | (go_split_ands; go_at_call 16; (with_reducible refine (O1 _ (by assumption)).mono ?_); rintro e w' ⟨⟨pA, cA, rfl, hrA⟩, hbk⟩; (try have hrB := hrB.below hbk (Nat.le_refl _)))
                            | (go_split_ands; go_at_call 16; (with_reducible refine (O2 _ (by assumption)).mono ?_); rintro e w' ⟨⟨pB, cB, rfl, hrB⟩, hbk⟩; (try have hrA := hrA.below hbk (Nat.le_refl _)))
                            | (go_split_ands; go_at_call 19; (with_reducible refine (hM9 _ _ _ _ _ hrA hrB).mono ?_); rintro e w' ⟨⟨pM, cM, rfl, hrM⟩, hbk⟩))
                        all_goals
                          rename_i hh
                          obtain ⟨_, hz⟩ := hh
                          go_wp2_with fail
                          go_meet
                          exact ⟨_, _, rfl, rfl, hrM, hz⟩
                      case rest => as_aux_lemma =>
                        obtain ⟨pM, cM, rfl, rfl, hrM, hd⟩ := hcut
                        obtain ⟨wC, rfl⟩ : ∃ x : World, x = wc := ⟨_, rfl⟩
                        have D1 := tr D0 hd
                        have hR1 := hRL.below hd (Nat.le_refl _)
                        clear hRL hd hx1 hm1 O1 O2 hM9
                        go_wp2_with fail
                        go_call (own_any pa cs ca _ (by omega) (hCa.below D1 (Nat.le_refl _))) as e wD ⟨⟨pC, cC, rfl, hrC⟩, hb⟩
                        have D2 := tr D1 hb
                        have hR2 := hR1.below hb (Nat.le_refl _)
                        have hrM2 := hrM.below hb (Nat.le_refl _)
                        clear hR1 hrM hb D1
                        go_wp2_with fail
                        go_call (hX9 _ _ _ hrC hR2) as e wE ⟨⟨pD, cD, rfl, hrD⟩, hb⟩
                        have D3 := tr D2 hb
                        have hrM3 := hrM2.below hb (Nat.le_refl _)
                        clear hR2 hrM2 hb D2 hrC
                        have hsame := hsame_any pM aa cM pD bb cD wE (by have := La.out; omega) (by have := Ld.out; omega) (came_chk Ec.out hrM3) (came_chk Ed.out hrD)
                        rw [Es.out] at hsame
                        go_wp2_with fail
                        go_call hsame as e wF ⟨rfl, hb⟩
                        have D4 := tr D3 hb
                        go_wp2_with fail
                        go_call (known_any _) as e wG ⟨rfl, hb'⟩
                        go_wp2
                        go_ret
                        exact ⟨rfl, tr D4 hb'⟩
        · have hM0 : M = [] := by have := sMix_err (cs := cs) (ls := ls) (by rw [HM.out]; exact hE); rw [HM.out] at this; exact this
          subst hM0
          have e1 : (E == 0) = false := by simpa using hE
          have e2 : (E != 0) = true := by simpa using hE
          go_wp2_with fail
          go_call (known_any _) as e v3 ⟨rfl, hb⟩
          have Y3 := cell_tr_r Y2 hb
          have X3 := cell_tr_r X2 hb
          have RM3 := RM2.below hb (Nat.le_refl _)
          have D3 := tr D2 hb
          clear Y2 X2 RM2 D2 hb
          go_wp2
          go_ret
          exact ⟨rfl, D3⟩
end Go.Proofs.Ytnpnnfbmnlgioaa
