/-
  The walk of OddsFar where both lists can be compared: what its calls return given.
-/
import Derived.Test.YtnpnnfbmnlgioaaFe
import Derived.Test.YtnpnnfbmnlgioaaCh
import Derived.Test.YtnpnnfbmnlgioaaK
import Derived.Deep.DeepCutAuto
import Derived.Deep.RegionHeld3
namespace Go.Proofs.Ytnpnnfbmnlgioaa
open Go.RowKit
set_option linter.unusedVariables false

/-- The third argument's block. -/
structure Bx (w : World) (q : Nat) (a b c : Value) : Prop where
  c0 : w.cell? ⟨q, 0, none⟩ = some a
  c1 : w.cell? ⟨q, 1, none⟩ = some b
  c2 : w.cell? ⟨q, 2, none⟩ = some c
theorem Fr.set {w : World} {A : Nat} {x y : Int} (h : Fr w A x y) (u0 u1 : Int) : Fr ((w.setCell ⟨A, 0, none⟩ (.int .i64 u0)).setCell ⟨A, 1, none⟩ (.int .i64 u1)) A u0 u1 := by
  have f0 := h.f0
  have f1 := h.f1
  exact ⟨cell_set2_0 h.c0, set1 _ _ h.c1, by go_simp, by go_simp⟩
theorem Bx.tr {w w' : World} {q : Nat} {a b c : Value} (h : Bx w q a b c) (hb : Below w.heap.size w w') : Bx w' q a b c := ⟨cell_tr hb h.c0, cell_tr hb h.c1, cell_tr hb h.c2⟩

set_option maxRecDepth 100000 in
set_option maxHeartbeats 16000000 in
theorem far_main (pa : Option Addr) (xs : List Int) (ca : Nat) (pb : Option Addr) (ys : List Int) (cb : Nat) (pl : Option Addr) (zs : List Int) (cl : Nat) (S : Int) (pt : Option Addr) (ts : List Int) (ct : Nat) (w : World)
    (T : Nat → Bool) (β : Bool) (ms ns : List Int) (d0 d1 p0 p1 q0 q1 N s0 s1 es k2 em en h0 h1 ei k3 u0 u1 eu v0 v1 ev r0 r1 er k4 : Int)
    (hCa : Came w pa xs ca)
    (hCb : Came w pb ys cb)
    (hCl : Came w pl zs cl)
    (hCt : Came w pt ts ct)
    (lx : xs.length ≤ 20)
    (ly : ys.length ≤ 20)
    (lz : zs.length ≤ 20)
    (lt : ts.length ≤ 20)
    (hAB : ∀ p c q d w, Reads w p xs → Reads w q ys → Calls Try.prog 21 #[.slice p xs.length c, .slice q ys.length d] w fun e w' => e = .returned (.tuple #[.agg #[.int .i64 d0, .int .i64 d1], .int .i64 0]) ∧ Below w.heap.size w w')
    (hBA : ∀ p c q d w, Reads w p ys → Reads w q xs → Calls Try.prog 21 #[.slice p ys.length c, .slice q xs.length d] w fun e w' => e = .returned (.tuple #[.agg #[.int .i64 d0, .int .i64 d1], .int .i64 0]) ∧ Below w.heap.size w w')
    (hSm : ∀ w, Came w pa xs ca → Came w pb ys cb → Calls Try.prog 20 #[.slice pa xs.length ca, .slice pb ys.length cb] w fun e w' => e = .returned (.bool β) ∧ Below w.heap.size w w')
    (hβ : (d0 == 0) = β)
    (hT : ∀ i, i < xs.length → (bits BinOp.and IntKind.u32 (S / 2 ^ i) 1 == 1) = T i)
    (hP : ∀ p c q d w, Reads w p xs → Reads w q (setTo T xs.length) → Calls Try.prog 18 #[.slice p xs.length c, .slice q (setTo T xs.length).length d] w fun e w' => e = .returned (.tuple #[.agg #[.int .i64 p0, .int .i64 p1], .int .i64 0]) ∧ Below w.heap.size w w')
    (hQ : ∀ p c q d w, Reads w p ys → Reads w q (setTo T xs.length) → Calls Try.prog 18 #[.slice p ys.length c, .slice q (setTo T xs.length).length d] w fun e w' => e = .returned (.tuple #[.agg #[.int .i64 q0, .int .i64 q1], .int .i64 0]) ∧ Below w.heap.size w w')
    (hK : ∀ w, Calls Try.prog 6 #[.agg #[.int .i64 p0, .int .i64 p1], .agg #[.int .i64 q0, .int .i64 q1]] w fun e w' => e = .returned (.tuple #[.int .i64 N, .int .i64 0]) ∧ Below w.heap.size w w')
    (hE : ∀ w, Calls Try.prog 9 #[.agg #[.int .i64 q0, .int .i64 q1], .agg #[.int .i64 d0, .int .i64 d1]] w fun e w' => e = .returned (.tuple #[.agg #[.int .i64 s0, .int .i64 s1], .int .i64 es]) ∧ Below w.heap.size w w')
    (HK2 : Hid (es = 0 → ¬ 0 < k2 ∧ ∀ w, Calls Try.prog 6 #[.agg #[.int .i64 p0, .int .i64 p1], .agg #[.int .i64 s0, .int .i64 s1]] w fun e w' => e = .returned (.tuple #[.int .i64 k2, .int .i64 0]) ∧ Below w.heap.size w w'))
    (hM : ∀ p c q d w, Reads w p xs → Reads w q ts → Calls Try.prog 19 #[.slice p xs.length c, .slice q ts.length d, .int .i64 3] w fun e w' => (∃ p' c', e = .returned (.tuple #[.slice p' ms.length c', .int .i64 em]) ∧ Reads w' p' ms) ∧ Below w.heap.size w w')
    (hM2 : ∀ p c q d w, Reads w p ys → Reads w q ts → Calls Try.prog 19 #[.slice p ys.length c, .slice q ts.length d, .int .i64 3] w fun e w' => (∃ p' c', e = .returned (.tuple #[.slice p' ns.length c', .int .i64 en]) ∧ Reads w' p' ns) ∧ Below w.heap.size w w')
    (HEN : Hid (em = 0 → en = 0))
    (hA3 : ∀ p c q d w, Reads w p ms → Reads w q ns → Calls Try.prog 21 #[.slice p ms.length c, .slice q ns.length d] w fun e w' => e = .returned (.tuple #[.agg #[.int .i64 h0, .int .i64 h1], .int .i64 ei]) ∧ Below w.heap.size w w')
    (HK3 : Hid (em = 0 → ei = 0 → ¬ 0 < k3 ∧ ∀ w, Calls Try.prog 6 #[.agg #[.int .i64 h0, .int .i64 h1], .agg #[.int .i64 d0, .int .i64 d1]] w fun e w' => e = .returned (.tuple #[.int .i64 k3, .int .i64 0]) ∧ Below w.heap.size w w'))
    (hU : ∀ p c q d w, Reads w p xs → Reads w q zs → Calls Try.prog 21 #[.slice p xs.length c, .slice q zs.length d] w fun e w' => e = .returned (.tuple #[.agg #[.int .i64 u0, .int .i64 u1], .int .i64 eu]) ∧ Below w.heap.size w w')
    (hV : ∀ p c q d w, Reads w p zs → Reads w q ys → Calls Try.prog 21 #[.slice p zs.length c, .slice q ys.length d] w fun e w' => e = .returned (.tuple #[.agg #[.int .i64 v0, .int .i64 v1], .int .i64 ev]) ∧ Below w.heap.size w w')
    (HE2 : Hid (eu = 0 → ev = 0 → ∀ w, Calls Try.prog 9 #[.agg #[.int .i64 u0, .int .i64 u1], .agg #[.int .i64 v0, .int .i64 v1]] w fun e w' => e = .returned (.tuple #[.agg #[.int .i64 r0, .int .i64 r1], .int .i64 er]) ∧ Below w.heap.size w w'))
    (HK4 : Hid (eu = 0 → ev = 0 → er = 0 → k4 ≤ 0 ∧ ∀ w, Calls Try.prog 6 #[.agg #[.int .i64 d0, .int .i64 d1], .agg #[.int .i64 r0, .int .i64 r1]] w fun e w' => e = .returned (.tuple #[.int .i64 k4, .int .i64 0]) ∧ Below w.heap.size w w'))
    : Calls Try.prog 5 #[.slice pa xs.length ca, .slice pb ys.length cb, .agg #[.slice pl zs.length cl, .int .u32 S, .slice pt ts.length ct]] w fun e w' => e = .returned (.bool true) ∧ Below w.heap.size w w' := by
  obtain ⟨i0, hi, hz0, hz1, hz2⟩ := info_parts info_int
  have HT := Lib.hid hT
  clear hT
  have D0 : Below w.heap.size w (w.alloc (.cells #[.slice pl zs.length cl, .int .u32 S, .slice pt ts.length ct] 47)) := below1 _ _
  have B0 : Bx (w.alloc (.cells #[.slice pl zs.length cl, .int .u32 S, .slice pt ts.length ct] 47)) w.heap.size (.slice pl zs.length cl) (.int .u32 S) (.slice pt ts.length ct) := by refine ⟨?_, ?_, ?_⟩ <;> go_simp
  have bx : decide (20 < (xs.length : Int)) = false := by simp; omega
  have by' : decide (20 < (ys.length : Int)) = false := by simp; omega
  have bz : decide (20 < (zs.length : Int)) = false := by simp; omega
  have bt : decide (20 < (ts.length : Int)) = false := by simp; omega
  go_enter Try.func5, Try.ntmps5
  obtain ⟨cx0, cx1, cx2⟩ := id B0
  go_wp2_with fail
  go_call (own_any pa xs ca _ (by omega) (hCa.below D0 (Nat.le_refl _))) as e w1 ⟨⟨ppRa, ccRa, rfl, Ra1⟩, hb⟩
  have B1 := B0.tr hb
  have D1 := tr D0 hb
  clear cx0 cx1 cx2 bx by' bz bt
  clear B0 D0 hb
  go_wp2_with fail
  go_call (own_any pb ys cb _ (by omega) (hCb.below D1 (Nat.le_refl _))) as e w2 ⟨⟨ppRb, ccRb, rfl, Rb2⟩, hb⟩
  have B2 := B1.tr hb
  have Ra2 := Ra1.below hb (Nat.le_refl _)
  have D2 := tr D1 hb
  clear B1 Ra1 D1 hb
  go_wp2_with fail
  go_call (hAB _ _ _ _ _ Ra2 Rb2) as e w3 ⟨rfl, hb⟩
  clear Ra2
  clear Rb2
  have B3 := B2.tr hb
  have D3 := tr D2 hb
  clear B2 D2 hb
  have P := below1 w3 (.cells #[.int .i64 d0, .int .i64 d1] 23)
  have B4 := B3.tr P
  have D4 := tr D3 P
  have E4 := Fr.new w3 d0 d1 23
  clear B3 D3 P
  go_wp2_with fail
  go_call (own_any pb ys cb _ (by omega) (hCb.below D4 (Nat.le_refl _))) as e w5 ⟨⟨ppRb, ccRb, rfl, Rb5⟩, hb⟩
  have B5 := B4.tr hb
  have E5 := E4.tr hb
  have D5 := tr D4 hb
  clear B4 E4 D4 hb
  go_wp2_with fail
  go_call (own_any pa xs ca _ (by omega) (hCa.below D5 (Nat.le_refl _))) as e w6 ⟨⟨ppRa, ccRa, rfl, Ra6⟩, hb⟩
  have B6 := B5.tr hb
  have E6 := E5.tr hb
  have Rb6 := Rb5.below hb (Nat.le_refl _)
  have D6 := tr D5 hb
  clear B5 E5 Rb5 D5 hb
  go_wp2_with fail
  go_call (hBA _ _ _ _ _ Rb6 Ra6) as e w7 ⟨rfl, hb⟩
  clear Ra6
  clear Rb6
  have B7 := B6.tr hb
  have E7 := E6.tr hb
  have D7 := tr D6 hb
  clear B6 E6 D6 hb
  have P := below1 w7 (.cells #[.int .i64 d0, .int .i64 d1] 23)
  have B8 := B7.tr P
  have E8 := E7.tr P
  have D8 := tr D7 P
  have F8 := Fr.new w7 d0 d1 23
  clear B7 E7 D7 P
  obtain ⟨cE0, cE1, _, _⟩ := id E8
  obtain ⟨cF0, cF1, _, _⟩ := id F8
  go_wp2_with fail
  obtain ⟨wA, hwA⟩ : ∃ x, (w7.alloc (.cells #[.int .i64 d0, .int .i64 d1] 23)) = x := ⟨_, rfl⟩
  rw [hwA] at B8 E8 F8 D8 cE0 cE1 cF0 cF1 ⊢
  clear hwA
  go_region_held3 (fun w' => w'.cell? ⟨w3.heap.size, 0, none⟩ = some (.int .i64 d0) ∧ w'.cell? ⟨w3.heap.size, 1, none⟩ = some (.int .i64 d1) ∧ w'.cell? ⟨w7.heap.size, 0, none⟩ = some (.int .i64 d0) ∧ w'.cell? ⟨w7.heap.size, 1, none⟩ = some (.int .i64 d1) ∧ Below wA.heap.size wA w')
    (first | exact ⟨cE0, cE1, cF0, cF1, (Below.refl _ _).drew⟩ | assumption | exact and5 (by assumption) hbk)
    (first | (go_at_call 20; (with_reducible refine (hSm _ (hCa.below (tr D8 (by go_split_ands; assumption)) (Nat.le_refl _)) (hCb.below (tr D8 (by go_split_ands; assumption)) (Nat.le_refl _))).mono ?_); rintro e w' ⟨rfl, hbk⟩))
  rename_i hh
  obtain ⟨wB, rfl⟩ : ∃ x : World, x = w' := ⟨_, rfl⟩
  obtain ⟨_, _, _, _, hd⟩ := hh
  clear cE0 cE1 cF0 cF1
  have B9 := B8.tr hd
  have E9 := E8.tr hd
  have F9 := F8.tr hd
  have D9 := tr D8 hd
  clear B8 E8 F8 D8 hd
  clear hβ hSm hAB hBA
  have hO := empty_owns wB
  go_wp2
  go_loopw [11, 12] (fun v i wr => ∃ k : Nat, k ≤ xs.length ∧ i = .int .i64 k ∧ wr.ownsRow wB.heap.size 3 1 v (setTo T k).length ((setTo T k).map (Value.int .i64)) ∧ Below wB.heap.size wB wr) (fun _ i _ => xs.length - (intOf i).toNat)
  case atStart => exact ⟨0, Nat.zero_le _, rfl, hO, below1 _ _⟩
  case round =>
    obtain ⟨k, hk, rfl, hown, hbr⟩ := hrel
    by_cases hlt : k < xs.length
    · have hki : (k : Int) < (xs.length : Int) := by omega
      obtain ⟨cx0, cx1, cx2⟩ := B9.tr hbr
      have hc := HT.out k hlt
      have hcap : (setTo T k).length ≤ k := setTo_length T k
      by_cases hTk : T k = true
      · rw [hTk] at hc
        have hs1 : (setTo T (k + 1)).length = (setTo T k).length + 1 := by simp [setTo, hTk]
        have hs2 : (setTo T (k + 1)).map (Value.int .i64) = (setTo T k).map (Value.int .i64) ++ [.int .i64 (k : Int)] := by simp [setTo, hTk]
        have Hs := Lib.hid (And.intro hs1 hs2)
        clear hs1 hs2 hTk
        go_wp2_with (at_builtin; refine wpList_append_own _ rfl _ _ 34 rfl wB.heap.size 3 i0 (.int .i64 0) 1 8 Try.underlying34 hi hz0 hz1 hz2 rfl (by decide) _ _ _ rfl (hown.alloc _) ⟨wr.heap.size, 0, none⟩ 1 1 [.int .i64 (k : Int)] rfl rfl ?c1 ?c2 ?c3 ?c4 ?c5 ?_)
        case c1 =>
          intro j u hj
          rcases j with _ | j
          · have hu : u = .int .i64 (k : Int) := by simpa using hj.symm
            subst hu
            rw [Go.WideShapes.add_plain, World.cell?_alloc_at _ _ _ _ rfl]
            simp
          · simp at hj
        case c2 =>
          intro u hu
          have hu : u = .int .i64 (k : Int) := by simpa using hu
          subst hu
          rfl
        case c3 => unfold maxLen; omega
        case c4 => omega
        case c5 => have := hbr.size; simp; omega
        intro v' w1 hown' hgrow _
        go_wp2
        go_roundw
        case rel =>
          refine ⟨k + 1, by omega, by go_num, ?_, ?_⟩
          · rw [Hs.out.1, Hs.out.2]; exact hown'
          · exact (hbr.alloc hbr.size _).grown hgrow (by have := hbr.size; simp; omega) (fun k e => by have := hown.lt k e; omega)
        case measure => simp [intOf]; omega
      · have hTk' : T k = false := by simpa using hTk
        rw [hTk'] at hc
        have hs1 : setTo T (k + 1) = setTo T k := by simp [setTo, hTk']
        have Hs := Lib.hid hs1
        clear hs1 hTk hTk'
        go_wp2
        go_roundw
        case rel => exact ⟨k + 1, by omega, by go_num, by rw [Hs.out]; exact hown, hbr⟩
        case measure => simp [intOf]; omega
    · obtain rfl : k = xs.length := by omega
      obtain ⟨pL, cL, rfl, hrL⟩ : Got wr _ _ := Got.of_owns hown
      clear hown HT hO
      have B10 := B9.tr hbr
      have E10 := E9.tr hbr
      have F10 := F9.tr hbr
      have D10 := tr D9 hbr
      clear B9 E9 F9 D9 hbr
      have RL10 := hrL
      clear hrL
      go_wp2_with fail
      go_call (own_any pa xs ca _ (by omega) (hCa.below D10 (Nat.le_refl _))) as e w11 ⟨⟨ppRa, ccRa, rfl, Ra11⟩, hb⟩
      have B11 := B10.tr hb
      have E11 := E10.tr hb
      have F11 := F10.tr hb
      have RL11 := RL10.below hb (Nat.le_refl _)
      have D11 := tr D10 hb
      clear B10 E10 F10 RL10 D10 hb
      go_wp2_with fail
      go_call (hP _ _ _ _ _ Ra11 RL11) as e w12 ⟨rfl, hb⟩
      clear Ra11
      have B12 := B11.tr hb
      have E12 := E11.tr hb
      have F12 := F11.tr hb
      have RL12 := RL11.below hb (Nat.le_refl _)
      have D12 := tr D11 hb
      clear B11 E11 F11 RL11 D11 hb
      have P := below1 w12 (.cells #[.int .i64 p0, .int .i64 p1] 23)
      have B13 := B12.tr P
      have E13 := E12.tr P
      have F13 := F12.tr P
      have RL13 := RL12.below P (Nat.le_refl _)
      have D13 := tr D12 P
      have P13 := Fr.new w12 p0 p1 23
      clear B12 E12 F12 RL12 D12 P
      go_wp2_with fail
      go_call (own_any pb ys cb _ (by omega) (hCb.below D13 (Nat.le_refl _))) as e w14 ⟨⟨ppRb, ccRb, rfl, Rb14⟩, hb⟩
      have B14 := B13.tr hb
      have E14 := E13.tr hb
      have F14 := F13.tr hb
      have RL14 := RL13.below hb (Nat.le_refl _)
      have P14 := P13.tr hb
      have D14 := tr D13 hb
      clear B13 E13 F13 RL13 P13 D13 hb
      go_wp2_with fail
      go_call (hQ _ _ _ _ _ Rb14 RL14) as e w15 ⟨rfl, hb⟩
      clear Rb14
      clear RL14
      have B15 := B14.tr hb
      have E15 := E14.tr hb
      have F15 := F14.tr hb
      have P15 := P14.tr hb
      have D15 := tr D14 hb
      clear B14 E14 F14 P14 D14 hb
      clear hP hQ
      have P := below1 w15 (.cells #[.int .i64 q0, .int .i64 q1] 23)
      have B16 := B15.tr P
      have E16 := E15.tr P
      have P16 := P15.tr P
      have D16 := tr D15 P
      have Q16 := Fr.new w15 q0 q1 23
      clear B15 E15 P15 D15 P
      obtain ⟨cP0, cP1, _, _⟩ := id P16
      obtain ⟨cQ0, cQ1, _, _⟩ := id Q16
      go_wp2_with fail
      go_call (hK _) as e w17 ⟨rfl, hb⟩
      clear cP0 cP1 cQ0 cQ1
      have B17 := B16.tr hb
      have E17 := E16.tr hb
      have P17 := P16.tr hb
      have Q17 := Q16.tr hb
      have D17 := tr D16 hb
      clear B16 E16 P16 Q16 D16 hb
      go_upto_if 143 with fail
      go_cut [15] (fun s15 wx => Below w17.heap.size w17 wx)
      case first => as_aux_lemma =>
        have C17 := Below.refl w17.heap.size w17
        by_cases hN : 0 < N
        · obtain ⟨cQ0, cQ1, _, _⟩ := id Q17
          obtain ⟨cE0, cE1, _, _⟩ := id E17
          go_wp2_with fail
          go_call (hE _) as e w18 ⟨rfl, hb⟩
          clear cQ0 cQ1 cE0 cE1
          have B18 := B17.tr hb
          have E18 := E17.tr hb
          have P18 := P17.tr hb
          have Q18 := Q17.tr hb
          have C18 := tr C17 hb
          have D18 := tr D17 hb
          clear B17 E17 P17 Q17 C17 D17 hb
          have P := below1 w18 (.cells #[.int .i64 s0, .int .i64 s1] 23)
          have B19 := B18.tr P
          have E19 := E18.tr P
          have P19 := P18.tr P
          have Q19 := Q18.tr P
          have C19 := tr C18 P
          have D19 := tr D18 P
          have S19 := Fr.new w18 s0 s1 23
          clear B18 E18 P18 Q18 C18 D18 P
          by_cases hes : es = 0
          · subst hes
            obtain ⟨hk2, hK2⟩ := HK2.out (by first | exact trivial | rfl)
            obtain ⟨cP0, cP1, _, _⟩ := id P19
            obtain ⟨cS0, cS1, _, _⟩ := id S19
            go_wp2_with fail
            go_call (hK2 _) as e w20 ⟨rfl, hb⟩
            clear cP0 cP1 cS0 cS1
            have B20 := B19.tr hb
            have E20 := E19.tr hb
            have P20 := P19.tr hb
            have Q20 := Q19.tr hb
            have C20 := tr C19 hb
            have S20 := S19.tr hb
            have D20 := tr D19 hb
            clear B19 E19 P19 Q19 C19 S19 D19 hb
            go_wp2_with fail
            go_meet
            exact C20
          · have e1 : (es == 0) = false := by simpa using hes
            have e2 : (es != 0) = true := by simpa using hes
            go_wp2_with fail
            go_meet
            exact C19
        · go_wp2_with fail
          go_meet
          exact C17
      case rest => as_aux_lemma =>
        obtain ⟨wC, rfl⟩ : ∃ x : World, x = wc := ⟨_, rfl⟩
        have B18 := B17.tr hcut
        have E18 := E17.tr hcut
        have D18 := tr D17 hcut
        clear B17 E17 D17 hcut
        clear hK hE HK2
        obtain ⟨cx0, cx1, cx2⟩ := id B18
        have O1 := fun w1 (hx : Below wC.heap.size wC w1) => own_any pa xs ca w1 (by omega) (hCa.below (tr D18 hx) (Nat.le_refl _))
        have O2 := fun w1 (hx : Below wC.heap.size wC w1) => own_any pt ts ct w1 (by omega) (hCt.below (tr D18 hx) (Nat.le_refl _))
        go_upto_region 28 with fail
        go_cut [21, 22] (fun sa sb wx => ∃ p c, sa = .slice p ms.length c ∧ sb = .int .i64 em ∧ Reads wx p ms ∧ Below wC.heap.size wC wx)
        case first => as_aux_lemma =>
          go_region_held3 (fun w' => w'.cell? ⟨w.heap.size, 2, none⟩ = some (.slice pt ts.length ct) ∧ Below wC.heap.size wC w')
            (first | exact ⟨cx2, (Below.refl _ _).drew⟩ | assumption | (go_split_ands; exact ⟨cell_tr hbk (by assumption), tr (by assumption) hbk⟩))
            (first
              | (go_split_ands; go_at_call 16; (with_reducible refine (O1 _ (by assumption)).mono ?_); rintro e w' ⟨⟨pA, cA, rfl, hrA⟩, hbk⟩; (try have hrB := hrB.below hbk (Nat.le_refl _)))
              | (go_split_ands; go_at_call 16; (with_reducible refine (O2 _ (by assumption)).mono ?_); rintro e w' ⟨⟨pB, cB, rfl, hrB⟩, hbk⟩; (try have hrA := hrA.below hbk (Nat.le_refl _)))
              | (go_at_call 19; (with_reducible refine (hM _ _ _ _ _ hrA hrB).mono ?_); rintro e w' ⟨⟨pM, cM, rfl, hrM⟩, hbk⟩))
          all_goals
            rename_i hh
            obtain ⟨_, hz⟩ := hh
            go_wp2_with fail
            go_meet
            exact ⟨_, _, rfl, rfl, hrM, hz⟩
        case rest => as_aux_lemma =>
          obtain ⟨pRM, cRM, rfl, rfl, hRM, hd⟩ := hcut
          obtain ⟨wRM, rfl⟩ : ∃ x : World, x = wc := ⟨_, rfl⟩
          clear cx0 cx1 cx2 O1 O2
          have B19 := B18.tr hd
          have E19 := E18.tr hd
          have D19 := tr D18 hd
          clear B18 E18 D18 hd
          have RM19 := hRM
          clear hRM
          go_upto_if 176 with fail
          go_cut [15] (fun s15 wx => Below wRM.heap.size wRM wx)
          case first => as_aux_lemma =>
            have C19 := Below.refl wRM.heap.size wRM
            by_cases hem : em = 0
            · subst hem
              have hen := HEN.out rfl
              subst hen
              obtain ⟨cx0, cx1, cx2⟩ := id B19
              have O1 := fun w1 (hx : Below wRM.heap.size wRM w1) => own_any pb ys cb w1 (by omega) (hCb.below (tr D19 hx) (Nat.le_refl _))
              have O2 := fun w1 (hx : Below wRM.heap.size wRM w1) => own_any pt ts ct w1 (by omega) (hCt.below (tr D19 hx) (Nat.le_refl _))
              go_upto_region 30 with fail
              go_cut [23, 24] (fun sa sb wx => ∃ p c, sa = .slice p ns.length c ∧ sb = .int .i64 0 ∧ Reads wx p ns ∧ Below wRM.heap.size wRM wx)
              case first => as_aux_lemma =>
                go_region_held3 (fun w' => w'.cell? ⟨w.heap.size, 2, none⟩ = some (.slice pt ts.length ct) ∧ Below wRM.heap.size wRM w')
                  (first | exact ⟨cx2, (Below.refl _ _).drew⟩ | assumption | (go_split_ands; exact ⟨cell_tr hbk (by assumption), tr (by assumption) hbk⟩))
                  (first
                    | (go_split_ands; go_at_call 16; (with_reducible refine (O1 _ (by assumption)).mono ?_); rintro e w' ⟨⟨pA, cA, rfl, hrA⟩, hbk⟩; (try have hrB := hrB.below hbk (Nat.le_refl _)))
                    | (go_split_ands; go_at_call 16; (with_reducible refine (O2 _ (by assumption)).mono ?_); rintro e w' ⟨⟨pB, cB, rfl, hrB⟩, hbk⟩; (try have hrA := hrA.below hbk (Nat.le_refl _)))
                    | (go_at_call 19; (with_reducible refine (hM2 _ _ _ _ _ hrA hrB).mono ?_); rintro e w' ⟨⟨pM, cM, rfl, hrM⟩, hbk⟩))
                all_goals
                  rename_i hh
                  obtain ⟨_, hz⟩ := hh
                  go_wp2_with fail
                  go_meet
                  exact ⟨_, _, rfl, rfl, hrM, hz⟩
              case rest => as_aux_lemma =>
                obtain ⟨pRN, cRN, rfl, rfl, hRN, hd⟩ := hcut
                obtain ⟨wRN, rfl⟩ : ∃ x : World, x = wc := ⟨_, rfl⟩
                clear cx0 cx1 cx2 O1 O2
                have B20 := B19.tr hd
                have E20 := E19.tr hd
                have RM20 := RM19.below hd (Nat.le_refl _)
                have C20 := tr C19 hd
                have D20 := tr D19 hd
                clear B19 E19 RM19 C19 D19 hd
                have RN20 := hRN
                clear hRN
                go_wp2_with fail
                go_call (hA3 _ _ _ _ _ RM20 RN20) as e w21 ⟨rfl, hb⟩
                clear RM20
                clear RN20
                have B21 := B20.tr hb
                have E21 := E20.tr hb
                have C21 := tr C20 hb
                have D21 := tr D20 hb
                clear B20 E20 C20 D20 hb
                have P := below1 w21 (.cells #[.int .i64 h0, .int .i64 h1] 23)
                have B22 := B21.tr P
                have E22 := E21.tr P
                have C22 := tr C21 P
                have D22 := tr D21 P
                have H22 := Fr.new w21 h0 h1 23
                clear B21 E21 C21 D21 P
                by_cases hei : ei = 0
                · subst hei
                  obtain ⟨hk3, hK3⟩ := HK3.out (by first | exact trivial | rfl) (by first | exact trivial | rfl)
                  obtain ⟨cH0, cH1, _, _⟩ := id H22
                  obtain ⟨cE0, cE1, _, _⟩ := id E22
                  go_wp2_with fail
                  go_call (hK3 _) as e w23 ⟨rfl, hb⟩
                  clear cH0 cH1 cE0 cE1
                  have B23 := B22.tr hb
                  have E23 := E22.tr hb
                  have C23 := tr C22 hb
                  have H23 := H22.tr hb
                  have D23 := tr D22 hb
                  clear B22 E22 C22 H22 D22 hb
                  go_wp2_with fail
                  go_meet
                  exact C23
                · have e1 : (ei == 0) = false := by simpa using hei
                  have e2 : (ei != 0) = true := by simpa using hei
                  go_wp2_with fail
                  go_meet
                  exact C22
            · have e1 : (em == 0) = false := by simpa using hem
              have e2 : (em != 0) = true := by simpa using hem
              go_wp2_with fail
              go_meet
              exact C19
          case rest => as_aux_lemma =>
            obtain ⟨wD, rfl⟩ : ∃ x : World, x = wc := ⟨_, rfl⟩
            have B20 := B19.tr hcut
            have E20 := E19.tr hcut
            have D20 := tr D19 hcut
            clear B19 E19 D19 hcut
            clear hM hM2 HEN hA3 HK3
            obtain ⟨cx0, cx1, cx2⟩ := id B20
            have O1 := fun w1 (hx : Below wD.heap.size wD w1) => own_any pa xs ca w1 (by omega) (hCa.below (tr D20 hx) (Nat.le_refl _))
            have O2 := fun w1 (hx : Below wD.heap.size wD w1) => own_any pl zs cl w1 (by omega) (hCl.below (tr D20 hx) (Nat.le_refl _))
            have hlt38 : w.heap.size < wD.heap.size := World.block_lt_of_cell? _ _ cx0
            go_upto_region 38 with fail
            go_cut [29, 8] (fun sa sb wx => ∃ A : Nat, sa = .pointer (some ⟨A, 0, none⟩) ∧ sb = .int .i64 eu ∧ Fr wx A u0 u1 ∧ Below wD.heap.size wD wx)
            case first => as_aux_lemma =>
              go_region_held3 (fun w' => w'.cell? ⟨w.heap.size, 0, none⟩ = some (.slice pl zs.length cl) ∧ Below wD.heap.size wD w')
                (first
                  | exact ⟨cx0, (Below.refl _ _).drew⟩
                  | assumption
                  | (go_split_ands
                     try refine And.intro ?_ ?_
                     all_goals (first | assumption | exact (below1 wD _).drew | exact tr hBp (below1 _ _) | (refine cell_tr hbk ?_; assumption) | (refine tr ?_ hbk; assumption) | (refine cell_tr (below1 _ _) ?_; assumption) | (refine tr ?_ (below1 _ _); assumption) | (refine cell_set2 ?_ ?_; assumption; (first | omega | (simp; omega))) | (refine below_set2 ?_ ?_; assumption; assumption))))
                (first
                  | (go_split_ands; go_at_call 16; (with_reducible refine (O1 _ (by assumption)).mono ?_); rintro e w' ⟨⟨pA, cA, rfl, hrA⟩, hbk⟩; (first | (have hrB := hrB.below hbk (Nat.le_refl _)) | (have hrB := hrB.below (tr (below1 _ _) hbk) (Nat.le_refl _)) | skip); have hBp := tr (A := wD) (by assumption) hbk; have pa0 := cell_tr (a := ⟨w.heap.size, 0, none⟩) (v := .slice pl zs.length cl) hbk (by assumption); (first | (have hn := new_after_d hbk; obtain ⟨n0, n1, n2, n3, n4⟩ := hn) | (have hn := new_after (v := wD) (by assumption) hbk; obtain ⟨n0, n1, n2, n3, n4⟩ := hn) | (have hm := new_again n1 n2 n3 n4 hbk; obtain ⟨n1, n2, n3, n4⟩ := hm) | skip))
                  | (go_split_ands; go_at_call 16; (with_reducible refine (O2 _ (by assumption)).mono ?_); rintro e w' ⟨⟨pB, cB, rfl, hrB⟩, hbk⟩; (first | (have hrA := hrA.below hbk (Nat.le_refl _)) | (have hrA := hrA.below (tr (below1 _ _) hbk) (Nat.le_refl _)) | skip); have hBp := tr (A := wD) (by assumption) hbk; have pa0 := cell_tr (a := ⟨w.heap.size, 0, none⟩) (v := .slice pl zs.length cl) hbk (by assumption); (first | (have hn := new_after_d hbk; obtain ⟨n0, n1, n2, n3, n4⟩ := hn) | (have hn := new_after (v := wD) (by assumption) hbk; obtain ⟨n0, n1, n2, n3, n4⟩ := hn) | (have hm := new_again n1 n2 n3 n4 hbk; obtain ⟨n1, n2, n3, n4⟩ := hm) | skip))
                  | (go_split_ands; go_at_call 21; (first | (with_reducible refine (hU _ _ _ _ _ hrA hrB).mono ?_) | (with_reducible refine (hU _ _ _ _ _ (hrA.below (below1 _ _) (Nat.le_refl _)) (hrB.below (below1 _ _) (Nat.le_refl _))).mono ?_)); rintro e w' ⟨rfl, hbk⟩; have hBp := tr (A := wD) (by assumption) hbk; have pa0 := cell_tr (a := ⟨w.heap.size, 0, none⟩) (v := .slice pl zs.length cl) hbk (by assumption); (first | (have hn := new_after_d hbk; obtain ⟨n0, n1, n2, n3, n4⟩ := hn) | (have hn := new_after (v := wD) (by assumption) hbk; obtain ⟨n0, n1, n2, n3, n4⟩ := hn) | (have hm := new_again n1 n2 n3 n4 hbk; obtain ⟨n1, n2, n3, n4⟩ := hm) | skip)))
              all_goals
                go_wp2_with fail
                go_meet
                first | exact ⟨_, rfl, rfl, Fr.new _ _ _ _, tr hBp (below1 _ _)⟩ | exact ⟨_, rfl, rfl, Fr.set ⟨n1, n2, n3, n4⟩ _ _, below_set2 hBp n0⟩
            case rest => as_aux_lemma =>
              obtain ⟨A, rfl, rfl, FU, hd⟩ := hcut
              obtain ⟨wE, rfl⟩ : ∃ x : World, x = wc := ⟨_, rfl⟩
              clear cx0 cx1 cx2 O1 O2
              have B21 := B20.tr hd
              have E21 := E20.tr hd
              have D21 := tr D20 hd
              clear B20 E20 D20 hd
              have U21 := FU
              clear FU
              obtain ⟨cx0, cx1, cx2⟩ := id B21
              go_wp2_with fail
              go_call (own_any pl zs cl _ (by omega) (hCl.below D21 (Nat.le_refl _))) as e w22 ⟨⟨ppRz, ccRz, rfl, Rz22⟩, hb⟩
              clear cx0 cx1 cx2
              have B22 := B21.tr hb
              have E22 := E21.tr hb
              have U22 := U21.tr hb
              have D22 := tr D21 hb
              clear B21 E21 U21 D21 hb
              go_wp2_with fail
              go_call (own_any pb ys cb _ (by omega) (hCb.below D22 (Nat.le_refl _))) as e w23 ⟨⟨ppRb, ccRb, rfl, Rb23⟩, hb⟩
              have B23 := B22.tr hb
              have E23 := E22.tr hb
              have U23 := U22.tr hb
              have Rz23 := Rz22.below hb (Nat.le_refl _)
              have D23 := tr D22 hb
              clear B22 E22 U22 Rz22 D22 hb
              go_wp2_with fail
              go_call (hV _ _ _ _ _ Rz23 Rb23) as e w24 ⟨rfl, hb⟩
              clear Rz23
              clear Rb23
              have B24 := B23.tr hb
              have E24 := E23.tr hb
              have U24 := U23.tr hb
              have D24 := tr D23 hb
              clear B23 E23 U23 D23 hb
              have P := below1 w24 (.cells #[.int .i64 v0, .int .i64 v1] 23)
              have B25 := B24.tr P
              have E25 := E24.tr P
              have U25 := U24.tr P
              have D25 := tr D24 P
              have V25 := Fr.new w24 v0 v1 23
              clear B24 E24 U24 D24 P
              by_cases heu : eu = 0
              · subst heu
                by_cases hev : ev = 0
                · subst hev
                  have hE2 := HE2.out (by first | exact trivial | rfl) (by first | exact trivial | rfl)
                  obtain ⟨cU0, cU1, _, _⟩ := id U25
                  obtain ⟨cV0, cV1, _, _⟩ := id V25
                  go_wp2_with fail
                  go_call (hE2 _) as e w26 ⟨rfl, hb⟩
                  clear cU0 cU1 cV0 cV1
                  have B26 := B25.tr hb
                  have E26 := E25.tr hb
                  have U26 := U25.tr hb
                  have V26 := V25.tr hb
                  have D26 := tr D25 hb
                  clear B25 E25 U25 V25 D25 hb
                  have P := below1 w26 (.cells #[.int .i64 r0, .int .i64 r1] 23)
                  have B27 := B26.tr P
                  have E27 := E26.tr P
                  have U27 := U26.tr P
                  have V27 := V26.tr P
                  have D27 := tr D26 P
                  have R27 := Fr.new w26 r0 r1 23
                  clear B26 E26 U26 V26 D26 P
                  by_cases her : er = 0
                  · subst her
                    obtain ⟨hk4, hK4⟩ := HK4.out (by first | exact trivial | rfl) (by first | exact trivial | rfl) (by first | exact trivial | rfl)
                    obtain ⟨cE0, cE1, _, _⟩ := id E27
                    obtain ⟨cR0, cR1, _, _⟩ := id R27
                    go_wp2_with fail
                    go_call (hK4 _) as e w28 ⟨rfl, hb⟩
                    clear cE0 cE1 cR0 cR1
                    have B28 := B27.tr hb
                    have E28 := E27.tr hb
                    have U28 := U27.tr hb
                    have V28 := V27.tr hb
                    have R28 := R27.tr hb
                    have D28 := tr D27 hb
                    clear B27 E27 U27 V27 R27 D27 hb
                    go_wp2_with fail
                    go_call (known_any _) as e w29 ⟨rfl, hb⟩
                    have B29 := B28.tr hb
                    have E29 := E28.tr hb
                    have U29 := U28.tr hb
                    have V29 := V28.tr hb
                    have R29 := R28.tr hb
                    have D29 := tr D28 hb
                    clear B28 E28 U28 V28 R28 D28 hb
                    go_wp2
                    go_ret
                    exact ⟨rfl, D29⟩
                  · have e1 : (er == 0) = false := by simpa using her
                    have e2 : (er != 0) = true := by simpa using her
                    go_wp2_with fail
                    go_call (known_any _) as e w28 ⟨rfl, hb⟩
                    have B28 := B27.tr hb
                    have E28 := E27.tr hb
                    have U28 := U27.tr hb
                    have V28 := V27.tr hb
                    have R28 := R27.tr hb
                    have D28 := tr D27 hb
                    clear B27 E27 U27 V27 R27 D27 hb
                    go_wp2
                    go_ret
                    exact ⟨rfl, D28⟩
                · have e1 : (ev == 0) = false := by simpa using hev
                  have e2 : (ev != 0) = true := by simpa using hev
                  go_wp2_with fail
                  go_call (known_any _) as e w26 ⟨rfl, hb⟩
                  have B26 := B25.tr hb
                  have E26 := E25.tr hb
                  have U26 := U25.tr hb
                  have V26 := V25.tr hb
                  have D26 := tr D25 hb
                  clear B25 E25 U25 V25 D25 hb
                  go_wp2
                  go_ret
                  exact ⟨rfl, D26⟩
              · have e1 : (eu == 0) = false := by simpa using heu
                have e2 : (eu != 0) = true := by simpa using heu
                go_wp2_with fail
                go_call (known_any _) as e w26 ⟨rfl, hb⟩
                have B26 := B25.tr hb
                have E26 := E25.tr hb
                have U26 := U25.tr hb
                have V26 := V25.tr hb
                have D26 := tr D25 hb
                clear B25 E25 U25 V25 D25 hb
                go_wp2
                go_ret
                exact ⟨rfl, D26⟩
end Go.Proofs.Ytnpnnfbmnlgioaa
