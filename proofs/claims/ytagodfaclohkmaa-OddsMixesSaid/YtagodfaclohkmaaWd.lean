/-
  What Mix of the reference returns where nothing is refused ahead of the sums.
-/
import Derived.Test.YtagodfaclohkmaaWc
import Derived.Laws.AppendOwn
import Derived.OwnWalk
namespace Go.Proofs.Ytagodfaclohkmaa
open Go.RowKit
set_option linter.unusedVariables false

theorem row_drew {w : World} {B g n : Nat} {xs : List Int} (h : Row w B g n xs) : Row w.drew B g n xs := ⟨h.1, h.2.drew⟩
theorem reads_set {w : World} {q o g m : Nat} {v : Value} {xs : List Int} (hne : q ≠ g) (h : Reads w (some ⟨q, o, none⟩) xs) : Reads (w.setCell ⟨g, m, none⟩ v).drew (some ⟨q, o, none⟩) xs := fun k hk => by
  obtain ⟨q1, o1, e, hc⟩ := h k hk
  cases e
  refine ⟨q, o, rfl, ?_⟩
  show (w.setCell ⟨g, m, none⟩ v).cell? _ = _
  rw [World.cell?_of_block (Below.heap_setCell _ _ _ _ (by show q ≠ g; exact hne))]
  exact hc

set_option maxRecDepth 100000 in
set_option maxHeartbeats 2000000 in
theorem refLowest_new (p : Option Addr) (xs : List Int) (c : Nat) (w : World) (hl : xs.length ≤ 4096) (hs : Small xs) (hg1 : 1 ≤ gcdl xs) (hR : Reads w p xs) :
    Calls Try.prog 28 #[.slice p xs.length c] w fun e w' => (∃ p' c', e = .returned (.slice p' (low xs).length c') ∧ Reads w' p' (low xs) ∧ ∀ q o, p' = some ⟨q, o, none⟩ → w.heap.size ≤ q) ∧ Below w.heap.size w w' := by
  obtain ⟨i0, hi, hz0, hz1, hz2⟩ := info_parts info_int
  obtain ⟨d, hd⟩ : ∃ d, gcdl xs = d := ⟨_, rfl⟩
  have Hlow : Hid (low xs = xs.map (· / d)) := by show _ = _; unfold low; rw [hd]
  rw [hd] at hg1
  have Hd := Lib.hid hd
  clear hd
  go_enter Try.func28, Try.ntmps28
  go_wp2
  go_loopw [3, 4] (fun g i wr => ∃ k : Nat, k ≤ xs.length ∧ i = .int .i64 k ∧ g = .int .i64 (gcdTo xs k) ∧ 0 ≤ gcdTo xs k ∧ gcdTo xs k ≤ 1000000000000000 ∧ Below w.heap.size w wr) (fun _ i _ => xs.length - (intOf i).toNat)
  case atStart => exact ⟨0, Nat.zero_le _, rfl, by rw [gcdTo_zero], by rw [gcdTo_zero]; omega, by rw [gcdTo_zero]; omega, Below.refl _ _⟩
  case round =>
    obtain ⟨k, hk, rfl, rfl, hg0, hg2, hb⟩ := hrel
    by_cases hlt : k < xs.length
    · obtain ⟨q, o, rfl, hcell⟩ := hR.below hb (Nat.le_refl _) k hlt
      have hki : (k : Int) < (xs.length : Int) := by omega
      obtain ⟨x1, x2⟩ := hs k hlt
      have Hs := Lib.hid (gcdTo_succ hlt)
      have hle : (Int.gcd (gcdTo xs k) (nth xs k) : Int) ≤ 1000000000000000 := by
        by_cases h : gcdTo xs k = 0
        · rw [h, Int.gcd_zero_left]; omega
        · have := Int.le_of_dvd (by omega) (Int.gcd_dvd_left (gcdTo xs k) (nth xs k)); omega
      have Hle := Lib.hid hle
      clear hle
      go_wp2_with fail
      go_call (refDivisor_any (gcdTo xs k) (nth xs k) wr hg0 x1 (by omega) (by omega)) as e w1 ⟨rfl, hb1⟩
      go_wp2
      go_roundw
      case rel => exact ⟨k + 1, by omega, by go_num, by rw [Hs.out], by rw [Hs.out]; omega, by rw [Hs.out]; exact Hle.out, hb.trans (hb1.mono hb.size)⟩
      case measure => simp [intOf]; omega
    · obtain rfl : k = xs.length := by omega
      have hgd : gcdTo xs xs.length = d := by rw [gcdTo_all, Hd.out]
      rw [hgd]
      clear hgd hg0 hg2
      have hO := empty_owns wr
      have hB1 : Below w.heap.size w (wr.alloc (.cells #[] 3)) := hb.alloc hb.size _
      have hbs := hb.size
      have hz : ¬ d = 0 := by omega
      obtain ⟨wq, rfl⟩ : ∃ wq : World, wq = wr := ⟨_, rfl⟩
      go_wp2
      go_loopw [5, 6] (fun v i wr => ∃ k : Nat, k ≤ xs.length ∧ i = .int .i64 k ∧ wr.ownsRow wq.heap.size 3 1 v k ((upto (fun j => nth xs j / d) k).map (Value.int .i64)) ∧ Below w.heap.size w wr ∧ wq.heap.size ≤ wr.heap.size) (fun _ i _ => xs.length - (intOf i).toNat)
      case atStart => exact ⟨0, Nat.zero_le _, rfl, hO, hB1, by simp⟩
      case round =>
        obtain ⟨k, hk, rfl, hown, hbr, hsz⟩ := hrel
        by_cases hlt2 : k < xs.length
        · obtain ⟨q, o, rfl, hcell⟩ := hR.below hbr (Nat.le_refl _) k hlt2
          have hki : (k : Int) < (xs.length : Int) := by omega
          obtain ⟨x1, x2⟩ := hs k hlt2
          have e1 : IntKind.i64.wrap ((nth xs k).tdiv d) = nth xs k / d := wdiv x1 (by omega) hg1
          have E1 := Lib.hid e1
          go_wp2_with (at_builtin; refine wpList_append_own _ rfl _ _ 22 rfl wq.heap.size 3 i0 (.int .i64 0) 1 8 Try.underlying22 hi hz0 hz1 hz2 rfl (by decide) _ _ _ rfl (hown.alloc _) ⟨wr.heap.size, 0, none⟩ 1 1 [.int .i64 (nth xs k / d)] rfl rfl ?c1 ?c2 ?c3 ?c4 ?c5 ?_)
          case c1 =>
            intro j u hj
            rcases j with _ | j
            · have hu : u = .int .i64 (nth xs k / d) := by simpa using hj.symm
              subst hu
              rw [Go.WideShapes.add_plain, World.cell?_alloc_at _ _ _ _ rfl]
              simp
            · simp at hj
          case c2 =>
            intro u hu
            have hu : u = .int .i64 (nth xs k / d) := by simpa using hu
            subst hu
            rfl
          case c3 => unfold maxLen; omega
          case c4 => omega
          case c5 => simp; omega
          intro v' w1 hown' hgrow _
          go_wp2
          go_roundw
          case rel =>
            refine ⟨k + 1, by omega, by go_num, ?_, ?_, ?_⟩
            · rw [upto_succ, List.map_append]; exact hown'
            · exact (hbr.alloc hbr.size _).grown hgrow (by simp; omega) (fun k e => by
                have h9 := (hown.lt k e)
                omega)
            · have := hgrow.size
              simp at this
              omega
          case measure => simp [intOf]; omega
        · obtain rfl : k = xs.length := by omega
          have hG : Got wr _ _ := Got.of_owns hown
          obtain ⟨p', c', rfl, hr⟩ := hG
          have hfr : ∀ q o, p' = some ⟨q, o, none⟩ → w.heap.size ≤ q := fun q o e => by
            have := (hown.lt q (by rw [e]; rfl)).1
            omega
          rw [upto_all (· / d) xs] at hr
          go_wp2
          go_ret
          refine ⟨⟨p', c', ?_, ?_, hfr⟩, hbr⟩
          · rw [Hlow.out, upto_all (· / d) xs]; rfl
          · rw [Hlow.out]; exact hr

set_option maxRecDepth 100000 in
set_option maxHeartbeats 16000000 in
theorem refMix_main (p : Option Addr) (cs : List Int) (c : Nat) (q o : Nat) (ls : List (List Int)) (cl : Nat) (w : World) (n N0 : Nat) (hn : cs.length = n) (hls : ls.length = n) (hpos : 1 ≤ n) (hn2 : n ≤ 4096) (hN0 : N0 ≤ 4096) (hR : Reads w p cs) (hL : ReadsL w (some ⟨q, o, none⟩) ls) (h0 : chk1 cs = 0) (hvv : ∀ j, j < n → chk1 (nthL ls j) = 0) (hlen : ∀ j, j < n → (nthL ls j).length = N0)
    (C : List Int) (hC : C = low cs) (L : Int) (hLd : L = lcmTo C ls n) (R : List Int) (E : Int)
    (hok : L ≤ 1000000000000000 → lsum C * L ≤ 1000000000000000 → R = low (mixL C ls N0) ∧ E = 0) (hover : ∀ k, k ≤ n → ¬ lcmTo C ls k ≤ 1000000000000000 → R = [] ∧ E = 10) (hover2 : 1000000000000000 < lsum C * L → R = [] ∧ E = 10) :
    Calls Try.prog 52 #[.slice p n c, .slice (some ⟨q, o, none⟩) n cl] w fun e w' => (∃ p' c', e = .returned (.tuple #[.slice p' R.length c', .int .i64 E]) ∧ Reads w' p' R) ∧ Below w.heap.size w w' := by
  obtain ⟨i0, hi, hz0, hz1, hz2⟩ := info_parts info_int
  obtain ⟨a1, a2, a3, a4⟩ := chk1_ok h0
  obtain ⟨l1, l2, l3, l4⟩ := low_facts a2 a3
  rw [← hC] at l2 l3 l4
  have hCl : C.length = n := by rw [hC, low_length, hn]
  have hlp : ∀ j, j < n → 1 ≤ lsum (low (nthL ls j)) ∧ lsum (low (nthL ls j)) ≤ 1000000000000000 ∧ Small (low (nthL ls j)) := fun j hj => by
    obtain ⟨x1, x2, x3, x4⟩ := chk1_ok (hvv j hj)
    obtain ⟨y1, y2, y3, y4⟩ := low_facts x2 x3
    exact ⟨y3, by omega, y2⟩
  have HLow : Hid (∀ j, j < n → ∀ r c W, Reads W r (nthL ls j) → Calls Try.prog 28 #[.slice r N0 c] W fun e w' => (∃ p' c', e = .returned (.slice p' N0 c') ∧ Reads w' p' (low (nthL ls j)) ∧ ∀ q o, p' = some ⟨q, o, none⟩ → W.heap.size ≤ q) ∧ Below W.heap.size W w') := fun j hj r c W h => by
    obtain ⟨x1, x2, x3, x4⟩ := chk1_ok (hvv j hj)
    have := refLowest_new r (nthL ls j) c W x1 x2 (low_facts x2 x3).1 h
    rwa [low_length, hlen j hj] at this
  have HTot : Hid (∀ j, j < n → ∀ r c W, Reads W r (low (nthL ls j)) → Calls Try.prog 27 #[.slice r N0 c] W fun e w' => e = .returned (.int .i64 (lsum (low (nthL ls j)))) ∧ Below W.heap.size W w') := fun j hj r c W h => by
    have hll : (low (nthL ls j)).length = N0 := by rw [low_length, hlen j hj]
    have := refTotal_any r (low (nthL ls j)) c W (by omega) (hlp j hj).2.2 h
    rwa [hll] at this
  have HChk : Hid (∀ j, j < n → ∀ r c W, Reads W r (nthL ls j) → Calls Try.prog 23 #[.slice r N0 c] W fun e w' => e = .returned (.int .i64 0) ∧ Below W.heap.size W w') := fun j hj r c W h => by
    have := refCheck_any r (nthL ls j) c W (by rw [hlen j hj]; omega) h
    rwa [hvv j hj, hlen j hj] at this
  have hk := refCheck_any p cs c w (by omega) hR
  rw [h0, hn] at hk
  have hLc := fun W (h : Reads W p cs) => refLowest_any p cs c W (by omega) a2 l1 h
  rw [low_length, ← hC, hn] at hLc
  have hTc := fun r c W (h : Reads W r C) => refTotal_any r C c W (by omega) l2 h
  rw [hCl] at hTc
  have Hlp := Lib.hid hlp
  have Hlen := Lib.hid hlen
  have Hls := Lib.hid hls
  have HCl := Lib.hid hCl
  have HLd := Lib.hid hLd
  have Hov := Lib.hid hover
  have Hok := Lib.hid hok
  have Hov2 := Lib.hid hover2
  have hb' : ((n : Int) != (n : Int)) = false := by simp
  clear h0 hvv hlen hlp hC hLd hover hover2 hok hn hls hCl
  go_enter Try.func52, Try.ntmps52
  go_wp2_with fail
  go_call hk as e w1 ⟨rfl, hB1⟩
  go_wp2
  go_loopw [7] (fun i wr => ∃ k : Nat, k ≤ n ∧ i = .int .i64 k ∧ Below w.heap.size w wr) (fun i _ => n - (intOf i).toNat)
  case atStart => exact ⟨0, Nat.zero_le _, rfl, hB1⟩
  case round =>
    obtain ⟨k, hk', rfl, hb⟩ := hrel
    by_cases hlt : k < n
    · obtain ⟨q1, o1, hqq, r1, c1, hc1, hr1⟩ := hL.below hb (Nat.le_refl _) k (by rw [Hls.out]; exact hlt)
      cases hqq
      rw [Hlen.out k hlt] at hc1
      have hki : (k : Int) < (n : Int) := by omega
      have hck := HChk.out k hlt r1 c1 wr hr1
      go_wp2_with fail
      go_call hck as e w2 ⟨rfl, hb2⟩
      go_wp2
      go_roundw
      case rel => exact ⟨k + 1, by omega, by go_num, tr hb hb2⟩
      case measure => simp [intOf]; omega
    · have hkl : k = n := by omega
      rw [hkl]
      clear hkl hlt hk' hB1 HChk
      obtain ⟨wq, hwq⟩ : ∃ W : World, W = wr := ⟨_, rfl⟩
      subst hwq
      have hLq := hL.below hb (Nat.le_refl _)
      go_wp2
      go_loopw [9] (fun i wr => ∃ k : Nat, 1 ≤ k ∧ k ≤ n ∧ i = .int .i64 k ∧ Below wq.heap.size wq wr) (fun i _ => n - (intOf i).toNat)
      case atStart => exact ⟨1, Nat.le_refl _, hpos, rfl, Below.refl _ _⟩
      case round =>
        obtain ⟨k, hk1, hk2, rfl, hb2⟩ := hrel
        by_cases hlt : k < n
        · obtain ⟨q1, o1, hqq, r1, c1, hc1, _⟩ := hLq.below hb2 (Nat.le_refl _) k (by rw [Hls.out]; exact hlt)
          cases hqq
          obtain ⟨q2, o2, hqq, r2, c2, hc2, _⟩ := hLq.below hb2 (Nat.le_refl _) 0 (by rw [Hls.out]; omega)
          cases hqq
          rw [Nat.add_zero, Hlen.out 0 (by omega)] at hc2
          rw [Hlen.out k hlt] at hc1
          have hki : (k : Int) < (n : Int) := by omega
          have hk0 : (0 : Int) < (n : Int) := by omega
          have hne : ((N0 : Int) != (N0 : Int)) = false := by simp
          go_wp2
          go_quiet (fail)
          go_wp2
          go_roundw
          case rel => exact ⟨k + 1, by omega, by omega, by go_num, below_drewN hb2 _⟩
          case measure => simp [intOf]; omega
        · have hkl : k = n := by omega
          rw [hkl]
          have hB2 := tr hb hb2
          have hLq2 := hLq.below hb2 (Nat.le_refl _)
          clear hkl hlt hk1 hk2 hb hb2 hLq
          obtain ⟨w2, hw2⟩ : ∃ W : World, W = wr := ⟨_, rfl⟩
          subst hw2
          go_wp2_with fail
          go_call (hLc w2 (hR.below hB2 (Nat.le_refl _))) as e w3 ⟨⟨pc, cc, rfl, hRC⟩, hb3⟩
          have hB3 := tr hB2 hb3
          have hLq3 := hLq2.below hb3 (Nat.le_refl _)
          clear hB2 hb3 hLq2 hLc
          go_wp2
          go_loopw [11, 12] (fun a i wr => ∃ k : Nat, k ≤ n ∧ i = .int .i64 k ∧ a = .int .i64 (lcmTo C ls k) ∧ Hid (1 ≤ lcmTo C ls k ∧ lcmTo C ls k ≤ 1000000000000000) ∧ Below w3.heap.size w3 wr) (fun _ i _ => n - (intOf i).toNat)
          case atStart => exact ⟨0, Nat.zero_le _, rfl, rfl, ⟨by simp [lcmTo], by simp [lcmTo]⟩, Below.refl _ _⟩
          case round =>
            obtain ⟨k, hk, rfl, rfl, Hbd, hb4⟩ := hrel
            by_cases hlt : k < n
            · obtain ⟨q3, o3, hpe, hcc⟩ := hRC.below hb4 (Nat.le_refl _) k (by rw [HCl.out]; exact hlt)
              subst hpe
              have hki : (k : Int) < (n : Int) := by omega
              have hnn := l2.pos k
              by_cases hz : nth C k = 0
              · have hzb : (nth C k == 0) = true := by simp [hz]
                have hs : Hid (lcmTo C ls (k + 1) = lcmTo C ls k) := by show _ = _; simp only [lcmTo]; rw [if_neg (by omega)]
                rw [hz] at hcc
                clear hz hzb
                go_wp2
                go_roundw
                case rel => exact ⟨k + 1, by omega, by go_num, by rw [hs.out], by rw [hs.out]; exact Hbd, hb4⟩
                case measure => simp [intOf]; omega
              · have hzb : (nth C k == 0) = false := by simpa using hz
                obtain ⟨q1, o1, hqq, r1, c1, hc1, hr1⟩ := hLq3.below hb4 (Nat.le_refl _) k (by rw [Hls.out]; exact hlt)
                cases hqq
                rw [Hlen.out k hlt] at hc1
                obtain ⟨t1, t2, _⟩ := Hlp.out k hlt
                have hlow := HLow.out k hlt r1 c1 wr hr1
                have htot := HTot.out k hlt
                have hs : Hid (lcmTo C ls (k + 1) = lcmI (lcmTo C ls k) (lsum (low (nthL ls k)))) := by show _ = _; simp only [lcmTo]; rw [if_pos (by omega)]
                have hov := Hov.out (k + 1) (by omega)
                rw [hs.out] at hov
                obtain ⟨b1, b2⟩ := Hbd.out
                obtain ⟨a, ha⟩ : ∃ a, lcmTo C ls k = a := ⟨_, rfl⟩
                obtain ⟨t, ht⟩ : ∃ t, lsum (low (nthL ls k)) = t := ⟨_, rfl⟩
                have Hs : Hid (lcmTo C ls (k + 1) = lcmI a t) := by show _ = _; rw [hs.out, ha, ht]
                rw [ht] at t1 t2 htot
                rw [ha] at b1 b2
                rw [ha, ht] at hov
                rw [ha]
                clear ha ht hs Hbd hz
                obtain ⟨g, hg⟩ : ∃ g : Int, (Int.gcd a t : Int) = g := ⟨_, rfl⟩
                have g1 : 1 ≤ g := by rw [← hg]; exact gcd_pos t1
                have hl := lcmI_eq' b1 t1
                have hdv := refDivisor_any a t
                rw [hg] at hl hdv
                have hl0 := lcmI_pos b1 t1
                obtain ⟨M, hM⟩ : ∃ M, lcmI a t = M := ⟨_, rfl⟩
                have HM := Lib.hid hM
                rw [hM] at hl hov hl0
                have hq0 : 0 ≤ a / g := Int.ediv_nonneg (by omega) (by omega)
                have hq1 : a / g ≤ a := Int.ediv_le_self _ (by omega)
                have hgz : ¬ g = 0 := by omega
                have e1 : IntKind.i64.wrap (a.tdiv g) = a / g := wdiv (by omega) (by omega) g1
                obtain ⟨Q, hQ⟩ : ∃ Q, a / g = Q := ⟨_, rfl⟩
                rw [hQ] at e1 hl hq0 hq1
                have Hl := Lib.hid hl
                clear hg hM hQ
                go_wp2_with fail
                go_call hlow as e w4 ⟨⟨pl, cl2, rfl, rl, _⟩, hb5⟩
                go_wp2_with fail
                go_call (htot pl cl2 w4 rl) as e w5 ⟨rfl, hb6⟩
                go_wp2_with fail
                go_call (hdv w5 (by omega) (by omega) (by omega) (by omega)) as e w6 ⟨rfl, hb7⟩
                go_wp2_with fail
                go_call (refOver_any Q t w6 (by omega) (by omega)) as e w7 ⟨rfl, hb8⟩
                rw [Hl.out]
                have hb9 := tr hb4 (tr hb5 (tr hb6 (tr hb7 hb8)))
                clear hb4 hb5 hb6 hb7 hb8 rl
                by_cases hMo : 1000000000000000 < M
                · obtain ⟨rfl, rfl⟩ := hov (by omega)
                  have hd : decide (1000000000000000 < M) = true := by simp [hMo]
                  go_wp2
                  go_ret2
                  exact ⟨⟨none, 0, rfl, Reads.nil _ _⟩, tr hB3 hb9⟩
                · have hd : decide (1000000000000000 < M) = false := by simp; omega
                  have e2 : IntKind.i64.wrap (Q * t) = M := by rw [Hl.out]; exact IntWalk.i64_in _ (by omega)
                  go_wp2
                  go_roundw
                  case rel => exact ⟨k + 1, by omega, by go_num, by rw [Hs.out, HM.out], by rw [Hs.out, HM.out]; exact ⟨by omega, by omega⟩, hb9⟩
                  case measure => simp [intOf]; omega
            · have hkl : k = n := by omega
              rw [hkl]
              rw [hkl] at Hbd
              have hB4 := tr hB3 hb4
              have hLq4 := hLq3.below hb4 (Nat.le_refl _)
              have hRC4 := hRC.below hb4 (Nat.le_refl _)
              rw [← HLd.out]
              obtain ⟨b1, b2⟩ := Hbd.out
              rw [← HLd.out] at b1 b2
              have hsC0 : 0 ≤ lsum C := by omega
              have hsC2 : lsum C ≤ 1000000000000000 := by omega
              obtain ⟨S, hS⟩ : ∃ S, lsum C = S := ⟨_, rfl⟩
              have HS := Lib.hid hS
              rw [hS] at hTc hsC0 hsC2
              have hov2 := Hov2.out
              have hok := Hok.out b2
              rw [hS] at hov2 hok
              clear hkl hlt hk hb4 hB3 hLq3 hRC Hbd hS
              obtain ⟨w4, hw4⟩ : ∃ W : World, W = wr := ⟨_, rfl⟩
              subst hw4
              go_wp2_with fail
              go_call (hTc pc cc w4 hRC4) as e w5 ⟨rfl, hb5⟩
              go_wp2_with fail
              go_call (refOver_any S L w5 (by omega) (by omega)) as e w6 ⟨rfl, hb6⟩
              have hb56 := tr hb5 hb6
              have hB6 := tr hB4 hb56
              have hLq6 := hLq4.below hb56 (Nat.le_refl _)
              have hRC6 := hRC4.below hb56 (Nat.le_refl _)
              clear hb5 hb6 hb56 hLq4 hRC4 hB4 hTc
              by_cases hSo : 1000000000000000 < S * L
              · obtain ⟨rfl, rfl⟩ := hov2 hSo
                have hd : decide (1000000000000000 < S * L) = true := by simp [hSo]
                clear hSo
                go_wp2
                go_ret2
                exact ⟨⟨none, 0, rfl, Reads.nil _ _⟩, hB6⟩
              · obtain ⟨rfl, rfl⟩ := hok (by omega)
                have hd : decide (1000000000000000 < S * L) = false := by simp; omega
                have hSL : S * L ≤ 1000000000000000 := by omega
                have hvy : ∀ j, j < n → Small (low (nthL ls j)) ∧ 1 ≤ lsum (low (nthL ls j)) := fun j hj => ⟨(Hlp.out j hj).2.2, (Hlp.out j hj).1⟩
                have hbd : ∀ m, m ≤ n → ∀ k, 0 ≤ mixF C ls L (fun _ => false) m k ∧ mixF C ls L (fun _ => false) m k ≤ 1000000000000000 := fun m hm k => by
                  have h1 := mixF_bd (cs := C) (ls := ls) (L := L) (left := fun _ => false) (m := m) l2.pos (by omega) (fun j hj => hvy j (by omega)) (by rw [HCl.out]; exact hm) k
                  have h2 := Int.mul_le_mul_of_nonneg_right (psum_le l2.pos (show m ≤ C.length by rw [HCl.out]; exact hm)) (show 0 ≤ L by omega)
                  rw [HS.out] at h2
                  omega
                have Hmb := Lib.hid hbd
                have Hdv : Hid (∀ j, j < n → 0 < nth C j → lsum (low (nthL ls j)) ∣ L) := fun j hj hp => by rw [HLd.out]; exact lcmTo_dvd hj hp fun i hi => (Hlp.out i hi).1
                have HSL := Lib.hid hSL
                clear hSo hSL hvy hbd hov2 hok
                obtain ⟨q2, o2, hqq, r2, c2, hc2, _⟩ := hLq6 0 (by rw [Hls.out]; omega)
                cases hqq
                rw [Nat.add_zero, Hlen.out 0 (by omega)] at hc2
                have hk0 : (0 : Int) < (n : Int) := by omega
                go_wp2_with (at_make; refine wpList_make_full _ rfl _ _ 22 rfl w6.heap.size 3 i0 (.int .i64 0) 1 Try.underlying22 hi hz0 hz1 .i64 .i64 _ _ N0 rfl rfl rfl rfl ?c1 ?c2 ?c3 ?_)
                case c1 => rw [hz2]; omega
                case c2 => unfold maxLen; omega
                case c3 => exact Nat.le_refl _
                intro w7 hown hgr
                have hrow := Row.made hown
                have hb7 : Below w6.heap.size w6 w7 := (Below.refl _ _).grown hgr (Nat.le_refl _) (fun k e => by cases e)
                obtain ⟨g, hg⟩ : ∃ g, w6.heap.size = g := ⟨_, rfl⟩
                have Hg := Lib.hid hg
                rw [hg] at hrow ⊢
                rw [← tab_zero] at hrow
                clear hown hgr hg hc2
                go_wp2
                go_loopw [16] (fun i wr => ∃ k : Nat, k ≤ n ∧ i = .int .i64 k ∧ Row wr g g N0 (tab N0 fun j => mixF C ls L (fun _ => false) k j) ∧ Below w6.heap.size w6 wr) (fun i _ => n - (intOf i).toNat)
                case atStart => exact ⟨0, Nat.zero_le _, rfl, hrow, hb7⟩
                case round =>
                  obtain ⟨k, hk, rfl, hrr, hb8⟩ := hrel
                  by_cases hlt : k < n
                  · obtain ⟨q3, o3, hpe, hcc⟩ := hRC6.below hb8 (Nat.le_refl _) k (by rw [HCl.out]; exact hlt)
                    subst hpe
                    have hki : (k : Int) < (n : Int) := by omega
                    have hnn := l2.pos k
                    by_cases hz : nth C k = 0
                    · have hs : Hid (∀ j, mixF C ls L (fun _ => false) (k + 1) j = mixF C ls L (fun _ => false) k j) := fun j => by
                        simp only [mixF]
                        rw [if_neg (by omega), Int.add_zero]
                      rw [hz] at hcc
                      clear hz
                      go_wp2
                      go_roundw
                      case rel => exact ⟨k + 1, by omega, by go_num, by rw [tab_congr (fun j _ => hs.out j)]; exact hrr, hb8⟩
                      case measure => simp [intOf]; omega
                    · have hzb : (nth C k == 0) = false := by simpa using hz
                      obtain ⟨q1, o1, hqq, r1, c1, hc1, hr1⟩ := hLq6.below hb8 (Nat.le_refl _) k (by rw [Hls.out]; exact hlt)
                      cases hqq
                      rw [Hlen.out k hlt] at hc1
                      obtain ⟨t1, t2, t3⟩ := Hlp.out k hlt
                      have hdv := Hdv.out k hlt (by omega)
                      have hlow := HLow.out k hlt r1 c1 wr hr1
                      have htot := HTot.out k hlt
                      have hs : Hid (∀ j, mixF C ls L (fun _ => false) (k + 1) j = mixF C ls L (fun _ => false) k j + nth C k * (L / lsum (low (nthL ls k))) * nth (low (nthL ls k)) j) := fun j => by
                        show mixF C ls L (fun _ => false) k j + (if 0 < nth C k ∧ (fun _ => false) k = false then mixOne C ls L k j else 0) = _
                        rw [if_pos ⟨by omega, rfl⟩]
                        rfl
                      have hlenl : (low (nthL ls k)).length = N0 := by rw [low_length, Hlen.out k hlt]
                      obtain ⟨X, hX⟩ : ∃ X, low (nthL ls k) = X := ⟨_, rfl⟩
                      rw [hX] at t1 t2 t3 hdv hlow htot hs hlenl
                      obtain ⟨t, ht⟩ : ∃ t, lsum X = t := ⟨_, rfl⟩
                      rw [ht] at t1 t2 hdv htot hs
                      have hLt : 1 ≤ L / t := (Int.le_ediv_iff_mul_le (by omega)).2 (by have := Int.le_of_dvd (by omega) hdv; omega)
                      have hLt2 : L / t ≤ L := Int.ediv_le_self _ (by omega)
                      have e3 : IntKind.i64.wrap (L.tdiv t) = L / t := wdiv (by omega) (by omega) t1
                      have htz : ¬ t = 0 := by omega
                      obtain ⟨Q, hQ⟩ : ∃ Q, L / t = Q := ⟨_, rfl⟩
                      rw [hQ] at hLt hLt2 e3 hs
                      have Hlenl := Lib.hid hlenl
                      have hgs := hrr.lt.2
                      have Hgw : Hid (g < wr.heap.size) := hgs
                      clear hX ht hdv hQ hlenl hz
                      go_wp2_with fail
                      go_call hlow as e w8 ⟨⟨pl, cl2, rfl, rl, hfr⟩, hb9⟩
                      go_wp2_with fail
                      go_call (htot pl cl2 w8 rl) as e w9 ⟨rfl, hb10⟩
                      have hb910 := tr hb9 hb10
                      have rl9 := rl.below hb10 (Nat.le_refl _)
                      have hr9 := hrr.kept hb910 hgs
                      have hB9 := tr hb8 hb910
                      clear hb9 hb10 hb910 rl hrr hb8 htot hlow
                      have hRC9 := hRC6.below hB9 (Nat.le_refl _)
                      go_wp2
                      go_loopw [19] (fun i wr => ∃ m : Nat, m ≤ N0 ∧ i = .int .i64 m ∧ Row wr g g N0 (tab N0 fun j => if j < m then mixF C ls L (fun _ => false) (k + 1) j else mixF C ls L (fun _ => false) k j) ∧ Below w6.heap.size w6 wr ∧ Reads wr pl X) (fun i _ => N0 - (intOf i).toNat)
                      case atStart => exact ⟨0, Nat.zero_le _, rfl, by rw [tab_congr (G := fun j => mixF C ls L (fun _ => false) k j) (fun j _ => by rw [if_neg (by omega)])]; exact hr9, hB9, rl9⟩
                      case round =>
                        obtain ⟨m, hm, rfl, hrm, hbm, rlm⟩ := hrel
                        by_cases hmt : m < N0
                        · obtain ⟨q5, o5, hpe, hcx⟩ := rlm m (by rw [Hlenl.out]; exact hmt)
                          subst hpe
                          obtain ⟨q6, o6, hpe, hcC⟩ := hRC6.below hbm (Nat.le_refl _) k (by rw [HCl.out]; exact hlt)
                          cases hpe
                          have hmi : (m : Int) < (N0 : Int) := by omega
                          have hco := hrm.cell hmt
                          have hfo := hrm.frozen m
                          have e0 : nth (tab N0 fun j => if j < m then mixF C ls L (fun _ => false) (k + 1) j else mixF C ls L (fun _ => false) k j) m = mixF C ls L (fun _ => false) k m := by rw [nth_tab _ hmt, if_neg (by omega)]
                          rw [e0] at hco
                          have m1 := Hmb.out k (by omega) m
                          have m2 := Hmb.out (k + 1) (by omega) m
                          have m3 := hs.out m
                          have xm := t3.pos m
                          have pcx : 0 ≤ nth C k * nth X m := Int.mul_nonneg hnn xm
                          have pcm : nth C k * Q * nth X m = nth C k * nth X m * Q := by rw [Int.mul_assoc, Int.mul_comm Q, ← Int.mul_assoc]
                          rw [pcm] at m3
                          have hle1 : nth C k * nth X m ≤ nth C k * nth X m * Q := by
                            have := Int.mul_le_mul_of_nonneg_left hLt pcx
                            rwa [Int.mul_one] at this
                          obtain ⟨F0, hF0⟩ : ∃ F, mixF C ls L (fun _ => false) k m = F := ⟨_, rfl⟩
                          obtain ⟨F1, hF1⟩ : ∃ F, mixF C ls L (fun _ => false) (k + 1) m = F := ⟨_, rfl⟩
                          rw [hF0] at m1 m3 hco
                          rw [hF1] at m2 m3
                          have e1 : IntKind.i64.wrap (nth C k * nth X m) = nth C k * nth X m := IntWalk.i64_in _ (by omega)
                          have e2 : IntKind.i64.wrap (nth C k * nth X m * Q) = nth C k * nth X m * Q := IntWalk.i64_in _ (by omega)
                          have e4 : IntKind.i64.wrap (F0 + nth C k * nth X m * Q) = F1 := by rw [← m3]; exact IntWalk.i64_in _ (by omega)
                          have HF1 := Lib.hid hF1
                          have hqx := World.block_lt_of_cell? wr _ hcx
                          have hneq : q5 ≠ g := fun h => by
                            have h1 := hfr q5 o5 rfl
                            have h2 := Hgw.out
                            omega
                          clear e0 hF0 hF1 m1 m2 m3 pcx pcm hle1 xm
                          go_wp2
                          go_still_tail 19, (by kernel_rfl)
                          clear e1 e2 e4
                          go_wp2
                          go_roundw
                          case rel =>
                            refine ⟨m + 1, by omega, by go_num, ?_, ?_, ?_⟩
                            · have hset := hrm.set m F1
                              rw [tab_set, tab_congr (G := fun j => if j < m + 1 then mixF C ls L (fun _ => false) (k + 1) j else mixF C ls L (fun _ => false) k j) (fun j _ => by
                                by_cases e : j = m
                                · rw [if_pos e, if_pos (by omega), e, HF1.out]
                                · by_cases e2 : j < m
                                  · rw [if_neg e, if_pos e2, if_pos (by omega)]
                                  · rw [if_neg e, if_neg e2, if_neg (by omega)])] at hset
                              exact row_drew hset
                            · exact (hbm.setCell (p := ⟨g, m, none⟩) (by show w6.heap.size ≤ g; rw [Hg.out]; exact Nat.le_refl _) _).drew
                            · exact reads_set hneq rlm
                          case measure => simp [intOf]; omega
                        · have hmN : m = N0 := by omega
                          rw [hmN] at hrm
                          rw [tab_congr (G := fun j => mixF C ls L (fun _ => false) (k + 1) j) (fun j hj => by rw [if_pos hj])] at hrm
                          go_wp2
                          go_roundw
                          case rel => exact ⟨k + 1, by omega, by go_num, hrm, hbm⟩
                          case measure => simp [intOf]; omega
                  · have hkl : k = n := by omega
                    rw [hkl] at hrr
                    rw [hkl]
                    have hCl2 := HCl.out
                    have hmix : (tab N0 fun j => mixF C ls L (fun _ => false) n j) = mixL C ls N0 := by
                      unfold mixL
                      rw [hCl2, ← HLd.out]
                    rw [hmix] at hrr
                    have hml : (mixL C ls N0).length = N0 := tab_length _ _
                    obtain ⟨M1, M2⟩ := mix_facts (cs := C) (ls := ls) (n := N0) l2 l3 (fun j hj => by rw [hCl2] at hj; exact ⟨(Hlp.out j hj).2.2, (Hlp.out j hj).1, Hlen.out j hj⟩) (by rw [hCl2, ← HLd.out, HS.out]; exact HSL.out)
                    have hm1 := low_facts M1 M2
                    have hlw := fun W (h : Reads W (some ⟨g, 0, none⟩) (mixL C ls N0)) => refLowest_any (some ⟨g, 0, none⟩) (mixL C ls N0) N0 W (by rw [hml]; omega) M1 hm1.1 h
                    rw [low_length, hml] at hlw
                    have hBz := tr hB6 hb8
                    have hrd := hrr.reads
                    have Hml : Hid ((low (mixL C ls N0)).length = N0) := by show _ = _; rw [low_length, hml]
                    clear hkl hCl2 hmix hml M1 M2 hm1 hb8
                    go_wp2_with fail
                    go_call (hlw wr hrd) as e wz ⟨⟨pz, cz, rfl, rz⟩, hbz⟩
                    go_wp2
                    go_ret2
                    exact ⟨⟨pz, cz, by rw [Hml.out]; rfl, rz⟩, tr hBz hbz⟩
end Go.Proofs.Ytagodfaclohkmaa
