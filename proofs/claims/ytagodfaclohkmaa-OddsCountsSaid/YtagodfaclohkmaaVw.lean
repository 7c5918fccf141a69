/-
  OddsCounts, the walk for valid lists.
-/
import Derived.Test.YtagodfaclohkmaaZa
import Derived.Test.YtagodfaclohkmaaVo
import Derived.Test.YtagodfaclohkmaaVp
import Derived.Test.YtagodfaclohkmaaVv
import Derived.Deep.QuietTactic
import Derived.BigQuiet
import Derived.WalkKit
import Derived.Below
namespace Go.Proofs.Ytagodfaclohkmaa
open Go.RowKit
set_option linter.unusedVariables false

/-- How often each outcome was picked, by the values below v. -/
def cntL (xs : List Int) (v : Int) : List Int := upto (fun k => cntP xs v k) xs.length
theorem cntL_length (xs : List Int) (v : Int) : (cntL xs v).length = xs.length := upto_length _ _
theorem nth_cntL {xs : List Int} {v : Int} {k : Nat} (h : k < xs.length) : nth (cntL xs v) k = cntP xs v k := by
  unfold cntL upto nth
  simp [h]
theorem cntL_zero {xs : List Int} (h : Pos xs) : cntL xs 0 = List.replicate xs.length 0 := by
  refine list_ext (by simp [cntL_length]) fun k => ?_
  rw [nth_replicate]
  by_cases hk : k < xs.length
  · rw [nth_cntL hk, cntP_zero h, if_pos hk]
  · rw [nth_out (by rw [cntL_length]; exact hk), if_neg hk]
theorem cntL_all {xs : List Int} (h : Pos xs) : cntL xs (lsum xs) = xs := by
  refine list_ext (cntL_length _ _) fun k => ?_
  by_cases hk : k < xs.length
  · rw [nth_cntL hk, cntP_all h hk]
  · rw [nth_out (by rw [cntL_length]; exact hk), nth_out hk]
theorem cntL_step {xs : List Int} (h : Pos xs) {v : Int} {k : Nat} (hk : k < xs.length) (h1 : psum xs k ≤ v) (h2 : v < psum xs (k + 1)) : (cntL xs v).set k (nth (cntL xs v) k + 1) = cntL xs (v + 1) := by
  refine list_ext (by simp [cntL_length]) fun j => ?_
  rw [nth_set (by rw [cntL_length]; exact hk)]
  by_cases hj : j < xs.length
  · rw [nth_cntL hk, nth_cntL hj, nth_cntL hj]
    by_cases e : k = j
    · subst e; rw [if_pos rfl, cntP_same h1 h2]
    · rw [if_neg e, cntP_other h (fun z => e z.symm) h1 h2]
  · rw [if_neg (by omega), nth_out (by rw [cntL_length]; exact hj), nth_out (by rw [cntL_length]; exact hj)]
theorem cntL_bd {xs : List Int} (v : Int) (k : Nat) (hv : 0 ≤ v) : 0 ≤ nth (cntL xs v) k ∧ nth (cntL xs v) k ≤ max 0 v + max 0 (- psum xs k) := by
  by_cases hk : k < xs.length
  · rw [nth_cntL hk]; unfold cntP; omega
  · rw [nth_out (by rw [cntL_length]; exact hk)]; omega
theorem pick_at {xs : List Int} {v k : Int} (h : sPick xs v = (k, 0)) (hl : xs.length ≤ 1000000) (p : Option Addr) (c : Nat) (w : World) (hR : Reads w p xs) :
    Calls Try.prog 30 #[.slice p xs.length c, .int .i64 v] w fun e W' => e = .returned (.tuple #[.int .i64 k, .int .i64 0]) ∧ Below w.heap.size w W' := by
  have := pick_any p xs c v w (by omega) hR
  rwa [h] at this
theorem of_at {xs os : List Int} {s : Int × Int × Int} (h : sOf xs os = s) (hl : xs.length ≤ 1000000) (hlo : os.length ≤ 1000000) (p : Option Addr) (c : Nat) (po : Option Addr) (co : Nat) (w : World) (hR : Reads w p xs) (hRo : Reads w po os) :
    Calls Try.prog 21 #[.slice p xs.length c, .slice po os.length co] w fun e w' => e = .returned (.tuple #[.agg #[.int .i64 s.1, .int .i64 s.2.1], .int .i64 s.2.2]) ∧ Below w.heap.size w w' := by
  have := of_any p xs c po os co w (by omega) (by omega) hR hRo
  rwa [h] at this
theorem given_at {xs os : List Int} {s : List Int × Int} (h : sGiven xs os = s) (hl : xs.length ≤ 1000000) (hlo : os.length ≤ 1000000) (p : Option Addr) (c : Nat) (po : Option Addr) (co : Nat) (w : World) (hR : Reads w p xs) (hRo : Reads w po os) :
    Calls Try.prog 22 #[.slice p xs.length c, .slice po os.length co] w fun e w' => (∃ p' c', e = .returned (.tuple #[.slice p' s.1.length c', .int .i64 s.2]) ∧ Reads w' p' s.1) ∧ Below w.heap.size w w' := by
  have := oGiven_any p xs c po os co w (by omega) (by omega) hR hRo
  rwa [h] at this
theorem cell_set1 {w : World} {a : Addr} {v : Value} {b j : Nat} {x : Value} (h : w.cell? a = some v) (hne : a.block ≠ b) : (w.setCell ⟨b, j, none⟩ x).cell? a = some v := by
  rw [World.cell?_of_block (Below.heap_setCell _ _ _ _ (by show a.block ≠ b; exact hne))]
  exact h
/-- How many of the first k outcomes are others. -/
def mm (a k : Nat) : Nat := if k ≤ a then k else k - 1
theorem mm_same {a k : Nat} (h : k = a) : mm a (k + 1) = mm a k := by unfold mm; rw [if_neg (by omega), if_pos (by omega)]; omega
theorem mm_other {a k : Nat} (h : k ≠ a) : mm a (k + 1) = mm a k + 1 := by unfold mm; split <;> split <;> omega
theorem mm_all {a n : Nat} (h : a < n) : mm a n = n - 1 := by unfold mm; rw [if_neg (by omega)]
theorem oth_snoc {a k : Nat} (h : k ≠ a) : oth a (mm a k + 1) = oth a (mm a k) ++ [(k : Int)] := by
  unfold oth
  rw [upto_succ]
  have : ix a (mm a k) = k := by unfold ix mm; split <;> split <;> omega
  rw [this]
theorem reads_cells1 {w : World} {g : Nat} {x : Int} (h : w.cell? ⟨g, 0, none⟩ = some (.int .i64 x)) : Reads w (some ⟨g, 0, none⟩) [x] := fun k hk => by
  have h0 : k = 0 := by simpa using hk
  subst h0
  exact ⟨g, 0, rfl, h⟩
theorem reads_cells2 {w : World} {g : Nat} {x y : Int} (h : w.cell? ⟨g, 0, none⟩ = some (.int .i64 x)) (h1 : w.cell? ⟨g, 1, none⟩ = some (.int .i64 y)) : Reads w (some ⟨g, 0, none⟩) [x, y] := fun k hk => by
  rcases k with _ | _ | k
  · exact ⟨g, 0, rfl, h⟩
  · exact ⟨g, 0, rfl, h1⟩
  · simp at hk; omega

set_option maxRecDepth 100000 in
set_option maxHeartbeats 16000000 in
theorem oddsCounts_main (p : Option Addr) (xs : List Int) (c : Nat) (x y : Int) (w : World) (hx : 0 ≤ x) (hx2 : x ≤ 255) (hy : 0 ≤ y) (hy2 : y ≤ 255) (hl : xs.length ≤ 40) (h0 : chk1 xs = 0) (hbig : Hid (∀ k, k < xs.length → nth xs k ≤ 200)) (hC : Came w p xs c) (n a b : Nat) (hn : lsum xs = (n : Int)) (hn2 : n ≤ 8000) (hl1 : 1 ≤ xs.length)
    (ha : Hid (x % (xs.length : Int) = (a : Int))) (hb : Hid (y % (xs.length : Int) = (b : Int))) (ha2 : a < xs.length) (hb2 : b < xs.length)
    (A N : Nat) (hof : sOf xs [(a : Int)] = ((A : Int), (N : Int), 0)) (hoth : sOf xs (oth a (xs.length - 1)) = (((N - A : Nat) : Int), (N : Int), 0))
    (os : List Int) (hos : os = if a = b then [(a : Int)] else [((min a b : Nat) : Int), ((max a b : Nat) : Int)]) (hD : (sGiven xs os = ([], 7) ∧ nth xs a = 0 ∧ nth xs b = 0) ∨ ∃ (G : List Int) (pn pd qn qd : Nat), sGiven xs os = (G, 0) ∧ G.length = xs.length ∧ Small G ∧ sOf xs os = ((pn : Int), (pd : Int), 0) ∧ sOf G [(a : Int)] = ((qn : Int), (qd : Int), 0) ∧
      ∀ w, Calls Try.prog 34 #[.agg #[.int .i64 (pn : Int), .int .i64 (pd : Int)], .agg #[.int .i64 (qn : Int), .int .i64 (qd : Int)]] w fun e w' => e = .returned (.tuple #[.agg #[.int .i64 (A : Int), .int .i64 (N : Int)], .int .i64 0]) ∧ Below w.heap.size w w')
    (hei : ∀ w, Calls Try.prog 36 #[.agg #[.int .i64 (A : Int), .int .i64 (N : Int)], .agg #[.int .i64 ((N - A : Nat) : Int), .int .i64 (N : Int)]] w fun e w' => e = .returned (.tuple #[.agg #[.int .i64 1, .int .i64 1], .int .i64 0]) ∧ Below w.heap.size w w') :
    Calls Try.prog 10 #[.slice p xs.length c, .agg #[.int .u8 x, .int .u8 y]] w fun e w' => e = .returned (.bool true) ∧ Below w.heap.size w w' := by
  obtain ⟨i0, hi, hz0, hz1, hz2⟩ := info_parts info_int
  obtain ⟨a1, a2, a3, a4⟩ := chk1_ok h0
  have HP := Lib.hid a2.pos
  have Hps := Lib.hid (fun (v : Nat) (hv : v < n) => pick_some h0 (v := (v : Int)) (by omega) (by omega))
  have htot := fun p c w (h : Reads w p xs) => oTotal_any p xs c w (by omega) h
  have et : sTotal xs = ((n : Int), 0) := by unfold sTotal; rw [if_pos h0, hn]
  rw [et] at htot
  dsimp only at htot
  have Hcz : Hid (cntL xs 0 = List.replicate xs.length 0) := cntL_zero a2.pos
  have Hca : Hid (cntL xs (n : Int) = xs) := by show _ = _; rw [← hn]; exact cntL_all a2.pos
  have H0 := Lib.hid h0
  have Hn := Lib.hid hn
  have hn1 : 1 ≤ n := by omega
  have l1 : ¬ 40 < xs.length := by omega
  have hlen1 : (oth a (xs.length - 1)).length = xs.length - 1 := oth_length _ _
  have ho1 := fun p c po co w (h : Reads w p xs) (h' : Reads w po [(a : Int)]) => of_at hof (by omega) (by simp) p c po co w h h'
  have ho2 := fun p c po co w (h : Reads w p xs) (h' : Reads w po (oth a (xs.length - 1))) => of_at hoth (by omega) (by omega) p c po co w h h'
  dsimp only at ho1 ho2
  simp only [List.length_singleton] at ho1
  rw [hlen1] at ho2
  clear h0 hn et hof hoth hlen1
  have hB1 := below1 w (.cells #[.int .u8 x, .int .u8 y] 60)
  have k0 : (w.alloc (.cells #[.int .u8 x, .int .u8 y] 60)).cell? ⟨w.heap.size, 0, none⟩ = some (.int .u8 x) := by go_simp
  have k1 : (w.alloc (.cells #[.int .u8 x, .int .u8 y] 60)).cell? ⟨w.heap.size, 1, none⟩ = some (.int .u8 y) := by go_simp
  go_enter Try.func10, Try.ntmps10
  go_wp2
  obtain ⟨gb, hg'⟩ : ∃ g, w.heap.size = g := ⟨_, rfl⟩
  obtain ⟨w1, hw8⟩ : ∃ w8, w.alloc (.cells #[.int .u8 x, .int .u8 y] 60) = w8 := ⟨_, rfl⟩
  rw [hw8] at hB1 k0 k1 ⊢
  rw [hg'] at k0 k1 ⊢
  clear hw8 hg'
  go_loopw [5] (fun i wr => ∃ k : Nat, k ≤ xs.length ∧ i = .int .i64 k ∧ w1 = wr) (fun i _ => xs.length - (intOf i).toNat)
  case atStart => exact ⟨0, Nat.zero_le _, rfl, rfl⟩
  case round =>
    obtain ⟨k, hk, rfl, rfl⟩ := hrel
    by_cases hlt : k < xs.length
    · obtain ⟨q, o, rfl, hc1⟩ := (hC.2.1.below hB1 (Nat.le_refl _)) k hlt
      have hki : (k : Int) < (xs.length : Int) := by omega
      have h200 := hbig.out k hlt
      go_wp2
      go_roundw
      case rel => exact ⟨k + 1, by omega, by go_num, by first | trivial | rfl⟩
      case measure => simp [intOf]; omega
    · have hkl : k = xs.length := by omega
      rw [hkl]
      clear hkl hlt hk
      go_wp2_with fail
      go_call (own_any p xs c w1 (by omega) (hC.below hB1 (Nat.le_refl _))) as e w2 ⟨⟨p2, c2, rfl, r2⟩, hb2'⟩
      have hB2 := tr hB1 hb2'
      replace k0 := cell_tr hb2' k0
      replace k1 := cell_tr hb2' k1
      clear hb2' hB1
      go_wp2_with fail
      go_call (htot p2 c2 w2 r2) as e w3 ⟨rfl, hb3⟩
      have hB3 := tr hB2 hb3
      replace k0 := cell_tr hb3 k0
      replace k1 := cell_tr hb3 k1
      have hgk0 : gb < w3.heap.size := World.block_lt_of_cell? w3 _ k0
      clear hb3 hB2 r2 htot
      go_wp2_with (at_make; refine wpList_make_full _ rfl _ _ 22 rfl w3.heap.size 3 i0 (.int .i64 0) 1 Try.underlying22 hi hz0 hz1 .i64 .i64 _ _ xs.length rfl rfl ?d1 ?d2 ?c1 ?c2 ?c3 ?_)
      case d1 => rfl
      case d2 => rfl
      case c1 => rw [hz2]; omega
      case c2 => unfold maxLen; omega
      case c3 => exact Nat.le_refl _
      intro w4 hown hgr
      have hrow := Row.made hown
      have hb4 : Below w3.heap.size w3 w4 := (Below.refl _ _).grown hgr (Nat.le_refl _) (fun k e => by cases e)
      have hB4 := tr hB3 hb4
      replace k0 := cell_tr hb4 k0
      replace k1 := cell_tr hb4 k1
      obtain ⟨g, hg⟩ : ∃ g, w3.heap.size = g := ⟨_, rfl⟩
      have hgB : w.heap.size ≤ g := by rw [← hg]; exact hB3.size
      have hgk : gb < g := by rw [← hg]; exact hgk0
      clear hgk0
      rw [← Hcz.out] at hrow
      rw [hg] at hrow ⊢
      clear hown hgr hb4 hg hB3
      go_wp2
      go_loopw [9] (fun i wr => ∃ v : Nat, v ≤ n ∧ i = .int .i64 v ∧ Row wr g g xs.length (cntL xs (v : Int)) ∧ Below w.heap.size w wr ∧ wr.cell? ⟨gb, 0, none⟩ = some (.int .u8 x) ∧ wr.cell? ⟨gb, 1, none⟩ = some (.int .u8 y)) (fun i _ => n - (intOf i).toNat)
      case atStart => exact ⟨0, Nat.zero_le _, rfl, hrow, hB4, k0, k1⟩
      case round =>
        obtain ⟨v, hv, rfl, hrr, hbr, m0, m1⟩ := hrel
        by_cases hvt : v < n
        · obtain ⟨j, hj, hpk, q1, q2⟩ := Hps.out v hvt
          have hpick := fun p c w (h : Reads w p xs) => pick_at hpk (by omega) p c w h
          have hvi : (v : Int) < (n : Int) := by omega
          have hji : (j : Int) < (xs.length : Int) := by omega
          have hjn : ¬ (xs.length : Int) ≤ (j : Int) := by omega
          have hbd := cntL_bd (xs := xs) (v : Int) j (by omega)
          have hps := psum_nonneg HP.out j
          have Hq := Lib.hid (And.intro q1 q2)
          clear hpk q1 q2
          go_wp2_with fail
          go_call (own_any p xs c wr (by omega) (hC.below hbr (Nat.le_refl _))) as e w5 ⟨⟨p5, c5, rfl, r5⟩, hb5⟩
          go_wp2_with fail
          go_call (hpick p5 c5 w5 r5) as e w6 ⟨rfl, hb6⟩
          have hb56 := tr hb5 hb6
          have hr6 := hrr.kept hb56 hrr.lt.2
          have hB6 := tr hbr hb56
          replace m0 := cell_tr hb56 m0
          replace m1 := cell_tr hb56 m1
          clear hb5 hb6 r5 hb56 hrr hbr
          have hcv := hr6.cell hj
          have hfv := hr6.frozen j
          have hps2 := Lib.hid hps
          clear hps
          obtain ⟨z1, z2⟩ := hbd
          have z3 : nth (cntL xs (v : Int)) j ≤ 8000 := by have := hps2.out; omega
          clear z2 hps2
          go_wp2
          go_roundw
          case rel =>
            refine ⟨v + 1, by omega, by go_num, ?_, hB6.setCell (p := ⟨g, j, none⟩) hgB _, cell_set1 m0 (by show gb ≠ g; omega), cell_set1 m1 (by show gb ≠ g; omega)⟩
            rw [show ((v + 1 : Nat) : Int) = (v : Int) + 1 by omega, ← cntL_step HP.out hj Hq.out.1 Hq.out.2]
            exact hr6.set j (nth (cntL xs v) j + 1)
          case measure => simp [intOf]; omega
        · have hvn : v = n := by omega
          rw [hvn, Hca.out] at hrr
          rw [hvn]
          clear hvn hvt hv hrow hB4 k0 k1
          obtain ⟨w5, hw5⟩ : ∃ W : World, W = wr := ⟨_, rfl⟩
          subst hw5
          have hgs := hrr.lt.2
          go_wp2
          go_loopw [12] (fun i wr => ∃ k : Nat, k ≤ xs.length ∧ i = .int .i64 k ∧ Below w5.heap.size w5 wr) (fun i _ => xs.length - (intOf i).toNat)
          case atStart => exact ⟨0, Nat.zero_le _, rfl, Below.refl _ _⟩
          case round =>
            obtain ⟨k, hk, rfl, hb6⟩ := hrel
            by_cases hlt : k < xs.length
            · obtain ⟨q, o, rfl, hc1⟩ := ((hC.2.1.below hbr (Nat.le_refl _)).below hb6 (Nat.le_refl _)) k hlt
              have hki : (k : Int) < (xs.length : Int) := by omega
              have hc2 := (hrr.kept hb6 hgs).cell hlt
              have hne : (nth xs k != nth xs k) = false := by simp
              go_wp2
              go_quiet (fail)
              go_wp2
              go_roundw
              case rel => exact ⟨k + 1, by omega, by go_num, below_drewN hb6 _⟩
              case measure => simp [intOf]; omega
            · have hkl2 : k = xs.length := by omega
              rw [hkl2]
              replace m0 := cell_tr hb6 m0
              replace m1 := cell_tr hb6 m1
              have hB6 := tr hbr hb6
              clear hkl2 hlt hk hb6 hbr hrr hgs hgk hgB
              obtain ⟨w6, hw6⟩ : ∃ W : World, W = wr := ⟨_, rfl⟩
              subst hw6
              have hl0 : ¬ (xs.length : Int) = 0 := by omega
              have e1 : (x % (xs.length : Int)) = (a : Int) := ha.out
              have e2 : (y % (xs.length : Int)) = (b : Int) := hb.out
              have e1' : IntKind.i64.wrap (x.tmod (xs.length : Int)) = (a : Int) := by rw [Int.tmod_eq_emod_of_nonneg hx, e1]; exact IntWalk.i64_in _ (by omega)
              have e2' : IntKind.i64.wrap (y.tmod (xs.length : Int)) = (b : Int) := by rw [Int.tmod_eq_emod_of_nonneg hy, e2]; exact IntWalk.i64_in _ (by omega)
              go_wp2_with fail
              go_quiet (fail)
              clear e1 e2 e1' e2' m0 m1
              rw [ha.out, hb.out]
              have hB7 : Below w.heap.size w (w6.drewN nq) := below_drewN hB6 _
              generalize w6.drewN nq = w7 at hB7 ⊢
              clear hB6
              have hO := empty_owns w7
              have hB1 := below1 w7 (.cells #[] 3)
              go_wp2
              go_loopw [15, 16] (fun v i wr => ∃ k : Nat, k ≤ xs.length ∧ i = .int .i64 k ∧ wr.ownsRow w7.heap.size 3 1 v (mm a k) ((oth a (mm a k)).map (Value.int .i64)) ∧ Below w7.heap.size w7 wr) (fun _ i _ => xs.length - (intOf i).toNat)
              case atStart => exact ⟨0, Nat.zero_le _, rfl, hO, hB1⟩
              case round =>
                obtain ⟨k, hk, rfl, hown, hb8⟩ := hrel
                by_cases hlt : k < xs.length
                · have hki : (k : Int) < (xs.length : Int) := by omega
                  by_cases hka : k = a
                  · have hne : ((k : Int) != (a : Int)) = false := by simp; omega
                    go_wp2
                    go_roundw
                    case rel => exact ⟨k + 1, by omega, by go_num, by rw [mm_same hka]; exact hown, hb8⟩
                    case measure => simp [intOf]; omega
                  · have hne : ((k : Int) != (a : Int)) = true := by simp; omega
                    have hml : mm a k ≤ k := by unfold mm; split <;> omega
                    go_wp2_with (at_builtin; refine wpList_append_own _ rfl _ _ 22 rfl w7.heap.size 3 i0 (.int .i64 0) 1 8 Try.underlying22 hi hz0 hz1 hz2 rfl (by decide) _ _ _ rfl (hown.alloc _) ⟨wr.heap.size, 0, none⟩ 1 1 [.int .i64 (k : Int)] rfl rfl ?c1 ?c2 ?c3 ?c4 ?c5 ?_)
                    case c1 =>
                      intro jj u hjj
                      rcases jj with _ | jj
                      · have hu : u = .int .i64 (k : Int) := by simpa using hjj.symm
                        subst hu
                        rw [Go.WideShapes.add_plain, World.cell?_alloc_at _ _ _ _ rfl]
                        simp
                      · simp at hjj
                    case c2 =>
                      intro u hu
                      have hu : u = .int .i64 (k : Int) := by simpa using hu
                      subst hu
                      rfl
                    case c3 => unfold maxLen; omega
                    case c4 => omega
                    case c5 => have := hb8.size; simp; omega
                    intro v' w9 hown' hgrow hnil
                    go_wp2
                    go_roundw
                    case rel =>
                      refine ⟨k + 1, by omega, by go_num, ?_, ?_⟩
                      · rw [mm_other hka, oth_snoc hka, List.map_append]; exact hown'
                      · exact (hb8.alloc hb8.size _).grown hgrow (by have := hb8.size; simp; omega) (fun q e => by
                          have h9 := (hown.lt q e)
                          omega)
                    case measure => simp [intOf]; omega
                · have hkl3 : k = xs.length := by omega
                  rw [hkl3]
                  rw [hkl3, mm_all ha2] at hown
                  have hB20 := tr hB7 hb8
                  have hG := Got.of_owns hown
                  obtain ⟨po, co, hv, rO⟩ := hG
                  rw [oth_length] at hv
                  subst hv
                  clear hkl3 hlt hk hown hb8 hB7 hO hB1
                  obtain ⟨w20, hw20⟩ : ∃ W : World, W = wr := ⟨_, rfl⟩
                  subst hw20
                  go_wp2_with fail
                  go_call (own_any p xs c w20 (by omega) (hC.below hB20 (Nat.le_refl _))) as e w21 ⟨⟨p1, cp1, rfl, r1⟩, hb21⟩
                  have hB21 := tr hB20 hb21
                  replace rO := rO.below hb21 (Nat.le_refl _)
                  clear hb21 hB20
                  go_wp2_with fail
                  go_call (ho1 p1 cp1 (some ⟨w21.heap.size, 0, none⟩) 1 _ (r1.below (below1 w21 _) (Nat.le_refl _)) (reads_cells1 (by go_simp))) as e w22 ⟨rfl, hb22⟩
                  replace hb22 := (below1 w21 (.cells #[.int .i64 (a : Int)] 3)).trans (hb22.mono (by simp))
                  have hB22 := tr hB21 hb22
                  replace rO := rO.below hb22 (Nat.le_refl _)
                  clear hb22 hB21 r1
                  go_wp2_with fail
                  have hB23 := hB22.alloc hB22.size (.cells #[.int .i64 (A : Int), .int .i64 (N : Int)] 33)
                  have hbn := below1 w22 (.cells #[.int .i64 (A : Int), .int .i64 (N : Int)] 33)
                  replace rO := rO.below hbn (Nat.le_refl _)
                  have k0 : (w22.alloc (.cells #[.int .i64 (A : Int), .int .i64 (N : Int)] 33)).cell? ⟨w22.heap.size, 0, none⟩ = some (.int .i64 (A : Int)) := by go_simp
                  have k1 : (w22.alloc (.cells #[.int .i64 (A : Int), .int .i64 (N : Int)] 33)).cell? ⟨w22.heap.size, 1, none⟩ = some (.int .i64 (N : Int)) := by go_simp
                  obtain ⟨g1, hg'⟩ : ∃ g, w22.heap.size = g := ⟨_, rfl⟩
                  obtain ⟨w23, hw8⟩ : ∃ w8, w22.alloc (.cells #[.int .i64 (A : Int), .int .i64 (N : Int)] 33) = w8 := ⟨_, rfl⟩
                  rw [hw8] at hB23 rO k0 k1 ⊢
                  rw [hg'] at k0 k1 ⊢
                  clear hw8 hg' hB22 hbn
                  go_call (own_any p xs c _ (by omega) (hC.below hB23 (Nat.le_refl _))) as e w24 ⟨⟨p2, cp2, rfl, r2⟩, hb24⟩
                  have hB24 := tr hB23 hb24
                  replace rO := rO.below hb24 (Nat.le_refl _)
                  replace k0 := cell_tr hb24 k0
                  replace k1 := cell_tr hb24 k1
                  clear hb24 hB23
                  go_wp2_with fail
                  go_call (ho2 p2 cp2 po co _ r2 rO) as e w25 ⟨rfl, hb25⟩
                  have hB25 := tr hB24 hb25
                  replace k0 := cell_tr hb25 k0
                  replace k1 := cell_tr hb25 k1
                  clear hb25 hB24 r2 rO
                  have hB26 := hB25.alloc hB25.size (.cells #[.int .i64 ((N - A : Nat) : Int), .int .i64 (N : Int)] 33)
                  have hbn := below1 w25 (.cells #[.int .i64 ((N - A : Nat) : Int), .int .i64 (N : Int)] 33)
                  replace k0 := cell_tr hbn k0
                  replace k1 := cell_tr hbn k1
                  have j0 : (w25.alloc (.cells #[.int .i64 ((N - A : Nat) : Int), .int .i64 (N : Int)] 33)).cell? ⟨w25.heap.size, 0, none⟩ = some (.int .i64 ((N - A : Nat) : Int)) := by go_simp
                  have j1 : (w25.alloc (.cells #[.int .i64 ((N - A : Nat) : Int), .int .i64 (N : Int)] 33)).cell? ⟨w25.heap.size, 1, none⟩ = some (.int .i64 (N : Int)) := by go_simp
                  go_wp2_with fail
                  obtain ⟨g2, hg'⟩ : ∃ g, w25.heap.size = g := ⟨_, rfl⟩
                  obtain ⟨w26, hw8⟩ : ∃ w8, w25.alloc (.cells #[.int .i64 ((N - A : Nat) : Int), .int .i64 (N : Int)] 33) = w8 := ⟨_, rfl⟩
                  rw [hw8] at hB26 k0 k1 j0 j1 ⊢
                  rw [hg'] at j0 j1 ⊢
                  clear hw8 hg' hB25 hbn
                  go_call (hei _) as e w27 ⟨rfl, hb27⟩
                  have hB27 := tr hB26 hb27
                  replace k0 := cell_tr hb27 k0
                  replace k1 := cell_tr hb27 k1
                  replace j0 := cell_tr hb27 j0
                  replace j1 := cell_tr hb27 j1
                  clear hb27 hB26
                  clear j0 j1
                  by_cases hab : a = b
                  · have hbe : ((a : Int) == (b : Int)) = true := by simp; omega
                    have hosE : os = [(a : Int)] := by rw [hos, if_pos hab]
                    have hos1 : os.length = 1 := by rw [hosE]; rfl
                    clear hos hab
                    go_wp2_with fail
                    have hb28 : Below w27.heap.size w27 (((w27.alloc (.cells #[.int .i64 1, .int .i64 1] 33)).alloc (.cells #[.int .i64 (min (a : Int) (b : Int)), .int .i64 (max (a : Int) (b : Int))] 3)).alloc (.cells #[.int .i64 (a : Int)] 3)) := ((below1 w27 (.cells #[.int .i64 1, .int .i64 1] 33)).trans ((below1 _ (.cells #[.int .i64 (min (a : Int) (b : Int)), .int .i64 (max (a : Int) (b : Int))] 3)).mono (by simp))).trans ((below1 _ (.cells #[.int .i64 (a : Int)] 3)).mono (by simp; omega))
                    have rS : Reads (((w27.alloc (.cells #[.int .i64 1, .int .i64 1] 33)).alloc (.cells #[.int .i64 (min (a : Int) (b : Int)), .int .i64 (max (a : Int) (b : Int))] 3)).alloc (.cells #[.int .i64 (a : Int)] 3)) (some ⟨w27.heap.size + 1 + 1, 0, none⟩) os := by rw [hosE]; exact reads_cells1 (by go_simp)
                    generalize (((w27.alloc (.cells #[.int .i64 1, .int .i64 1] 33)).alloc (.cells #[.int .i64 (min (a : Int) (b : Int)), .int .i64 (max (a : Int) (b : Int))] 3)).alloc (.cells #[.int .i64 (a : Int)] 3)) = w28 at hb28 rS ⊢
                    obtain ⟨gs, hgs⟩ : ∃ g, w27.heap.size + 1 + 1 = g := ⟨_, rfl⟩
                    rw [hgs] at rS ⊢
                    clear hgs hosE hbe
                    have hB28 := tr hB27 hb28
                    replace k0 := cell_tr hb28 k0
                    replace k1 := cell_tr hb28 k1
                    clear hb28 hB27
                    go_call (own_any p xs c _ (by omega) (hC.below hB28 (Nat.le_refl _))) as e w29 ⟨⟨p3, cp3, rfl, r3⟩, hb29⟩
                    have hB29 := tr hB28 hb29
                    replace rS := rS.below hb29 (Nat.le_refl _)
                    replace k0 := cell_tr hb29 k0
                    replace k1 := cell_tr hb29 k1
                    clear hb29 hB28
                    rcases hD with ⟨d1, d2, d3⟩ | ⟨G, pn, pd, qn, qd, d1, d2, d3, d4, d5, hbo⟩
                    · have hgi := fun p c po co w (h : Reads w p xs) (h' : Reads w po os) => given_at d1 (by omega) (by omega) p c po co w h h'
                      dsimp only at hgi
                      rw [hos1] at hgi
                      simp only [List.length_nil] at hgi
                      clear d1
                      go_wp2_with fail
                      go_call (hgi p3 cp3 (some ⟨gs, 0, none⟩) 1 _ r3 rS) as e w30 ⟨⟨pg, cg, rfl, rg⟩, hb30⟩
                      have hB30 := tr hB29 hb30
                      replace k0 := cell_tr hb30 k0
                      replace k1 := cell_tr hb30 k1
                      clear hb30 hB29 r3 rS
                      clear rg
                      obtain ⟨q1, o1, hp1, hc1⟩ := (hC.2.1.below hB30 (Nat.le_refl _)) a ha2
                      obtain ⟨q2, o2, hp2, hc2⟩ := (hC.2.1.below hB30 (Nat.le_refl _)) b hb2
                      rw [d2] at hc1
                      rw [d3] at hc2
                      have hai : (a : Int) < (xs.length : Int) := by omega
                      have hbi : (b : Int) < (xs.length : Int) := by omega
                      subst hp1
                      cases hp2
                      go_wp2_with fail
                      go_call (known_any _) as e w31 ⟨rfl, hb31⟩
                      have hB31 := tr hB30 hb31
                      replace k0 := cell_tr hb31 k0
                      replace k1 := cell_tr hb31 k1
                      clear hb31 hB30
                      go_wp2
                      go_returns
                      exact ⟨rfl, hB31⟩
                    · have hgi := fun p c po co w (h : Reads w p xs) (h' : Reads w po os) => given_at d1 (by omega) (by omega) p c po co w h h'
                      dsimp only at hgi
                      rw [hos1, d2] at hgi
                      clear d1
                      have hp4 := fun p c po co w (h : Reads w p xs) (h' : Reads w po os) => of_at d4 (by omega) (by omega) p c po co w h h'
                      dsimp only at hp4
                      rw [hos1] at hp4
                      have hp5 := fun p c po co w (h : Reads w p G) (h' : Reads w po [(a : Int)]) => of_at d5 (by omega) (by simp) p c po co w h h'
                      dsimp only at hp5
                      rw [d2] at hp5
                      simp only [List.length_singleton] at hp5
                      have hoG := fun p c w (h : Came w p G c) => own_any p G c w (by omega) h
                      rw [d2] at hoG
                      have hcG := fun w p c (h : Reads w p G) => came_of (c := c) h (by omega) d3
                      clear d4 d5 d2 d3
                      go_wp2_with fail
                      go_call (hgi p3 cp3 (some ⟨gs, 0, none⟩) 1 _ r3 rS) as e w30 ⟨⟨pg, cg, rfl, rg⟩, hb30⟩
                      have hB30 := tr hB29 hb30
                      replace rS := rS.below hb30 (Nat.le_refl _)
                      replace k0 := cell_tr hb30 k0
                      replace k1 := cell_tr hb30 k1
                      clear hb30 hB29 r3
                      go_wp2_with fail
                      go_call (own_any p xs c _ (by omega) (hC.below hB30 (Nat.le_refl _))) as e w31 ⟨⟨p4, cp4, rfl, r4⟩, hb31⟩
                      have hB31 := tr hB30 hb31
                      replace rS := rS.below hb31 (Nat.le_refl _)
                      replace rg := rg.below hb31 (Nat.le_refl _)
                      replace k0 := cell_tr hb31 k0
                      replace k1 := cell_tr hb31 k1
                      clear hb31 hB30
                      go_wp2_with fail
                      go_call (hp4 p4 cp4 (some ⟨gs, 0, none⟩) 1 _ r4 rS) as e w32 ⟨rfl, hb32⟩
                      have hB32 := tr hB31 hb32
                      replace rg := rg.below hb32 (Nat.le_refl _)
                      replace k0 := cell_tr hb32 k0
                      replace k1 := cell_tr hb32 k1
                      clear hb32 hB31 r4 rS
                      go_wp2_with fail
                      have hB33 := hB32.alloc hB32.size (.cells #[.int .i64 (pn : Int), .int .i64 (pd : Int)] 33)
                      have hbn := below1 w32 (.cells #[.int .i64 (pn : Int), .int .i64 (pd : Int)] 33)
                      replace rg := rg.below hbn (Nat.le_refl _)
                      replace k0 := cell_tr hbn k0
                      replace k1 := cell_tr hbn k1
                      have s0 : (w32.alloc (.cells #[.int .i64 (pn : Int), .int .i64 (pd : Int)] 33)).cell? ⟨w32.heap.size, 0, none⟩ = some (.int .i64 (pn : Int)) := by go_simp
                      have s1 : (w32.alloc (.cells #[.int .i64 (pn : Int), .int .i64 (pd : Int)] 33)).cell? ⟨w32.heap.size, 1, none⟩ = some (.int .i64 (pd : Int)) := by go_simp
                      obtain ⟨g4, hg'⟩ : ∃ g, w32.heap.size = g := ⟨_, rfl⟩
                      obtain ⟨w33, hw8⟩ : ∃ w8, w32.alloc (.cells #[.int .i64 (pn : Int), .int .i64 (pd : Int)] 33) = w8 := ⟨_, rfl⟩
                      rw [hw8] at hB33 rg k0 k1 s0 s1 ⊢
                      rw [hg'] at s0 s1 ⊢
                      clear hw8 hg' hB32 hbn
                      go_call (hoG pg cg _ (hcG _ pg cg rg)) as e w34 ⟨⟨p5, cp5, rfl, r5⟩, hb34⟩
                      have hB34 := tr hB33 hb34
                      replace k0 := cell_tr hb34 k0
                      replace k1 := cell_tr hb34 k1
                      replace s0 := cell_tr hb34 s0
                      replace s1 := cell_tr hb34 s1
                      clear hb34 hB33 rg
                      go_wp2_with fail
                      go_call (hp5 p5 cp5 (some ⟨w34.heap.size, 0, none⟩) 1 _ (r5.below (below1 w34 _) (Nat.le_refl _)) (reads_cells1 (by go_simp))) as e w35 ⟨rfl, hb35⟩
                      replace hb35 := (below1 w34 (.cells #[.int .i64 (a : Int)] 3)).trans (hb35.mono (by simp))
                      have hB35 := tr hB34 hb35
                      replace k0 := cell_tr hb35 k0
                      replace k1 := cell_tr hb35 k1
                      replace s0 := cell_tr hb35 s0
                      replace s1 := cell_tr hb35 s1
                      clear hb35 hB34 r5
                      have hB36 := hB35.alloc hB35.size (.cells #[.int .i64 (qn : Int), .int .i64 (qd : Int)] 33)
                      have hbn := below1 w35 (.cells #[.int .i64 (qn : Int), .int .i64 (qd : Int)] 33)
                      replace k0 := cell_tr hbn k0
                      replace k1 := cell_tr hbn k1
                      replace s0 := cell_tr hbn s0
                      replace s1 := cell_tr hbn s1
                      have t0 : (w35.alloc (.cells #[.int .i64 (qn : Int), .int .i64 (qd : Int)] 33)).cell? ⟨w35.heap.size, 0, none⟩ = some (.int .i64 (qn : Int)) := by go_simp
                      have t1 : (w35.alloc (.cells #[.int .i64 (qn : Int), .int .i64 (qd : Int)] 33)).cell? ⟨w35.heap.size, 1, none⟩ = some (.int .i64 (qd : Int)) := by go_simp
                      go_wp2_with fail
                      obtain ⟨g5, hg'⟩ : ∃ g, w35.heap.size = g := ⟨_, rfl⟩
                      obtain ⟨w36, hw8⟩ : ∃ w8, w35.alloc (.cells #[.int .i64 (qn : Int), .int .i64 (qd : Int)] 33) = w8 := ⟨_, rfl⟩
                      rw [hw8] at hB36 k0 k1 s0 s1 t0 t1 ⊢
                      rw [hg'] at t0 t1 ⊢
                      clear hw8 hg' hB35 hbn
                      go_call (hbo _) as e w37 ⟨rfl, hb37⟩
                      have hB37 := tr hB36 hb37
                      replace k0 := cell_tr hb37 k0
                      replace k1 := cell_tr hb37 k1
                      replace s0 := cell_tr hb37 s0
                      replace s1 := cell_tr hb37 s1
                      replace t0 := cell_tr hb37 t0
                      replace t1 := cell_tr hb37 t1
                      clear hb37 hB36
                      clear s0 s1 t0 t1
                      have hB38 := hB37.alloc hB37.size (.cells #[.int .i64 (A : Int), .int .i64 (N : Int)] 33)
                      have hbn := below1 w37 (.cells #[.int .i64 (A : Int), .int .i64 (N : Int)] 33)
                      replace k0 := cell_tr hbn k0
                      replace k1 := cell_tr hbn k1
                      have v0 : (w37.alloc (.cells #[.int .i64 (A : Int), .int .i64 (N : Int)] 33)).cell? ⟨w37.heap.size, 0, none⟩ = some (.int .i64 (A : Int)) := by go_simp
                      have v1 : (w37.alloc (.cells #[.int .i64 (A : Int), .int .i64 (N : Int)] 33)).cell? ⟨w37.heap.size, 1, none⟩ = some (.int .i64 (N : Int)) := by go_simp
                      go_wp2_with fail
                      obtain ⟨g6, hg'⟩ : ∃ g, w37.heap.size = g := ⟨_, rfl⟩
                      obtain ⟨w38, hw8⟩ : ∃ w8, w37.alloc (.cells #[.int .i64 (A : Int), .int .i64 (N : Int)] 33) = w8 := ⟨_, rfl⟩
                      rw [hw8] at hB38 k0 k1 v0 v1 ⊢
                      rw [hg'] at v0 v1 ⊢
                      clear hw8 hg' hB37 hbn
                      go_call (known_any _) as e w39 ⟨rfl, hb39⟩
                      have hB39 := tr hB38 hb39
                      replace k0 := cell_tr hb39 k0
                      replace k1 := cell_tr hb39 k1
                      replace v0 := cell_tr hb39 v0
                      replace v1 := cell_tr hb39 v1
                      clear hb39 hB38
                      go_wp2
                      go_returns
                      exact ⟨rfl, hB39⟩
                  · have hbe : ((a : Int) == (b : Int)) = false := by simp; omega
                    have m1 : ((min a b : Nat) : Int) = min (a : Int) (b : Int) := by omega
                    have m2 : ((max a b : Nat) : Int) = max (a : Int) (b : Int) := by omega
                    have hosE : os = [min (a : Int) (b : Int), max (a : Int) (b : Int)] := by rw [hos, if_neg hab, m1, m2]
                    clear m1 m2
                    have hos1 : os.length = 2 := by rw [hosE]; rfl
                    clear hos hab
                    go_wp2_with fail
                    have hb28 : Below w27.heap.size w27 ((w27.alloc (.cells #[.int .i64 1, .int .i64 1] 33)).alloc (.cells #[.int .i64 (min (a : Int) (b : Int)), .int .i64 (max (a : Int) (b : Int))] 3)) := (below1 w27 (.cells #[.int .i64 1, .int .i64 1] 33)).trans ((below1 _ (.cells #[.int .i64 (min (a : Int) (b : Int)), .int .i64 (max (a : Int) (b : Int))] 3)).mono (by simp))
                    have rS : Reads ((w27.alloc (.cells #[.int .i64 1, .int .i64 1] 33)).alloc (.cells #[.int .i64 (min (a : Int) (b : Int)), .int .i64 (max (a : Int) (b : Int))] 3)) (some ⟨w27.heap.size + 1, 0, none⟩) os := by rw [hosE]; exact reads_cells2 (by go_simp) (by go_simp)
                    generalize ((w27.alloc (.cells #[.int .i64 1, .int .i64 1] 33)).alloc (.cells #[.int .i64 (min (a : Int) (b : Int)), .int .i64 (max (a : Int) (b : Int))] 3)) = w28 at hb28 rS ⊢
                    obtain ⟨gs, hgs⟩ : ∃ g, w27.heap.size + 1 = g := ⟨_, rfl⟩
                    rw [hgs] at rS ⊢
                    clear hgs hosE hbe
                    have hB28 := tr hB27 hb28
                    replace k0 := cell_tr hb28 k0
                    replace k1 := cell_tr hb28 k1
                    clear hb28 hB27
                    go_call (own_any p xs c _ (by omega) (hC.below hB28 (Nat.le_refl _))) as e w29 ⟨⟨p3, cp3, rfl, r3⟩, hb29⟩
                    have hB29 := tr hB28 hb29
                    replace rS := rS.below hb29 (Nat.le_refl _)
                    replace k0 := cell_tr hb29 k0
                    replace k1 := cell_tr hb29 k1
                    clear hb29 hB28
                    rcases hD with ⟨d1, d2, d3⟩ | ⟨G, pn, pd, qn, qd, d1, d2, d3, d4, d5, hbo⟩
                    · have hgi := fun p c po co w (h : Reads w p xs) (h' : Reads w po os) => given_at d1 (by omega) (by omega) p c po co w h h'
                      dsimp only at hgi
                      rw [hos1] at hgi
                      simp only [List.length_nil] at hgi
                      clear d1
                      go_wp2_with fail
                      go_call (hgi p3 cp3 (some ⟨gs, 0, none⟩) 2 _ r3 rS) as e w30 ⟨⟨pg, cg, rfl, rg⟩, hb30⟩
                      have hB30 := tr hB29 hb30
                      replace k0 := cell_tr hb30 k0
                      replace k1 := cell_tr hb30 k1
                      clear hb30 hB29 r3 rS
                      clear rg
                      obtain ⟨q1, o1, hp1, hc1⟩ := (hC.2.1.below hB30 (Nat.le_refl _)) a ha2
                      obtain ⟨q2, o2, hp2, hc2⟩ := (hC.2.1.below hB30 (Nat.le_refl _)) b hb2
                      rw [d2] at hc1
                      rw [d3] at hc2
                      have hai : (a : Int) < (xs.length : Int) := by omega
                      have hbi : (b : Int) < (xs.length : Int) := by omega
                      subst hp1
                      cases hp2
                      go_wp2_with fail
                      go_call (known_any _) as e w31 ⟨rfl, hb31⟩
                      have hB31 := tr hB30 hb31
                      replace k0 := cell_tr hb31 k0
                      replace k1 := cell_tr hb31 k1
                      clear hb31 hB30
                      go_wp2
                      go_returns
                      exact ⟨rfl, hB31⟩
                    · have hgi := fun p c po co w (h : Reads w p xs) (h' : Reads w po os) => given_at d1 (by omega) (by omega) p c po co w h h'
                      dsimp only at hgi
                      rw [hos1, d2] at hgi
                      clear d1
                      have hp4 := fun p c po co w (h : Reads w p xs) (h' : Reads w po os) => of_at d4 (by omega) (by omega) p c po co w h h'
                      dsimp only at hp4
                      rw [hos1] at hp4
                      have hp5 := fun p c po co w (h : Reads w p G) (h' : Reads w po [(a : Int)]) => of_at d5 (by omega) (by simp) p c po co w h h'
                      dsimp only at hp5
                      rw [d2] at hp5
                      simp only [List.length_singleton] at hp5
                      have hoG := fun p c w (h : Came w p G c) => own_any p G c w (by omega) h
                      rw [d2] at hoG
                      have hcG := fun w p c (h : Reads w p G) => came_of (c := c) h (by omega) d3
                      clear d4 d5 d2 d3
                      go_wp2_with fail
                      go_call (hgi p3 cp3 (some ⟨gs, 0, none⟩) 2 _ r3 rS) as e w30 ⟨⟨pg, cg, rfl, rg⟩, hb30⟩
                      have hB30 := tr hB29 hb30
                      replace rS := rS.below hb30 (Nat.le_refl _)
                      replace k0 := cell_tr hb30 k0
                      replace k1 := cell_tr hb30 k1
                      clear hb30 hB29 r3
                      go_wp2_with fail
                      go_call (own_any p xs c _ (by omega) (hC.below hB30 (Nat.le_refl _))) as e w31 ⟨⟨p4, cp4, rfl, r4⟩, hb31⟩
                      have hB31 := tr hB30 hb31
                      replace rS := rS.below hb31 (Nat.le_refl _)
                      replace rg := rg.below hb31 (Nat.le_refl _)
                      replace k0 := cell_tr hb31 k0
                      replace k1 := cell_tr hb31 k1
                      clear hb31 hB30
                      go_wp2_with fail
                      go_call (hp4 p4 cp4 (some ⟨gs, 0, none⟩) 2 _ r4 rS) as e w32 ⟨rfl, hb32⟩
                      have hB32 := tr hB31 hb32
                      replace rg := rg.below hb32 (Nat.le_refl _)
                      replace k0 := cell_tr hb32 k0
                      replace k1 := cell_tr hb32 k1
                      clear hb32 hB31 r4 rS
                      go_wp2_with fail
                      have hB33 := hB32.alloc hB32.size (.cells #[.int .i64 (pn : Int), .int .i64 (pd : Int)] 33)
                      have hbn := below1 w32 (.cells #[.int .i64 (pn : Int), .int .i64 (pd : Int)] 33)
                      replace rg := rg.below hbn (Nat.le_refl _)
                      replace k0 := cell_tr hbn k0
                      replace k1 := cell_tr hbn k1
                      have s0 : (w32.alloc (.cells #[.int .i64 (pn : Int), .int .i64 (pd : Int)] 33)).cell? ⟨w32.heap.size, 0, none⟩ = some (.int .i64 (pn : Int)) := by go_simp
                      have s1 : (w32.alloc (.cells #[.int .i64 (pn : Int), .int .i64 (pd : Int)] 33)).cell? ⟨w32.heap.size, 1, none⟩ = some (.int .i64 (pd : Int)) := by go_simp
                      obtain ⟨g4, hg'⟩ : ∃ g, w32.heap.size = g := ⟨_, rfl⟩
                      obtain ⟨w33, hw8⟩ : ∃ w8, w32.alloc (.cells #[.int .i64 (pn : Int), .int .i64 (pd : Int)] 33) = w8 := ⟨_, rfl⟩
                      rw [hw8] at hB33 rg k0 k1 s0 s1 ⊢
                      rw [hg'] at s0 s1 ⊢
                      clear hw8 hg' hB32 hbn
                      go_call (hoG pg cg _ (hcG _ pg cg rg)) as e w34 ⟨⟨p5, cp5, rfl, r5⟩, hb34⟩
                      have hB34 := tr hB33 hb34
                      replace k0 := cell_tr hb34 k0
                      replace k1 := cell_tr hb34 k1
                      replace s0 := cell_tr hb34 s0
                      replace s1 := cell_tr hb34 s1
                      clear hb34 hB33 rg
                      go_wp2_with fail
                      go_call (hp5 p5 cp5 (some ⟨w34.heap.size, 0, none⟩) 1 _ (r5.below (below1 w34 _) (Nat.le_refl _)) (reads_cells1 (by go_simp))) as e w35 ⟨rfl, hb35⟩
                      replace hb35 := (below1 w34 (.cells #[.int .i64 (a : Int)] 3)).trans (hb35.mono (by simp))
                      have hB35 := tr hB34 hb35
                      replace k0 := cell_tr hb35 k0
                      replace k1 := cell_tr hb35 k1
                      replace s0 := cell_tr hb35 s0
                      replace s1 := cell_tr hb35 s1
                      clear hb35 hB34 r5
                      have hB36 := hB35.alloc hB35.size (.cells #[.int .i64 (qn : Int), .int .i64 (qd : Int)] 33)
                      have hbn := below1 w35 (.cells #[.int .i64 (qn : Int), .int .i64 (qd : Int)] 33)
                      replace k0 := cell_tr hbn k0
                      replace k1 := cell_tr hbn k1
                      replace s0 := cell_tr hbn s0
                      replace s1 := cell_tr hbn s1
                      have t0 : (w35.alloc (.cells #[.int .i64 (qn : Int), .int .i64 (qd : Int)] 33)).cell? ⟨w35.heap.size, 0, none⟩ = some (.int .i64 (qn : Int)) := by go_simp
                      have t1 : (w35.alloc (.cells #[.int .i64 (qn : Int), .int .i64 (qd : Int)] 33)).cell? ⟨w35.heap.size, 1, none⟩ = some (.int .i64 (qd : Int)) := by go_simp
                      go_wp2_with fail
                      obtain ⟨g5, hg'⟩ : ∃ g, w35.heap.size = g := ⟨_, rfl⟩
                      obtain ⟨w36, hw8⟩ : ∃ w8, w35.alloc (.cells #[.int .i64 (qn : Int), .int .i64 (qd : Int)] 33) = w8 := ⟨_, rfl⟩
                      rw [hw8] at hB36 k0 k1 s0 s1 t0 t1 ⊢
                      rw [hg'] at t0 t1 ⊢
                      clear hw8 hg' hB35 hbn
                      go_call (hbo _) as e w37 ⟨rfl, hb37⟩
                      have hB37 := tr hB36 hb37
                      replace k0 := cell_tr hb37 k0
                      replace k1 := cell_tr hb37 k1
                      replace s0 := cell_tr hb37 s0
                      replace s1 := cell_tr hb37 s1
                      replace t0 := cell_tr hb37 t0
                      replace t1 := cell_tr hb37 t1
                      clear hb37 hB36
                      clear s0 s1 t0 t1
                      have hB38 := hB37.alloc hB37.size (.cells #[.int .i64 (A : Int), .int .i64 (N : Int)] 33)
                      have hbn := below1 w37 (.cells #[.int .i64 (A : Int), .int .i64 (N : Int)] 33)
                      replace k0 := cell_tr hbn k0
                      replace k1 := cell_tr hbn k1
                      have v0 : (w37.alloc (.cells #[.int .i64 (A : Int), .int .i64 (N : Int)] 33)).cell? ⟨w37.heap.size, 0, none⟩ = some (.int .i64 (A : Int)) := by go_simp
                      have v1 : (w37.alloc (.cells #[.int .i64 (A : Int), .int .i64 (N : Int)] 33)).cell? ⟨w37.heap.size, 1, none⟩ = some (.int .i64 (N : Int)) := by go_simp
                      go_wp2_with fail
                      obtain ⟨g6, hg'⟩ : ∃ g, w37.heap.size = g := ⟨_, rfl⟩
                      obtain ⟨w38, hw8⟩ : ∃ w8, w37.alloc (.cells #[.int .i64 (A : Int), .int .i64 (N : Int)] 33) = w8 := ⟨_, rfl⟩
                      rw [hw8] at hB38 k0 k1 v0 v1 ⊢
                      rw [hg'] at v0 v1 ⊢
                      clear hw8 hg' hB37 hbn
                      go_call (known_any _) as e w39 ⟨rfl, hb39⟩
                      have hB39 := tr hB38 hb39
                      replace k0 := cell_tr hb39 k0
                      replace k1 := cell_tr hb39 k1
                      replace v0 := cell_tr hb39 v0
                      replace v1 := cell_tr hb39 v1
                      clear hb39 hB38
                      go_wp2
                      go_returns
                      exact ⟨rfl, hB39⟩
end Go.Proofs.Ytagodfaclohkmaa
