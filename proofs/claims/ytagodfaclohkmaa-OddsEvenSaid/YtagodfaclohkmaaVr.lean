/-
  OddsEven, the walk: for any three bytes the function returns true; nothing that was there is written.
-/
import Derived.Test.YtagodfaclohkmaaZa
import Derived.Test.YtagodfaclohkmaaVq
import Derived.Deep.QuietTactic
import Derived.BigQuiet
import Derived.WalkKit
import Derived.Below
namespace Go.Proofs.Ytagodfaclohkmaa
open Go.RowKit
set_option linter.unusedVariables false

/-- How often each value was decided, by the first k lists. -/
def cnts (s b n k : Nat) : List Int := upto (fun v => ((cntE s b n v k : Nat) : Int)) b
theorem cnts_length (s b n k : Nat) : (cnts s b n k).length = b := upto_length _ _
theorem nth_cnts {s b n k v : Nat} (h : v < b) : nth (cnts s b n k) v = (cntE s b n v k : Int) := by
  unfold cnts upto nth
  simp [h]
theorem cnts_zero (s b n : Nat) : cnts s b n 0 = List.replicate b 0 := by
  unfold cnts upto
  simp [cntE, ns, List.map_const']
theorem cnts_none {s b n k : Nat} (h : decN s b (dg s k) n 1 0 = none) : cnts s b n (k + 1) = cnts s b n k := by
  unfold cnts upto
  refine List.map_congr_left fun v _ => ?_
  simp only [cntE, ns]
  rw [h]
  simp [hit]
theorem list_ext' {a b : List Int} (hl : a.length = b.length) (h : ∀ k, k < a.length → nth a k = nth b k) : a = b := by
  refine List.ext_getElem hl fun k h1 h2 => ?_
  have := h k h1
  rwa [nth_eq h1, nth_eq h2] at this
theorem cnts_some {s b n k v : Nat} (h : decN s b (dg s k) n 1 0 = some v) (hv : v < b) : (cnts s b n k).set v (nth (cnts s b n k) v + 1) = cnts s b n (k + 1) := by
  refine list_ext' (by simp [cnts_length]) fun j hj => ?_
  rw [List.length_set, cnts_length] at hj
  rw [nth_set (by rw [cnts_length]; exact hv), nth_cnts hv, nth_cnts hj, nth_cnts hj]
  have e : cntE s b n j (k + 1) = cntE s b n j k + iv v j := by
    simp only [cntE, ns]
    rw [h]
    rfl
  rw [e]
  by_cases hvj : v = j
  · subst hvj; rw [if_pos rfl]; simp [iv]
  · rw [if_neg hvj]; simp [iv, hvj]
theorem cnts_bd {s b n k : Nat} (j : Nat) : 0 ≤ nth (cnts s b n k) j ∧ nth (cnts s b n k) j ≤ k := by
  by_cases hj : j < b
  · rw [nth_cnts hj]
    have : cntE s b n j k ≤ k := by
      unfold cntE
      induction k with
      | zero => simp [ns]
      | succ k ih =>
        simp only [ns]
        have : hit (decN s b (dg s k) n 1 0) j ≤ 1 := by
          unfold hit iv
          split
          · split <;> omega
          · omega
        omega
    omega
  · rw [nth_out (by rw [cnts_length]; exact hj)]; omega
theorem Reads.take {w : World} {p : Option Addr} {xs : List Int} (h : Reads w p xs) (u : Nat) : Reads w p (xs.take u) := fun k hk => by
  rw [List.length_take] at hk
  obtain ⟨q, o, e, hc⟩ := h k (by omega)
  exact ⟨q, o, e, by rw [nth_take (by omega)]; exact hc⟩
theorem came_owns {w : World} {B : Nat} {v : Value} {n : Nat} {xs : List Int} (h : w.ownsRow B 3 1 v n (xs.map (Value.int .i64))) (hv : v ≠ .slice none 0 0) (hx : ∀ k, k < xs.length → -9223372036854775808 ≤ nth xs k ∧ nth xs k ≤ 9223372036854775807) :
    ∃ g c, v = .slice (some ⟨g, 0, none⟩) n c ∧ n ≤ c ∧ xs.length = n ∧ Came w (some ⟨g, 0, none⟩) xs c := by
  have hl : xs.length = n := by simpa using h.1
  have hG := Got.of_owns h
  rcases h.2 with ⟨h1, _⟩ | ⟨g, cap, cur, h1, _, _, h2, _⟩
  · exact absurd h1 hv
  · obtain ⟨p, c, e, hr⟩ := hG
    rw [h1] at e
    simp only [Value.slice.injEq] at e
    obtain ⟨e1, _, e2⟩ := e
    refine ⟨g, cap, h1, h2, hl, ?_⟩
    rw [← e1] at hr
    refine ⟨fun h0 => ?_, hr, hx⟩
    cases h0
theorem Came.take {w : World} {a : Addr} {xs : List Int} {c : Nat} (h : Came w (some a) xs c) (u : Nat) : Came w (some a) (xs.take u) c := by
  refine ⟨fun h0 => ?_, h.2.1.take u, fun i hi => ?_⟩
  · cases h0
  · rw [List.length_take] at hi
    rw [nth_take (by omega)]
    exact h.2.2 i (by omega)
theorem fair_at {s b : Nat} {ts : List Int} {v u e : Int} (h : sFair s b ts = (v, u, e)) (hl : ts.length ≤ 1000000) (p : Option Addr) (c : Nat) (w : World) (hR : Reads w p ts) :
    Calls Try.prog 53 #[.int .i64 s, .int .i64 b, .slice p ts.length c] w fun r w' => r = .returned (.tuple #[.int .i64 v, .int .i64 u, .int .i64 e]) ∧ Below w.heap.size w w' := by
  have := fair_any s b p ts c w (by omega) hR
  rwa [h] at this

set_option maxRecDepth 100000 in
set_option maxHeartbeats 8000000 in
theorem oddsEven_walk (x y z : Int) (w : World) (hx : 0 ≤ x) (hx2 : x ≤ 255) (hy : 0 ≤ y) (hy2 : y ≤ 255) (hz : 0 ≤ z) (hz2 : z ≤ 255) (s b n M : Nat) (hs : Hid (2 + x % 5 = (s : Int))) (hb : Hid (1 + y % 12 = (b : Int))) (hn : Hid (z % 6 = (n : Int)))
    (s1 : 2 ≤ s) (s2 : s ≤ 6) (b1 : 1 ≤ b) (b2 : b ≤ 12) (n2 : n ≤ 5) (hM : Hid (s ^ n = M)) (hp : Hid (∀ k, k ≤ n → s ^ k ≤ 7776)) (hM2 : M ≤ 7776) :
    Calls Try.prog 12 #[.int .u8 x, .int .u8 y, .int .u8 z] w fun e w' => e = .returned (.bool true) ∧ Below w.heap.size w w' := by
  obtain ⟨i0, hi, hz0, hz1, hz2'⟩ := info_parts info_int
  have hFt := fun (k : Nat) => fair_digs (s := s) (b := b) (n := n) k s1 (by omega) b1 (by omega) (by omega)
  have HF := Lib.hid hFt
  have HE : Hid (∀ v, v < b → nth (cnts s b n M) v = nth (cnts s b n M) 0) := fun v hv => by
    rw [nth_cnts hv, nth_cnts b1, ← hM.out]
    have := cntE_even (s := s) (b := b) (n := n) (by omega) hv b1
    omega
  clear hFt
  go_enter Try.func12, Try.ntmps12
  go_wp2_with (at_make; refine wpList_make_full _ rfl _ _ 22 rfl w.heap.size 3 i0 (.int .i64 0) 1 Try.underlying22 hi hz0 hz1 .i64 .i64 _ _ b rfl rfl ?d1 ?d2 ?c1 ?c2 ?c3 ?_)
  case d1 => exact hb.out
  case d2 => exact hb.out
  case c1 => rw [hz2']; omega
  case c2 => unfold maxLen; omega
  case c3 => exact Nat.le_refl _
  intro w2 hown hgr
  have hrow := Row.made hown
  have hB2 : Below w.heap.size w w2 := (Below.refl _ _).grown hgr (Nat.le_refl _) (fun k e => by cases e)
  clear hown hgr
  obtain ⟨g, hg⟩ : ∃ g, w.heap.size = g := ⟨_, rfl⟩
  have hgl := hrow.lt
  rw [← cnts_zero s b n] at hrow
  rw [hg] at hrow hgl ⊢
  have hgB : w.heap.size ≤ g := by omega
  clear hg
  go_wp2
  rw [hs.out, hb.out, hn.out]
  clear hx hx2 hy hy2 hz hz2
  go_loopw [11, 12] (fun a i wr => ∃ k : Nat, k ≤ n ∧ i = .int .i64 k ∧ a = .int .i64 ((s ^ k : Nat) : Int) ∧ w2 = wr) (fun _ i _ => n - (intOf i).toNat)
  case atStart => exact ⟨0, Nat.zero_le _, rfl, by simp, rfl⟩
  case round =>
    obtain ⟨k, hk, rfl, rfl, rfl⟩ := hrel
    by_cases hlt : k < n
    · have hki : (k : Int) < (n : Int) := by omega
      have hq := hp.out (k + 1) (by omega)
      have hpw : s ^ (k + 1) = s ^ k * s := Nat.pow_succ ..
      have e0 : (((s ^ k : Nat) : Int) * (s : Int)) = ((s ^ (k + 1) : Nat) : Int) := by rw [hpw, Int.natCast_mul]
      have e1 : IntKind.i64.wrap (((s ^ k : Nat) : Int) * (s : Int)) = ((s ^ (k + 1) : Nat) : Int) := by rw [e0]; exact IntWalk.i64_in _ (by omega)
      have E0 := Lib.hid e0
      clear hpw e0 hq
      obtain ⟨a, ha⟩ : ∃ a, s ^ k = a := ⟨_, rfl⟩
      obtain ⟨c, hc⟩ : ∃ c, s ^ (k + 1) = c := ⟨_, rfl⟩
      have hcl : c ≤ 7776 := by rw [← hc]; exact hp.out (k + 1) (by omega)
      rw [ha, hc] at e1
      rw [ha]
      have Hc := Lib.hid hc
      clear ha hc E0
      go_wp2
      go_roundw
      case rel => exact ⟨k + 1, by omega, by go_num, by rw [Hc.out], by first | trivial | rfl⟩
      case measure => simp [intOf]; omega
    · have hkn : k = n := by omega
      rw [hkn, hM.out]
      clear hkn hlt hk
      go_wp2
      have hRow0 : Row w2 g g b (cnts s b n 0) := hrow
      obtain ⟨wq, hwq⟩ : ∃ W : World, W = w2 := ⟨_, rfl⟩
      go_loopw [13] (fun i wr => ∃ k : Nat, k ≤ M ∧ i = .int .i64 k ∧ Row wr g g b (cnts s b n k) ∧ Below w.heap.size w wr) (fun i _ => M - (intOf i).toNat)
      case atStart => exact ⟨0, Nat.zero_le _, rfl, hrow, hB2⟩
      case round =>
        obtain ⟨k, hk, rfl, hrk, hbk⟩ := hrel
        by_cases hlt : k < M
        · have hki : (k : Int) < (M : Int) := by omega
          obtain ⟨wo, hwo⟩ : ∃ W : World, W = wr := ⟨_, rfl⟩
          subst hwo
          have hO := empty_owns wo
          have hB1 := below1 wo (.cells #[] 3)
          have hzs : ¬ (s : Int) = 0 := by omega
          have hsp : 0 < (s : Int) := by omega
          go_wp2
          go_loopw [14, 15, 16] (fun v i y wr => ∃ j : Nat, j ≤ n ∧ i = .int .i64 j ∧ y = .int .i64 ((k / s ^ j : Nat) : Int) ∧ v ≠ .slice none 0 0 ∧ wr.ownsRow wo.heap.size 3 1 v j ((upto (fun i => ((dg s k i : Nat) : Int)) j).map (Value.int .i64)) ∧ Below wo.heap.size wo wr) (fun _ i _ _ => n - (intOf i).toNat)
          case atStart => exact ⟨0, Nat.zero_le _, rfl, by simp, by simp, hO, hB1⟩
          case round =>
            obtain ⟨j, hj, rfl, rfl, hvn, hown, hbr⟩ := hrel
            by_cases hjt : j < n
            · have hji : (j : Int) < (n : Int) := by omega
              obtain ⟨Y, hY⟩ : ∃ Y, k / s ^ j = Y := ⟨_, rfl⟩
              obtain ⟨D, hD⟩ : ∃ D, dg s k j = D := ⟨_, rfl⟩
              obtain ⟨Z, hZ⟩ : ∃ Z, k / s ^ (j + 1) = Z := ⟨_, rfl⟩
              have hDY : D = Y % s := by rw [← hD, ← hY]; rfl
              have hZY : Z = Y / s := by rw [← hZ, ← hY, Nat.pow_succ, Nat.div_div_eq_div_mul]
              have hYl : Y ≤ k := by rw [← hY]; exact Nat.div_le_self _ _
              have hDl : D < s := by rw [hDY]; exact Nat.mod_lt _ (by omega)
              have hZl : Z ≤ Y := by rw [hZY]; exact Nat.div_le_self _ _
              have e1 : ((Y : Int) % (s : Int)) = (D : Int) := by rw [hDY]; rfl
              have e2 : ((Y : Int) / (s : Int)) = (Z : Int) := by rw [hZY]; rfl
              have e1' : IntKind.i64.wrap ((Y : Int).tmod (s : Int)) = (D : Int) := by rw [Int.tmod_eq_emod_of_nonneg (by omega), e1]; exact IntWalk.i64_in _ (by omega)
              have e2' : IntKind.i64.wrap ((Y : Int).tdiv (s : Int)) = (Z : Int) := by rw [Int.tdiv_eq_ediv_of_nonneg (by omega), e2]; exact IntWalk.i64_in _ (by omega)
              rw [hY]
              have HD := Lib.hid hD
              have HZ := Lib.hid hZ
              clear hY hD hZ hDY hZY
              go_wp2_with (at_builtin; refine wpList_append_own _ rfl _ _ 22 rfl wo.heap.size 3 i0 (.int .i64 0) 1 8 Try.underlying22 hi hz0 hz1 hz2' rfl (by decide) _ _ _ rfl (hown.alloc _) ⟨wr.heap.size, 0, none⟩ 1 1 [.int .i64 D] rfl rfl ?c1 ?c2 ?c3 ?c4 ?c5 ?_)
              case c1 =>
                intro jj u hjj
                rcases jj with _ | jj
                · have hu : u = .int .i64 D := by simpa using hjj.symm
                  subst hu
                  rw [Go.WideShapes.add_plain, World.cell?_alloc_at _ _ _ _ rfl]
                  simp
                · simp at hjj
              case c2 =>
                intro u hu
                have hu : u = .int .i64 D := by simpa using hu
                subst hu
                rfl
              case c3 => unfold maxLen; omega
              case c4 => omega
              case c5 => have := hbr.size; simp; omega
              intro v' w7 hown' hgrow hnil
              go_wp2
              go_roundw
              case rel =>
                refine ⟨j + 1, by omega, by go_num, by rw [HZ.out], ?_, ?_, ?_⟩
                · exact hnil
                · rw [upto_succ, List.map_append, HD.out]; exact hown'
                · exact (hbr.alloc hbr.size _).grown hgrow (by have := hbr.size; simp; omega) (fun q e => by
                    have h9 := (hown.lt q e)
                    omega)
              case measure => simp [intOf]; omega
            · have hjn : n = j := by omega
              subst hjn
              have hlen : (digs s k n).length = n := digs_length s k n
              have hdig : ∀ i, i < (digs s k n).length → -9223372036854775808 ≤ nth (digs s k n) i ∧ nth (digs s k n) i ≤ 9223372036854775807 := fun i hi => by
                have := digs_in (s := s) (x := k) (n := n) (by omega) (i := i) (by omega)
                omega
              obtain ⟨g', c', rfl, hnc, _, hCame⟩ := came_owns (xs := digs s k n) hown hvn hdig
              have hF := HF.out k
              have hBr := tr hbk hbr
              have hrr := hrk.kept hbr hrk.lt.2
              have hgs := hrr.lt.2
              obtain ⟨T, hT⟩ : ∃ T, digs s k n = T := ⟨_, rfl⟩
              rw [hT] at hlen hCame hF
              have how := fun W (h : Came W (some ⟨g', 0, none⟩) T c') => own_any (some ⟨g', 0, none⟩) T c' W (by omega) h
              rw [hlen] at how
              clear hT hown hdig hvn hO hB1 hbr hbk hrk
              rcases hF with ⟨d1, f1⟩ | ⟨v, u, d1, hv, hu, f1, f2⟩
              · have hfair := fun p c W (h : Reads W p T) => fair_at f1 (by omega) p c W h
                rw [hlen] at hfair
                have D1 := Lib.hid d1
                clear d1 f1 hlen
                go_wp2_with fail
                go_call (how wr hCame) as e w3 ⟨⟨p3, c3, rfl, r3⟩, hb3⟩
                go_wp2_with fail
                go_call (hfair p3 c3 w3 r3) as e w4 ⟨rfl, hb4⟩
                have hb34 := tr hb3 hb4
                go_wp2
                go_roundw
                case rel => exact ⟨k + 1, by omega, by go_num, by rw [cnts_none D1.out]; exact hrr.kept hb34 hgs, tr hBr hb34⟩
                case measure => simp [intOf]; omega
              · have hfair := fun p c W (h : Reads W p T) => fair_at f1 (by omega) p c W h
                rw [hlen] at hfair
                have hlu : (T.take u).length = u := by rw [List.length_take]; omega
                have hfair2 := fun p c W (h : Reads W p (T.take u)) => fair_at f2 (by omega) p c W h
                have how2 := fun W (h : Came W (some ⟨g', 0, none⟩) (T.take u) c') => own_any (some ⟨g', 0, none⟩) (T.take u) c' W (by omega) h
                rw [hlu] at hfair2 how2
                have hCame2 : ∀ W, Came W (some ⟨g', 0, none⟩) T c' → Came W (some ⟨g', 0, none⟩) (T.take u) c' := fun W h => h.take u
                have D1 := Lib.hid d1
                have hvi : (v : Int) < (b : Int) := by omega
                have hui : (u : Int) ≤ (n : Int) := by omega
                have huc : (u : Int) ≤ (c' : Int) := by omega
                clear d1 f1 f2 hlen hlu
                go_wp2_with fail
                go_call (how wr hCame) as e w3 ⟨⟨p3, c3, rfl, r3⟩, hb3⟩
                go_wp2_with fail
                go_call (hfair p3 c3 w3 r3) as e w4 ⟨rfl, hb4⟩
                have hb34 := tr hb3 hb4
                clear hb3 hb4 r3
                go_wp2_with fail
                go_call (how2 w4 (hCame2 w4 (hCame.below hb34 (Nat.le_refl _)))) as e w5 ⟨⟨p5, c5, rfl, r5⟩, hb5⟩
                go_wp2_with fail
                go_call (hfair2 p5 c5 w5 r5) as e w6 ⟨rfl, hb6⟩
                have hb36 := tr hb34 (tr hb5 hb6)
                have hr6 := hrr.kept hb36 hgs
                have hB6 := tr hBr hb36
                clear hb34 hb5 hb6 r5 hb36 hrr hBr
                have hcv := hr6.cell hv
                have hfv := hr6.frozen v
                obtain ⟨q1, q2⟩ := cnts_bd (s := s) (b := b) (n := n) (k := k) v
                go_wp2
                go_roundw
                case rel =>
                  refine ⟨k + 1, by omega, by go_num, ?_, hB6.setCell (p := ⟨g, v, none⟩) hgB _⟩
                  rw [← cnts_some D1.out hv]
                  exact hr6.set v (nth (cnts s b n k) v + 1)
                case measure => simp [intOf]; omega
        · have hkM : M = k := by omega
          subst hkM
          obtain ⟨C, hC⟩ : ∃ C, cnts s b n M = C := ⟨_, rfl⟩
          have HE' : Hid (∀ v, v < b → nth C v = nth C 0) := by rw [← hC]; exact HE.out
          rw [hC] at hrk
          clear hC HE HF
          obtain ⟨wo, hwo⟩ : ∃ W : World, W = wr := ⟨_, rfl⟩
          subst hwo
          have hgo := hrk.lt.2
          go_wp2
          go_loopw [23] (fun i wr => ∃ k : Nat, 1 ≤ k ∧ k ≤ b ∧ i = .int .i64 k ∧ Below wo.heap.size wo wr) (fun i _ => b - (intOf i).toNat)
          case atStart => exact ⟨1, Nat.le_refl _, b1, rfl, Below.refl _ _⟩
          case round =>
            obtain ⟨k, hk1, hk, rfl, hbr⟩ := hrel
            by_cases hlt : k < b
            · have hki : (k : Int) < (b : Int) := by omega
              have hb0 : (0 : Int) < (b : Int) := by omega
              have hrr := hrk.kept hbr hgo
              have hck := hrr.cell hlt
              have hc0 := hrr.cell (k := 0) (by omega)
              rw [HE'.out k hlt] at hck
              have hne : (nth C 0 != nth C 0) = false := by simp
              go_wp2
              go_quiet (fail)
              go_wp2
              go_roundw
              case rel => exact ⟨k + 1, by omega, by omega, by go_num, below_drewN hbr _⟩
              case measure => simp [intOf]; omega
            · go_wp2_with fail
              go_call (known_any _) as e wz ⟨rfl, hbz⟩
              go_wp2
              go_returns
              exact ⟨rfl, tr hbk (tr hbr hbz)⟩
end Go.Proofs.Ytagodfaclohkmaa
