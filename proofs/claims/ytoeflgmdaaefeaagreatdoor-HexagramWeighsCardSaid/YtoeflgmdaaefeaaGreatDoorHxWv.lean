/-
  The reference of chapter 4: weights in lowest terms, and those of first hexagrams.
-/
import Derived.Test.YtoeflgmdaaefeaaGreatDoorHxWu0
import Derived.Test.YtoeflgmdaaefeaaGreatDoorHxCi
import Derived.Deep.RegionHeld3
namespace Go.Proofs.YtoeflgmdaaefeaaGreatDoor
open Go Go.RowKit
set_option linter.unusedVariables false

theorem empty_ownsI (w : World) : (w.alloc (.cells #[] 3)).ownsRow w.heap.size 3 1 (.slice (some ⟨w.heap.size, 0, none⟩) 0 0) 0 ((upto (fun j => (0 : Int)) 0).map (Value.int .i64)) := none_ownsI w
theorem upto_all (f : Int → Int) (xs : List Int) : upto (fun j => f (nth xs j)) xs.length = xs.map f := by
  unfold upto; exact fill_map f xs
theorem wdivI {a b : Int} (ha : 0 ≤ a) (ha2 : a ≤ 9223372036854775807) (hb : 1 ≤ b) : IntKind.i64.wrap (a.tdiv b) = a / b := by
  rw [Int.tdiv_eq_ediv_of_nonneg ha]
  have h1 : a / b ≤ a := Int.ediv_le_self _ ha
  have h2 : 0 ≤ a / b := Int.ediv_nonneg ha (by omega)
  exact IntWalk.i64_in _ (by omega)
set_option maxRecDepth 100000 in
set_option maxHeartbeats 2000000 in
theorem refLowest_any (p : Option Addr) (xs : List Int) (n c : Nat) (w : World) (hn : Hid (xs.length = n)) (hl : n ≤ 4096) (hs : Hid (∀ k, k < n → 0 ≤ nth xs k ∧ nth xs k ≤ 9000000000000000000)) (hg1 : 1 ≤ gcdl xs) (hR : Reads w p xs) :
    Calls Tryz.prog 18 #[.slice p n c] w fun e w' => (∃ p' c', e = .returned (.slice p' n c') ∧ Reads w' p' (low xs)) ∧ Below w.heap.size w w' := by
  obtain ⟨i0, hi, hz0, hz1, hz2⟩ := info_parts info_int
  obtain ⟨d, hd⟩ : ∃ d, gcdl xs = d := ⟨_, rfl⟩
  have Hlow : Hid (low xs = xs.map (· / d)) := by show _ = _; unfold low; rw [hd]
  rw [hd] at hg1
  have Hd := Lib.hid hd
  clear hd
  go_enter Tryz.func18, Tryz.ntmps18
  go_wp2
  go_loopw [3, 4] (fun g i wr => ∃ k : Nat, k ≤ n ∧ i = .int .i64 k ∧ (∃ G, g = .int .i64 G ∧ Hid (gcdTo xs k = G) ∧ 0 ≤ G ∧ G ≤ 9000000000000000000) ∧ Below w.heap.size w wr) (fun _ i _ => n - (intOf i).toNat)
  case atStart => exact ⟨0, Nat.zero_le _, rfl, ⟨0, rfl, Lib.hid (gcdTo_zero _), by omega, by omega⟩, Below.refl _ _⟩
  case round =>
    obtain ⟨k, hk, rfl, ⟨G, rfl, HG, g0, g2⟩, hb⟩ := hrel
    by_cases hlt : k < n
    · obtain ⟨q, o, rfl, hcell⟩ := hR.below hb (Nat.le_refl _) k (by have := hn.out; omega)
      have hki : (k : Int) < (n : Int) := by omega
      obtain ⟨x1, x2⟩ := hs.out k hlt
      obtain ⟨x, hx⟩ : ∃ x, nth xs k = x := ⟨_, rfl⟩
      rw [hx] at hcell x1 x2
      have hG' : gcdTo xs (k + 1) = (Int.gcd G x : Int) := by rw [gcdTo_succ (by have := hn.out; omega), HG.out, hx]
      have HG' := Lib.hid hG'
      have HG2 := Lib.hid (show gcdTo xs (k + 1) ≤ 9000000000000000000 from by
        rw [hG']
        by_cases h : G = 0
        · rw [h, Int.gcd_zero_left]; omega
        · have := Int.le_of_dvd (by omega) (Int.gcd_dvd_left G x); omega)
      clear hx hG'
      have hbs := hb.size
      obtain ⟨wq, hwq⟩ : ∃ wq : World, wq = wr := ⟨_, rfl⟩
      go_wp2
      go_loopw [5, 6] (fun a b wz => (∃ A B : Int, a = .int .i64 A ∧ b = .int .i64 B ∧ Hid (Int.gcd A B = Int.gcd G x) ∧ 0 ≤ A ∧ A ≤ 9000000000000000000 ∧ 0 ≤ B ∧ B ≤ 9000000000000000000) ∧ Below w.heap.size w wz) (fun _ b _ => (intOf b).toNat)
      case atStart => exact ⟨⟨x, G, rfl, rfl, Lib.hid (Int.gcd_comm x G), x1, x2, g0, g2⟩, hb⟩
      case round =>
        obtain ⟨⟨A, B, rfl, rfl, HE, a0, a1, b0, b1⟩, hbz⟩ := hrel
        by_cases hB : B = 0
        · subst hB
          have HE2 := Lib.hid (show (A : Int) = gcdTo xs (k + 1) by rw [HG'.out, ← HE.out]; simp; omega)
          go_wp2
          go_roundw
          case rel => exact ⟨k + 1, by omega, by go_num, ⟨A, rfl, Lib.hid HE2.out.symm, a0, a1⟩, hbz⟩
          case measure => simp [intOf]; omega
        · have hB2 : 0 < B := by omega
          have e1 : A.tmod B = A % B := Int.tmod_eq_emod_of_nonneg a0
          have m0 := Int.emod_nonneg A (show B ≠ 0 by omega)
          have m1 := Int.emod_lt_of_pos A hB2
          have HE3 := Lib.hid (gcd_step A B a0 hB2)
          obtain ⟨R, hr⟩ : ∃ R, A % B = R := ⟨_, rfl⟩
          rw [hr] at e1 m0 m1 HE3
          clear hr
          have e2 : IntKind.i64.wrap (A.tmod B) = R := by rw [e1]; exact IntWalk.i64_in _ (by omega)
          go_wp2
          go_quiet (fail)
          go_wp2
          go_roundw
          case rel => exact ⟨⟨B, R, rfl, rfl, Lib.hid (HE3.out.trans HE.out), b0, b1, m0, by omega⟩, below_drewN hbz _⟩
          case measure => simp [intOf]; omega
    · obtain rfl : k = n := by omega
      have hgd : G = d := by rw [← HG.out, ← Hd.out, ← hn.out, gcdTo_all]
      subst hgd
      have hO := none_ownsI wr
      have hB1 : Below w.heap.size w (wr.alloc (.cells #[] 3)) := hb.alloc hb.size _
      have hbs := hb.size
      have hz : ¬ G = 0 := by omega
      clear HG
      obtain ⟨wq, rfl⟩ : ∃ wq : World, wq = wr := ⟨_, rfl⟩
      go_wp2
      go_loopw [7, 8] (fun v i wr => ∃ m : Nat, m ≤ k ∧ i = .int .i64 m ∧ wr.ownsRow wq.heap.size 3 1 v m ((upto (fun j => nth xs j / G) m).map (Value.int .i64)) ∧ Below w.heap.size w wr ∧ wq.heap.size ≤ wr.heap.size) (fun _ i _ => k - (intOf i).toNat)
      case atStart => exact ⟨0, Nat.zero_le _, rfl, hO, hB1, by simp⟩
      case round =>
        obtain ⟨m, hm, rfl, hown, hbr, hsz⟩ := hrel
        by_cases hlt2 : m < k
        · obtain ⟨q, o, rfl, hcell⟩ := hR.below hbr (Nat.le_refl _) m (by have := hn.out; omega)
          have hki : (m : Int) < (k : Int) := by omega
          obtain ⟨x1, x2⟩ := hs.out m hlt2
          have e1 : IntKind.i64.wrap ((nth xs m).tdiv G) = nth xs m / G := wdivI x1 (by omega) hg1
          have E1 := Lib.hid e1
          go_wp2_with (at_builtin; refine wpList_append_own _ rfl _ _ 22 rfl wq.heap.size 3 i0 (.int .i64 0) 1 8 Tryz.underlying22 hi hz0 hz1 hz2 rfl (by decide) _ _ _ rfl (hown.alloc _) ⟨wr.heap.size, 0, none⟩ 1 1 [.int .i64 (nth xs m / G)] rfl rfl ?c1 ?c2 ?c3 ?c4 ?c5 ?_)
          case c1 =>
            intro j u hj
            rcases j with _ | j
            · have hu : u = .int .i64 (nth xs m / G) := by simpa using hj.symm
              subst hu
              rw [Go.WideShapes.add_plain, World.cell?_alloc_at _ _ _ _ rfl]
              simp
            · simp at hj
          case c2 =>
            intro u hu
            have hu : u = .int .i64 (nth xs m / G) := by simpa using hu
            subst hu
            rfl
          case c3 => unfold maxLen; omega
          case c4 => omega
          case c5 => simp; omega
          intro v' w1 hown' hgrow _
          go_wp2
          go_roundw
          case rel =>
            refine ⟨m + 1, by omega, by go_num, ?_, ?_, ?_⟩
            · rw [upto_succ, List.map_append]; exact hown'
            · exact (hbr.alloc hbr.size _).grown hgrow (by simp; omega) (fun k e => by
                have h9 := (hown.lt k e)
                omega)
            · have := hgrow.size
              simp at this
              omega
          case measure => simp [intOf]; omega
        · obtain rfl : m = k := by omega
          have hG : Got wr _ _ := Got.of_owns hown
          obtain ⟨p', c', rfl, hr⟩ := hG
          have e0 : upto (fun j => nth xs j / G) m = low xs := by rw [Hlow.out, ← hn.out]; exact upto_all (· / G) xs
          rw [e0] at hr
          have e1 : (low xs).length = m := by rw [Hlow.out]; simpa using hn.out
          rw [e0, e1]
          clear e0 e1
          go_wp2
          go_ret
          exact ⟨⟨p', c', rfl, hr⟩, hbr⟩
end Go.Proofs.YtoeflgmdaaefeaaGreatDoor
