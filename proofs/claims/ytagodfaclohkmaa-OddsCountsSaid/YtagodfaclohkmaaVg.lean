/-
  What chance and Lowest of the reference return.
-/
import Derived.Test.YtagodfaclohkmaaVf
import Derived.Test.YtagodfaclohkmaaT
import Derived.Laws.AppendOwn
import Derived.OwnWalk
namespace Go.Proofs.Ytagodfaclohkmaa
open Go.RowKit

set_option maxRecDepth 100000 in
set_option maxHeartbeats 1000000 in
theorem refChance_any (a b : Int) (w : World) (ha : 0 ≤ a) (hb : 1 ≤ b) (ha2 : a ≤ 9000000000000000) (hb2 : b ≤ 9000000000000000) :
    Calls Try.prog 63 #[.int .i64 a, .int .i64 b] w fun e w' => e = .returned (.agg #[.int .i64 (a / Int.gcd a b), .int .i64 (b / Int.gcd a b)]) ∧ Below w.heap.size w w' := by
  have hg := gcd_pos (a := a) hb
  go_enter Try.func63, Try.ntmps63
  go_wp2_with fail
  go_call (refDivisor_any a b _ ha (by omega) (by omega) (by omega)) as e w1 ⟨rfl, hb1⟩
  obtain ⟨g, hgg⟩ : ∃ g : Int, g = Int.gcd a b := ⟨_, rfl⟩
  rw [← hgg] at hg ⊢
  have Hg := Lib.hid hgg
  clear hgg
  have hz : ¬ g = 0 := by omega
  have e1 : IntKind.i64.wrap (a.tdiv g) = a / g := wdiv ha (by omega) hg
  have e2 : IntKind.i64.wrap (b.tdiv g) = b / g := wdiv (by omega) (by omega) hg
  have hf0 : w1.frozen? ⟨w.heap.size, 0, none⟩ = false := (hb1.frozen (p := ⟨w.heap.size, 0, none⟩) (by simp <;> omega)).trans (by go_simp)
  have hf1 : w1.frozen? ⟨w.heap.size, 1, none⟩ = false := (hb1.frozen (p := ⟨w.heap.size, 1, none⟩) (by simp <;> omega)).trans (by go_simp)
  have hc0 : w1.cell? ⟨w.heap.size, 0, none⟩ = some (.int .i64 0) := (hb1.cell (p := ⟨w.heap.size, 0, none⟩) (by simp <;> omega)).trans (by go_simp)
  have hc1 : w1.cell? ⟨w.heap.size, 1, none⟩ = some (.int .i64 0) := (hb1.cell (p := ⟨w.heap.size, 1, none⟩) (by simp <;> omega)).trans (by go_simp)
  go_wp2
  go_still_tail 7, (by kernel_rfl)
  go_wp2
  have h0 : (w1.setCell ⟨w.heap.size, 0, none⟩ (.int .i64 (a / g))).cell? ⟨w.heap.size, 0, none⟩ = some (.int .i64 (a / g)) := World.cell?_setCell_same' _ _ _ (by rw [hc0]; rfl)
  have h1 : ((w1.setCell ⟨w.heap.size, 0, none⟩ (.int .i64 (a / g))).setCell ⟨w.heap.size, 1, none⟩ (.int .i64 (b / g))).cell? ⟨w.heap.size, 1, none⟩ = some (.int .i64 (b / g)) := World.cell?_setCell_same' _ _ _ (by go_simp)
  refine bodyPost_ret (v := .agg #[.int .i64 (a / g), .int .i64 (b / g)]) (by simp [results, Try.results63, go_sem, h0, h1]) rfl ⟨by rw [Hg.out], ?_⟩
  exact (((((Below.refl _ w).alloc (Nat.le_refl _) _).trans (hb1.mono (by simp))).setCell (Nat.le_refl _) _).setCell (Nat.le_refl _) _).drew

theorem upto_all (f : Int → Int) (xs : List Int) : upto (fun j => f (nth xs j)) xs.length = xs.map f := by
  unfold upto; exact fill_map f xs

set_option maxRecDepth 100000 in
set_option maxHeartbeats 2000000 in
theorem refLowest_any (p : Option Addr) (xs : List Int) (c : Nat) (w : World) (hl : xs.length ≤ 4096) (hs : Small xs) (hg1 : 1 ≤ gcdl xs) (hR : Reads w p xs) :
    Calls Try.prog 28 #[.slice p xs.length c] w fun e w' => (∃ p' c', e = .returned (.slice p' (low xs).length c') ∧ Reads w' p' (low xs)) ∧ Below w.heap.size w w' := by
  obtain ⟨i0, hi, hz0, hz1, hz2⟩ := info_parts info_int
  obtain ⟨d, hd⟩ : ∃ d, gcdl xs = d := ⟨_, rfl⟩
  have Hlow : Hid (low xs = xs.map (· / d)) := by show _ = _; unfold low; rw [hd]
  rw [hd] at hg1
  have Hd := Lib.hid hd
  clear hd
  go_enter Try.func28, Try.ntmps28
  go_wp2
  go_loopw [3, 4] (fun g i wr => ∃ k : Nat, k ≤ xs.length ∧ i = .int .i64 k ∧ g = .int .i64 (gcdTo xs k) ∧ 0 ≤ gcdTo xs k ∧ gcdTo xs k ≤ 1000000000000000 ∧ Below w.heap.size w wr) (fun _ i _ => xs.length - (intOf i).toNat)
  case atStart => exact ⟨0, Nat.zero_le _, rfl, by rw [gcdTo_zero], by rw [gcdTo_zero]; omega, by rw [gcdTo_zero]; omega, Below.refl _ _⟩
  case round =>
    obtain ⟨k, hk, rfl, rfl, hg0, hg2, hb⟩ := hrel
    by_cases hlt : k < xs.length
    · obtain ⟨q, o, rfl, hcell⟩ := hR.below hb (Nat.le_refl _) k hlt
      have hki : (k : Int) < (xs.length : Int) := by omega
      obtain ⟨x1, x2⟩ := hs k hlt
      have Hs := Lib.hid (gcdTo_succ hlt)
      have hle : (Int.gcd (gcdTo xs k) (nth xs k) : Int) ≤ 1000000000000000 := by
        by_cases h : gcdTo xs k = 0
        · rw [h, Int.gcd_zero_left]; omega
        · have := Int.le_of_dvd (by omega) (Int.gcd_dvd_left (gcdTo xs k) (nth xs k)); omega
      have Hle := Lib.hid hle
      clear hle
      go_wp2_with fail
      go_call (refDivisor_any (gcdTo xs k) (nth xs k) wr hg0 x1 (by omega) (by omega)) as e w1 ⟨rfl, hb1⟩
      go_wp2
      go_roundw
      case rel => exact ⟨k + 1, by omega, by go_num, by rw [Hs.out], by rw [Hs.out]; omega, by rw [Hs.out]; exact Hle.out, hb.trans (hb1.mono hb.size)⟩
      case measure => simp [intOf]; omega
    · obtain rfl : k = xs.length := by omega
      have hgd : gcdTo xs xs.length = d := by rw [gcdTo_all, Hd.out]
      rw [hgd]
      clear hgd hg0 hg2
      have hO := empty_owns wr
      have hB1 : Below w.heap.size w (wr.alloc (.cells #[] 3)) := hb.alloc hb.size _
      have hbs := hb.size
      have hz : ¬ d = 0 := by omega
      obtain ⟨wq, rfl⟩ : ∃ wq : World, wq = wr := ⟨_, rfl⟩
      go_wp2
      go_loopw [5, 6] (fun v i wr => ∃ k : Nat, k ≤ xs.length ∧ i = .int .i64 k ∧ wr.ownsRow wq.heap.size 3 1 v k ((upto (fun j => nth xs j / d) k).map (Value.int .i64)) ∧ Below w.heap.size w wr ∧ wq.heap.size ≤ wr.heap.size) (fun _ i _ => xs.length - (intOf i).toNat)
      case atStart => exact ⟨0, Nat.zero_le _, rfl, hO, hB1, by simp⟩
      case round =>
        obtain ⟨k, hk, rfl, hown, hbr, hsz⟩ := hrel
        by_cases hlt2 : k < xs.length
        · obtain ⟨q, o, rfl, hcell⟩ := hR.below hbr (Nat.le_refl _) k hlt2
          have hki : (k : Int) < (xs.length : Int) := by omega
          obtain ⟨x1, x2⟩ := hs k hlt2
          have e1 : IntKind.i64.wrap ((nth xs k).tdiv d) = nth xs k / d := wdiv x1 (by omega) hg1
          have E1 := Lib.hid e1
          go_wp2_with (at_builtin; refine wpList_append_own _ rfl _ _ 22 rfl wq.heap.size 3 i0 (.int .i64 0) 1 8 Try.underlying22 hi hz0 hz1 hz2 rfl (by decide) _ _ _ rfl (hown.alloc _) ⟨wr.heap.size, 0, none⟩ 1 1 [.int .i64 (nth xs k / d)] rfl rfl ?c1 ?c2 ?c3 ?c4 ?c5 ?_)
          case c1 =>
            intro j u hj
            rcases j with _ | j
            · have hu : u = .int .i64 (nth xs k / d) := by simpa using hj.symm
              subst hu
              rw [Go.WideShapes.add_plain, World.cell?_alloc_at _ _ _ _ rfl]
              simp
            · simp at hj
          case c2 =>
            intro u hu
            have hu : u = .int .i64 (nth xs k / d) := by simpa using hu
            subst hu
            rfl
          case c3 => unfold maxLen; omega
          case c4 => omega
          case c5 => simp; omega
          intro v' w1 hown' hgrow _
          go_wp2
          go_roundw
          case rel =>
            refine ⟨k + 1, by omega, by go_num, ?_, ?_, ?_⟩
            · rw [upto_succ, List.map_append]; exact hown'
            · exact (hbr.alloc hbr.size _).grown hgrow (by simp; omega) (fun k e => by
                have h9 := (hown.lt k e)
                omega)
            · have := hgrow.size
              simp at this
              omega
          case measure => simp [intOf]; omega
        · obtain rfl : k = xs.length := by omega
          have hG : Got wr _ _ := Got.of_owns hown
          obtain ⟨p', c', rfl, hr⟩ := hG
          rw [upto_all (· / d) xs] at hr
          go_wp2
          go_ret
          refine ⟨⟨p', c', ?_, ?_⟩, hbr⟩
          · rw [Hlow.out, upto_all (· / d) xs]; rfl
          · rw [Hlow.out]; exact hr
end Go.Proofs.Ytagodfaclohkmaa
