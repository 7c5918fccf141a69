/-
  HabitDecks: what casts yields at a deck.
-/
import Derived.Test.YtahmhdjoaoldcaaHbY
import Derived.Test.YtahmhdjoaoldcaaHbI
import Derived.Handy
namespace Go.Proofs.Ytahmhdjoaoldcaa
open Go Go.RowKit Go.Shelf
set_option linter.unusedVariables false
set_option linter.unusedSimpArgs false

/-- The number that the chance of a cast has over its bar, ahead of shortening. -/
def upC (row xs : List Int) (n0 k : Nat) : Int := max 0 (nth row (nth xs k).toNat - nth (drawnTo xs n0 k) (nth xs k).toNat)
/-- The chance of a cast, as it is yielded. -/
def encC (row xs : List Int) (S : Int) (n0 k : Nat) : Array Value :=
  #[.agg #[.int .i64 (upC row xs n0 k / Int.gcd (upC row xs n0 k) (S - (k % n0 : Nat))), .int .i64 ((S - (k % n0 : Nat)) / Int.gcd (upC row xs n0 k) (S - (k % n0 : Nat)))]]

set_option maxRecDepth 100000 in
set_option maxHeartbeats 8000000 in
theorem casts1_in (n : Nat) (hn : 1 ≤ n) (l Bm Bl pr q o : Nat) (row xs : List Int) (m cr nl cl n0 : Nat) (pl : Option Addr) (S : Int) (w0 : World) (hm : ModB w0 Bm pr (n0 : Int)) (hbm : Bm < w0.heap.size) (hbl : Bl < w0.heap.size) (hpr : pr < w0.heap.size) (hq : q < w0.heap.size)
    (hcl : w0.cell? ⟨Bl, 0, none⟩ = some (.slice pl nl cl)) (hp : w0.cell? ⟨pr, 0, none⟩ = some (.slice (some ⟨q, o, none⟩) m cr)) (hR : Reads w0 (some ⟨q, o, none⟩) row) (hRl : Reads w0 pl xs)
    (hx : Hid (row.length = m)) (hxl : Hid (xs.length = nl)) (hm32 : m ≤ 32) (hnl : nl ≤ 400) (hK0 : Hid (chk1 row = 0)) (hS : Hid (lsum row = S)) (hn0 : 1 ≤ n0) (hn0S : (n0 : Int) ≤ S) (hS2 : S ≤ 100000) (hr : Hid (InReg xs m)) (hrow : Hid (∀ j, 0 ≤ nth row j ∧ nth row j ≤ 1000)) (J Jx : List Nat → World → Prop)
    (hY : ∀ pre x W, J pre W → pre.length < nl → YieldAt Fence.wide (n - 1) Try.prog l (encC row xs S n0 x) W fun e W' =>
      (e = .returned (.bool true) ∧ J (pre ++ [x]) W' ∧ Below w0.heap.size W W') ∨ (e = .returned (.bool false) ∧ Jx (pre ++ [x]) W'))
    (W : World) (hW : Below w0.heap.size w0 W) (hJ : AbidesFrom W.heap.size J) (h0 : J [] W) :
    CallsIn Fence.wide n Try.prog 51 #[.func (.yield l) #[] #[], .pointer (some ⟨Bm, 0, none⟩), .pointer (some ⟨Bl, 0, none⟩)] W fun e W' => (∃ v, e = .returned v) ∧
      ((∃ ys, ys = upto id nl ∧ J ys W') ∨ (∃ pre, True ∧ Jx pre W')) := by
  obtain ⟨m0, m1, m2⟩ := hm.below hW hbm
  have hcl1 := (hW.cell (p := ⟨Bl, 0, none⟩) hbl).trans hcl
  have hp1 := (hW.cell (p := ⟨pr, 0, none⟩) hpr).trans hp
  have hR1 := hR.below hW (Nat.le_refl _)
  have hs1 := hW.size
  refine callsIn_of_wp Try.func51 rfl trivial ?_ rfl
  simp only [Try.ntmps51, List.size_toArray, List.length_cons, List.length_nil, Nat.reduceAdd, Nat.reduceSub, Array.replicate_succ, Array.replicate_zero, List.push_toArray, List.append_toArray, List.nil_append, List.cons_append]
  gi_wp2_with fail
  refine ⟨trivial, ?_⟩
  refine (callsIn_wide.2 (startH_any pr (n0 : Int) (some ⟨q, o, none⟩) row m cr hx hm32 hK0 S hS _ (by omega) hp1 hR1)).mono ?_
  rintro e w1 ⟨rfl, hb1⟩
  have hB1 := hW.trans (hb1.mono hs1)
  have hJ1 : J [] w1 := hJ _ W w1 none h0 ⟨hb1.os, hb1.tape, hb1.output, hb1.size, fun k hk _ => hb1.block k hk⟩ (fun r e => by cases e)
  have hcl2 := (hB1.cell (p := ⟨Bl, 0, none⟩) hbl).trans hcl
  have hsW := hb1.size
  clear m0 m1 m2 hcl1 hp1 hR1 hb1
  gi_wp2
  gi_loopw [4, 11] (fun cs i wx => ∃ k : Nat, k ≤ nl ∧ i = .int .i64 (k : Int) ∧ cs = .iface 120 (DeckV (some ⟨q, o, none⟩) m cr S (n0 : Int) ((k % n0 : Nat) : Int) (drawnTo xs n0 k)) ∧ J (upto id k) wx ∧ Below w0.heap.size w0 wx ∧ W.heap.size ≤ wx.heap.size) (fun _ i _ => nl - (intOf i).toNat)
  case atStart => exact ⟨0, by omega, rfl, by simp [drawnTo], hJ1, hB1, hsW⟩
  case round =>
    obtain ⟨k, hk, rfl, rfl, hJk, hb, hsz⟩ := hrel
    by_cases hlt : k < nl
    · obtain ⟨ql, ol, rfl, hcell⟩ := (hRl.below hb (Nat.le_refl _)) k (by rw [hxl.out]; exact hlt)
      have hin := hr.out k (by rw [hxl.out]; exact hlt)
      obtain ⟨x, hxk⟩ : ∃ x : Nat, nth xs k = x := ⟨(nth xs k).toNat, by omega⟩
      have hxm : x < m := by omega
      have hxt : (nth xs k).toNat = x := by omega
      have hml := Nat.mod_lt k (show n0 > 0 by omega)
      have hdb := drawnTo_bd hr.out hm32 hn0 k (by rw [hxl.out]; omega) x (by omega)
      have hdn := mod_next (i := k) hn0
      have hDl := Lib.hid (drawnTo_len xs n0 k)
      have hDn : drawnTo xs n0 (k + 1) = if k % n0 + 1 = n0 then List.replicate 32 0 else incL (drawnTo xs n0 k) x := by rw [drawnTo, hxt]
      obtain ⟨D, hDD⟩ : ∃ D, drawnTo xs n0 k = D := ⟨_, rfl⟩
      obtain ⟨y, hy⟩ : ∃ y, nth row x = y := ⟨_, rfl⟩
      obtain ⟨d, hd⟩ : ∃ d, nth D x = d := ⟨_, rfl⟩
      obtain ⟨M, hM⟩ : ∃ M, max 0 (y - d) = M := ⟨_, rfl⟩
      obtain ⟨r0, hr0⟩ : ∃ r0, k % n0 = r0 := ⟨_, rfl⟩
      obtain ⟨T, hT⟩ : ∃ T, S - (r0 : Int) = T := ⟨_, rfl⟩
      obtain ⟨g, hg⟩ : ∃ g : Int, (Int.gcd M T : Int) = g := ⟨_, rfl⟩
      have HE := Lib.hid (show encC row xs S n0 k = #[.agg #[.int .i64 (M / g), .int .i64 (T / g)]] by unfold encC upC; rw [hxt, hDD, hy, hd, hM, hr0, hT, hg])
      rw [hDD] at hDl hDn hdb
      rw [hd] at hdb
      rw [hr0] at hml hdn hDn
      have hyb := hrow.out x
      rw [hy] at hyb
      rw [hxk] at hcell
      have HDn := Lib.hid hDn
      have Hdn := Lib.hid hdn
      have Hr0 := Lib.hid hr0
      have HDD := Lib.hid hDD
      have hkl : (k : Int) < (nl : Int) := by omega
      rw [hDD, hr0]
      clear hDn hdn hr0 hDD hxt hxk hin
      gi_wp2_with fail
      go_invoke
      go_simp
      gi_wp2_with fail
      refine ⟨trivial, ?_⟩
      refine (callsIn_wide.2 (chanceD_any q o row m cr hx S (n0 : Int) (r0 : Int) D hDl x hxm hm32 y d M T g hy hd hyb ⟨hdb.1, by omega⟩ hM hT (by omega) (by omega) hg _ (by have := hb.size; omega) (hR.below hb (Nat.le_refl _)))).mono ?_
      rintro e w2 ⟨rfl, hb2⟩
      have hs2 := hb.size
      have hB2 := hb.trans (hb2.mono hs2)
      have hJ2 : J (upto id k) w2 := hJ _ wr w2 none hJk ⟨hb2.os, hb2.tape, hb2.output, hb2.size, fun k hk _ => hb2.block k hk⟩ (fun r e => by cases e)
      have hsz2 : W.heap.size ≤ w2.heap.size := Nat.le_trans hsz hb2.size
      have HKN := Lib.hid (show k + 1 ≤ nl from hlt)
      have HU := Lib.hid (show upto id k ++ [k] = upto id (k + 1) from (upto_succ id k).symm)
      obtain ⟨fn, tmps, assign, body, hyy, hR'⟩ := hY (upto id k) k w2 hJ2 (by rw [upto_length]; exact hlt)
      rw [HE.out] at hyy
      obtain ⟨N1, hN1⟩ : ∃ N1, M / g = N1 := ⟨_, rfl⟩
      obtain ⟨N2, hN2⟩ : ∃ N2, T / g = N2 := ⟨_, rfl⟩
      rw [hN1, hN2] at hyy ⊢
      have HRD := Lib.hid (show 0 ≤ nth D x ∧ nth D x ≤ 400 by omega)
      clear HE hN1 hN2 hcell hJk hb hb2 hJ2 hs2 hM hT hg hy hd
      gi_wp2
      refine hR'.mono ?_
      rintro e W3 (⟨rfl, hJ3, hk3⟩ | ⟨rfl, hJx3⟩)
      · clear hyy hR'
        have hB3 := hB2.trans hk3
        have hsz3 : W.heap.size ≤ W3.heap.size := Nat.le_trans hsz2 hk3.size
        gi_wp2_with fail
        go_invoke
        go_simp
        gi_wp2_with fail
        refine ⟨trivial, ?_⟩
        by_cases hc : r0 + 1 = n0
        · have e1 := Hdn.out
          have e2 := HDn.out
          rw [if_pos hc] at e1 e2
          have E1 := Lib.hid e1
          have E2 := Lib.hid e2
          clear e1 e2
          refine (callsIn_wide.2 (behindD_new (some ⟨q, o, none⟩) m cr S (n0 : Int) (r0 : Int) D hDl (x : Int) (by omega) ⟨by omega, by omega⟩ _)).mono ?_
          rintro e w4 ⟨rfl, hb4⟩
          have hB4 := hB3.trans (hb4.mono hB3.size)
          have hsz4 : W.heap.size ≤ w4.heap.size := Nat.le_trans hsz3 hb4.size
          have hJ4 := hJ _ W3 w4 none hJ3 ⟨hb4.os, hb4.tape, hb4.output, hb4.size, fun k hk _ => hb4.block k hk⟩ (fun r e => by cases e)
          clear hb4 hJ3 hB3 hc HRD
          gi_wp2
          go_roundw
          case rel => exact ⟨k + 1, HKN.out, by first | rfl | go_num, by rw [E1.out, E2.out]; rfl, by rw [← HU.out]; exact hJ4, hB4, hsz4⟩
          case measure => simp [intOf]; omega
        · have e1 := Hdn.out
          have e2 := HDn.out
          rw [if_neg hc] at e1 e2
          have E1 := Lib.hid e1
          have E2 := Lib.hid e2
          clear e1 e2
          refine (callsIn_wide.2 (behindD_next (some ⟨q, o, none⟩) m cr S (n0 : Int) (r0 : Int) ((r0 + 1 : Nat) : Int) D hDl x (by omega) (by omega) (by omega) ⟨by omega, by omega⟩ _ rfl ⟨by have := HRD.out; omega, by have := HRD.out; omega⟩ _)).mono ?_
          rintro e w4 ⟨rfl, hb4⟩
          have hB4 := hB3.trans (hb4.mono hB3.size)
          have hsz4 : W.heap.size ≤ w4.heap.size := Nat.le_trans hsz3 hb4.size
          have hJ4 := hJ _ W3 w4 none hJ3 ⟨hb4.os, hb4.tape, hb4.output, hb4.size, fun k hk _ => hb4.block k hk⟩ (fun r e => by cases e)
          clear hb4 hJ3 hB3 hc HRD
          gi_wp2
          go_roundw
          case rel => exact ⟨k + 1, HKN.out, by first | rfl | go_num, by rw [E1.out, E2.out]; rfl, by rw [← HU.out]; exact hJ4, hB4, hsz4⟩
          case measure => simp [intOf]; omega
      · clear hyy hR'
        gi_wp2
        refine bodyPost_ret (results_none rfl _ _ _) rfl ?_
        exact ⟨⟨_, rfl⟩, .inr ⟨_, trivial, hJx3⟩⟩
    · have hkn : k = nl := by omega
      have HK := Lib.hid hkn
      have hkl : (nl : Int) ≤ (k : Int) := by omega
      clear hkn
      gi_wp2
      go_end0
      exact ⟨⟨_, rfl⟩, .inl ⟨_, rfl, by rw [← HK.out]; exact hJk⟩⟩
end Go.Proofs.Ytahmhdjoaoldcaa
