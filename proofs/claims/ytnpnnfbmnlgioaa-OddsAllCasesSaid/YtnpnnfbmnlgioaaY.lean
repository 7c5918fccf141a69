/-
  What Either of package odds returns for valid chances of small denominators.
-/
import Derived.Test.YtnpnnfbmnlgioaaX
import Derived.Deep.DeepCutAuto
namespace Go.Proofs.Ytnpnnfbmnlgioaa
open Go.RowKit

theorem free_new1 (w : World) (x y : Value) (t : TypeId) : (w.alloc (.cells #[x, y] t)).cell? ⟨w.heap.size, 0, none⟩ = some x ∧ (w.alloc (.cells #[x, y] t)).cell? ⟨w.heap.size, 1, none⟩ = some y ∧ (w.alloc (.cells #[x, y] t)).frozen? ⟨w.heap.size, 0, none⟩ = false ∧ (w.alloc (.cells #[x, y] t)).frozen? ⟨w.heap.size, 1, none⟩ = false := by
  refine ⟨?_, ?_, ?_, ?_⟩ <;> go_simp

theorem new_after {v w w' : World} {x y : Value} {t : TypeId} (hv : Below v.heap.size v w) (hb : Below (w.alloc (.cells #[x, y] t)).heap.size (w.alloc (.cells #[x, y] t)) w') :
    v.heap.size ≤ w.heap.size ∧ w'.cell? ⟨w.heap.size, 0, none⟩ = some x ∧ w'.cell? ⟨w.heap.size, 1, none⟩ = some y ∧ w'.frozen? ⟨w.heap.size, 0, none⟩ = false ∧ w'.frozen? ⟨w.heap.size, 1, none⟩ = false := by
  obtain ⟨h0, h1, h2, h3⟩ := free_new1 w x y t
  exact ⟨hv.size, cell_tr hb h0, cell_tr hb h1, free_tr hb h0 h2, free_tr hb h1 h3⟩
theorem new_after_d {w w' : World} {x y : Value} {t : TypeId} (hb : Below (w.alloc (.cells #[x, y] t)).drew.heap.size (w.alloc (.cells #[x, y] t)).drew w') :
    w.heap.size ≤ w.heap.size ∧ w'.cell? ⟨w.heap.size, 0, none⟩ = some x ∧ w'.cell? ⟨w.heap.size, 1, none⟩ = some y ∧ w'.frozen? ⟨w.heap.size, 0, none⟩ = false ∧ w'.frozen? ⟨w.heap.size, 1, none⟩ = false :=
  new_after (v := w) (w := w.drew) ((Below.refl _ _).drew) hb
theorem new_again {w w' : World} {b : Nat} {x y : Value} (h0 : w.cell? ⟨b, 0, none⟩ = some x) (h1 : w.cell? ⟨b, 1, none⟩ = some y) (h2 : w.frozen? ⟨b, 0, none⟩ = false) (h3 : w.frozen? ⟨b, 1, none⟩ = false) (hb : Below w.heap.size w w') :
    w'.cell? ⟨b, 0, none⟩ = some x ∧ w'.cell? ⟨b, 1, none⟩ = some y ∧ w'.frozen? ⟨b, 0, none⟩ = false ∧ w'.frozen? ⟨b, 1, none⟩ = false :=
  ⟨cell_tr hb h0, cell_tr hb h1, free_tr hb h0 h2, free_tr hb h1 h3⟩
theorem cell_set2 {w : World} {a : Addr} {v : Value} {b : Nat} {x y : Value} (h : w.cell? a = some v) (hne : a.block < b) : ((w.setCell ⟨b, 0, none⟩ x).setCell ⟨b, 1, none⟩ y).cell? a = some v := by
  rw [World.cell?_of_block (Below.heap_setCell _ _ _ _ (by show a.block ≠ b; omega)), World.cell?_of_block (Below.heap_setCell _ _ _ _ (by show a.block ≠ b; omega))]
  exact h
theorem cell_set2_0 {w : World} {b : Nat} {x y u : Value} (h : w.cell? ⟨b, 0, none⟩ = some u) : ((w.setCell ⟨b, 0, none⟩ x).setCell ⟨b, 1, none⟩ y).cell? ⟨b, 0, none⟩ = some x := by
  have r := set0 x h
  go_simp
theorem cmp_words (N M : Int) (_hN : 0 ≤ N) (_hM : 0 ≤ M) : orI (cmpI (hi64 N) (hi64 M)) (cmpI (lo64 N) (lo64 M)) = cmpI N M := by
  unfold orI cmpI hi64 lo64
  by_cases h1 : N / 18446744073709551616 < M / 18446744073709551616
  · have h2 : N < M := by omega
    simp [h1, h2]
  · by_cases h3 : M / 18446744073709551616 < N / 18446744073709551616
    · have h4 : ¬ N < M := by omega
      have h5 : M < N := by omega
      simp [h1, h3, h4, h5]
    · rw [if_neg h1, if_neg h3, if_pos rfl]
      by_cases h4 : N < M
      · rw [if_pos h4, if_pos (by omega)]
      · rw [if_neg h4, if_neg (by omega)]
        by_cases h5 : M < N
        · rw [if_pos h5, if_pos (by omega)]
        · rw [if_neg h5, if_neg (by omega)]
theorem small_words (N : Int) (h : 0 ≤ N) (h2 : N ≤ 9000000000000000000) : hi64 N = 0 ∧ lo64 N = N := by unfold hi64 lo64; omega
theorem product_s (a b : Int) (w : World) (ha : 0 ≤ a) (hb : 1 ≤ b) (h : a ≤ 1000000000000000 / b) :
    Calls Try.prog 26 #[.int .i64 a, .int .i64 b, .int .i64 10] w fun e w' => e = .returned (.tuple #[.int .i64 (a * b), .int .i64 0]) ∧ w' = w :=
  (product_ok a b w ha hb h).mono fun _ _ ⟨h, k⟩ => ⟨h, k.symm⟩
theorem below_set2 {v w : World} {b : Nat} {x y : Value} (h : Below v.heap.size v w) (hb : v.heap.size ≤ b) : Below v.heap.size v ((w.setCell ⟨b, 0, none⟩ x).setCell ⟨b, 1, none⟩ y) := (h.setCell hb _).setCell hb _

set_option maxRecDepth 100000 in
set_option maxHeartbeats 8000000 in
theorem either_small (an ad bn bd : Int) (w : World) (ha : badC an ad = false) (hb : badC bn bd = false) (g p q num : Int) (hg : g = Int.gcd ad bd) (hp : p = ad / g) (hq : q = bd / g) (hnum : num = an * q + bn * p)
    (hsm : Hid (ad * q ≤ 9000000000000000000)) (hle : num ≤ ad * q) (by_ : Int) (hby : by_ = Int.gcd g (num % g)) (hden : p ≤ 1000000000000000 / (bd / by_)) (hnb : num / by_ ≤ 1000000000000000) :
    Calls Try.prog 9 #[.agg #[.int .i64 an, .int .i64 ad], .agg #[.int .i64 bn, .int .i64 bd]] w fun e w' => e = .returned (.tuple #[.agg #[.int .i64 (num / by_), .int .i64 (p * (bd / by_))], .int .i64 0]) ∧ Below w.heap.size w w' := by
  obtain ⟨a1, a2, a3, a4, a5⟩ := badC_ok ha
  obtain ⟨b1, b2, b3, b4, b5⟩ := badC_ok hb
  have g1 : 1 ≤ g := by rw [hg]; exact gcd_pos (a := ad) b1
  have Ha := Lib.hid ha
  have Hb := Lib.hid hb
  have Hg := Lib.hid hg
  have Hp := Lib.hid hp
  have Hq := Lib.hid hq
  have Hnum := Lib.hid hnum
  have Hby := Lib.hid hby
  clear ha hb hg hp hq hnum hby
  go_enter Try.func9, Try.ntmps9
  go_wp2_with fail
  go_call (chances2 (w.heap.size + 1 + 1 + 1) an ad bn bd _ (by go_simp) (by go_simp) (by go_simp) (by go_simp) Ha.out Hb.out) as e w1 ⟨rfl, hb1⟩
  have hB1 : Below w.heap.size w w1 := ((((below1 _ _).alloc (by simp) _).alloc (by simp; omega) _).alloc (by simp; omega) _).trans (hb1.mono (by simp; omega))
  have ka0 : w1.cell? ⟨w.heap.size, 0, none⟩ = some (.int .i64 an) := cell_tr hb1 (by go_simp)
  have ka1 : w1.cell? ⟨w.heap.size, 1, none⟩ = some (.int .i64 ad) := cell_tr hb1 (by go_simp)
  have kb0 : w1.cell? ⟨w.heap.size + 1, 0, none⟩ = some (.int .i64 bn) := cell_tr hb1 (by go_simp)
  have kb1 : w1.cell? ⟨w.heap.size + 1, 1, none⟩ = some (.int .i64 bd) := cell_tr hb1 (by go_simp)
  have kr0 : w1.cell? ⟨w.heap.size + 1 + 1, 0, none⟩ = some (.int .i64 0) := cell_tr hb1 (by go_simp)
  have kr1 : w1.cell? ⟨w.heap.size + 1 + 1, 1, none⟩ = some (.int .i64 0) := cell_tr hb1 (by go_simp)
  have fr0 : w1.frozen? ⟨w.heap.size + 1 + 1, 0, none⟩ = false := free_tr hb1 (v := .int .i64 0) (by go_simp) (by go_simp)
  have fr1 : w1.frozen? ⟨w.heap.size + 1 + 1, 1, none⟩ = false := free_tr hb1 (v := .int .i64 0) (by go_simp) (by go_simp)
  have hsz : w.heap.size + 3 < w1.heap.size := by have := hb1.size; simp at this; omega
  clear hb1
  go_wp2_with fail
  go_call (divisor2 ad bd w1.heap.size _ (by omega) (by omega) (by go_simp) (by go_simp)) as e w2 ⟨rfl, hb2⟩
  rw [← Hg.out]
  have hb2' := (below1 w1 (.cells #[.int .i64 ad, .int .i64 bd] 3)).trans (hb2.mono (by simp))
  have ja0 := cell_tr hb2' ka0
  have ja1 := cell_tr hb2' ka1
  have jb0 := cell_tr hb2' kb0
  have jb1 := cell_tr hb2' kb1
  have jr0 := cell_tr hb2' kr0
  have jr1 := cell_tr hb2' kr1
  have hr0 := free_tr hb2' kr0 fr0
  have hr1 := free_tr hb2' kr1 fr1
  have hB2 := tr hB1 hb2'
  clear hb2 ka0 ka1 kb0 kb1 kr0 kr1 fr0 fr1 hB1
  have hsz2 : w.heap.size + 3 < w2.heap.size := by have := hb2'.size; omega
  clear hb2'
  have hz : ¬ g = 0 := by omega
  have e1 : IntKind.i64.wrap (bd.tdiv g) = q := by rw [Hq.out]; exact wdiv (by omega) (by omega) g1
  have e2 : IntKind.i64.wrap (ad.tdiv g) = p := by rw [Hp.out]; exact wdiv (by omega) (by omega) g1
  have q0 : 0 ≤ q := by rw [Hq.out]; exact Int.ediv_nonneg (by omega) (by omega)
  have p0 : 0 ≤ p := by rw [Hp.out]; exact Int.ediv_nonneg (by omega) (by omega)
  have q1 : q ≤ bd := by rw [Hq.out]; exact Int.ediv_le_self _ (by omega)
  have p1 : p ≤ ad := by rw [Hp.out]; exact Int.ediv_le_self _ (by omega)
  have z1 : 0 ≤ an * q := Int.mul_nonneg a3 q0
  have z2 : 0 ≤ bn * p := Int.mul_nonneg b3 p0
  have Z3 : Hid (an * q ≤ 1000000000000000 * 1000000000000000) := Int.mul_le_mul (show an ≤ 1000000000000000 by omega) (show q ≤ 1000000000000000 by omega) q0 (by omega)
  have Z4 : Hid (bn * p ≤ 1000000000000000 * 1000000000000000) := Int.mul_le_mul (show bn ≤ 1000000000000000 by omega) (show p ≤ 1000000000000000 by omega) p0 (by omega)
  have hBd : Below w2.heap.size w2 w2.drew := (Below.refl _ _).drew
  have Hle2 : Hid (w.heap.size + 3 < w2.heap.size) := hsz2
  go_upto_region 5 with fail
  go_cut [8] (fun s8 wx => ∃ B : Nat, s8 = .pointer (some ⟨B, 0, none⟩) ∧ w2.heap.size ≤ B ∧ wx.cell? ⟨B, 0, none⟩ = some (.int .u64 (hi64 (an * q + bn * p))) ∧ wx.cell? ⟨B, 1, none⟩ = some (.int .u64 (lo64 (an * q + bn * p))) ∧ Below w2.heap.size w2 wx)
  case first =>
    go_region_held3 (fun w' => w'.cell? ⟨w.heap.size, 0, none⟩ = some (.int .i64 an) ∧ w'.cell? ⟨w.heap.size, 1, none⟩ = some (.int .i64 ad) ∧ w'.cell? ⟨w.heap.size + 1, 0, none⟩ = some (.int .i64 bn) ∧ w'.cell? ⟨w.heap.size + 1, 1, none⟩ = some (.int .i64 bd) ∧ Below w2.heap.size w2 w')
      (first
        | exact ⟨ja0, ja1, jb0, jb1, (Below.refl _ _).drew⟩
        | assumption
        | (go_split_ands
           try refine And.intro ?_ (And.intro ?_ (And.intro ?_ (And.intro ?_ ?_)))
           all_goals (first | assumption | exact (below1 w2 _).drew | exact tr hBp (below1 _ _) | (refine cell_tr hbk ?_; assumption) | (refine tr ?_ hbk; assumption) | (refine cell_tr (below1 _ _) ?_; assumption) | (refine tr ?_ (below1 _ _); assumption) | (refine cell_set2 ?_ ?_; assumption; (first | omega | (simp; omega))) | (refine below_set2 ?_ ?_; assumption; assumption)))) 
      (first
        | (go_at_call 23; refine (wideProduct_any _ _ _ (by omega) (by omega) (by omega) (by omega)).mono ?_; rintro e w' ⟨rfl, hbk⟩; go_split_ands; have hBp := tr (A := w2) (by assumption) hbk; have pa0 := cell_tr (a := ⟨w.heap.size, 0, none⟩) (v := .int .i64 an) hbk (by assumption); have pa1 := cell_tr (a := ⟨w.heap.size, 1, none⟩) (v := .int .i64 ad) hbk (by assumption); have pb0 := cell_tr (a := ⟨w.heap.size + 1, 0, none⟩) (v := .int .i64 bn) hbk (by assumption); have pb1 := cell_tr (a := ⟨w.heap.size + 1, 1, none⟩) (v := .int .i64 bd) hbk (by assumption); first | (have hn := new_after_d hbk; obtain ⟨n0, n1, n2, n3, n4⟩ := hn) | (have hn := new_after (v := w2) (by assumption) hbk; obtain ⟨n0, n1, n2, n3, n4⟩ := hn) | (have hm := new_again n1 n2 n3 n4 hbk; obtain ⟨n1, n2, n3, n4⟩ := hm) | skip)
        | (go_at_call 28; refine (widePlus_any (an * q) (bn * p) _ z1 z2 (Int.le_trans Z3.out (by omega)) (Int.le_trans Z4.out (by omega))).mono ?_; rintro e w' ⟨rfl, hbk⟩; go_split_ands; have hBp := tr (A := w2) (by assumption) hbk; have pa0 := cell_tr (a := ⟨w.heap.size, 0, none⟩) (v := .int .i64 an) hbk (by assumption); have pa1 := cell_tr (a := ⟨w.heap.size, 1, none⟩) (v := .int .i64 ad) hbk (by assumption); have pb0 := cell_tr (a := ⟨w.heap.size + 1, 0, none⟩) (v := .int .i64 bn) hbk (by assumption); have pb1 := cell_tr (a := ⟨w.heap.size + 1, 1, none⟩) (v := .int .i64 bd) hbk (by assumption); first | (have hn := new_after_d hbk; obtain ⟨n0, n1, n2, n3, n4⟩ := hn) | (have hn := new_after (v := w2) (by assumption) hbk; obtain ⟨n0, n1, n2, n3, n4⟩ := hn) | (have hm := new_again n1 n2 n3 n4 hbk; obtain ⟨n1, n2, n3, n4⟩ := hm) | skip))
    all_goals (go_wp2_with fail; go_meet; first | exact ⟨_, rfl, n0, cell_set2_0 n1, set1 _ _ n2, below_set2 hBp n0⟩ | exact ⟨_, rfl, hBp.size, (free_new1 _ _ _ _).1, (free_new1 _ _ _ _).2.1, tr hBp (below1 _ _)⟩)
  case rest =>
    obtain ⟨B, rfl, hBge, hc0, hc1, hBx⟩ := hcut
    rw [← Hnum.out] at hc0 hc1
    have num0 : 0 ≤ num := by rw [Hnum.out]; omega
    have by1 : 1 ≤ by_ := by
      rw [Hby.out, Int.gcd_comm]
      exact gcd_pos g1
    obtain ⟨w0, w3⟩ := small_words num num0 (Int.le_trans hle hsm.out)
    have adq0 : 0 ≤ ad * q := Int.mul_nonneg (by omega) q0
    obtain ⟨w4, w5⟩ := small_words (ad * q) adq0 hsm.out
    rw [w0] at hc0
    rw [w3] at hc1
    have W4 := Lib.hid w4
    have W5 := Lib.hid w5
    have Hcm : Hid (orI (cmpI 0 0) (cmpI num (ad * q)) = cmpI num (ad * q)) := by show _ = _; simp [orI, cmpI]
    have hcm : cmpI num (ad * q) ≤ 0 := by unfold cmpI; rw [show ¬ ad * q < num by omega |> fun h => (if_neg h : (if ad * q < num then (1 : Int) else 0) = 0)]; split <;> omega
    have Hn9 : Hid (num ≤ 18446744073709551615) := Int.le_trans (Int.le_trans hle hsm.out) (by decide)
    clear w0 w3 w4 w5
    have ka1 := cell_tr hBx ja1
    have kb1 := cell_tr hBx jb1
    go_wp2_with fail
    go_region_held3 (fun w' => w'.cell? ⟨w.heap.size, 1, none⟩ = some (.int .i64 ad) ∧ w'.cell? ⟨w.heap.size + 1, 1, none⟩ = some (.int .i64 bd) ∧ w'.cell? ⟨B, 0, none⟩ = some (.int .u64 0) ∧ w'.cell? ⟨B, 1, none⟩ = some (.int .u64 num) ∧ Below w2.heap.size w2 w')
      (first
        | exact ⟨ka1, kb1, hc0, hc1, hBx.drew⟩
        | assumption
        | (go_split_ands
           refine And.intro ?_ (And.intro ?_ (And.intro ?_ (And.intro ?_ ?_)))
           all_goals (first | assumption | (refine cell_tr hbk ?_; assumption) | (refine tr ?_ hbk; assumption) | exact tr hBx.drew hbk)))
      (first
        | (go_at_call 23; refine (wideProduct_any ad q _ (by omega) (by omega) (by omega) (by omega)).mono ?_; rintro e w' ⟨rfl, hbk⟩; rw [W4.out, W5.out])
        | (go_at_call 24; refine (wideCompare_any 0 num 0 (ad * q) _).mono ?_; rintro e w' ⟨rfl, hbk⟩; rw [Hcm.out]))
    rename_i hh
    obtain ⟨la1, lb1, lc0, lc1, hBy⟩ := hh
    have lr0 := cell_tr hBy jr0
    have lr1 := cell_tr hBy jr1
    have gr0 := free_tr hBy jr0 hr0
    have gr1 := free_tr hBy jr1 hr1
    have hBz := tr hB2 hBy
    clear hBx hB2 ka1 kb1 hc0 hc1 ja0 ja1 jb0 jb1 jr0 jr1 hr0 hr1
    have gle : g ≤ bd := by rw [Hg.out]; exact Int.le_of_dvd (by omega) (Int.gcd_dvd_right ..)
    have byle : by_ ≤ g := by rw [Hby.out]; exact Int.le_of_dvd (by omega) (Int.gcd_dvd_left ..)
    have m0 : 0 ≤ num % g := Int.emod_nonneg _ (by omega)
    have hdb : 1 ≤ bd / by_ := (Int.le_ediv_iff_mul_le (by omega)).2 (by omega)
    have hdb2 : bd / by_ ≤ bd := Int.ediv_le_self _ (by omega)
    have e3 : IntKind.i64.wrap (bd.tdiv by_) = bd / by_ := wdiv (by omega) (by omega) by1
    have E := Lib.hid (And.intro e2 e3)
    clear e1 e2 e3
    have hzb : ¬ by_ = 0 := by omega
    go_wp2_with fail
    rename_i wq _ _
    go_call (wideModulo_small num g w' num0 g1 (by omega) Hn9) as e w3 ⟨rfl, hb3⟩
    go_wp2_with fail
    go_call (divisor2 g (num % g) w3.heap.size _ (by omega) m0 (by go_simp) (by go_simp)) as e w4 ⟨rfl, hb4⟩
    rw [← Hby.out]
    have hb34 := tr hb3 ((below1 w3 (.cells #[.int .i64 g, .int .i64 (num % g)] 3)).trans (hb4.mono (by simp)))
    have qa1 := cell_tr hb34 la1
    have qb1 := cell_tr hb34 lb1
    have qc0 := cell_tr hb34 lc0
    have qc1 := cell_tr hb34 lc1
    have qr0 := cell_tr hb34 lr0
    have qr1 := cell_tr hb34 lr1
    have sr0 := free_tr hb34 lr0 gr0
    have sr1 := free_tr hb34 lr1 gr1
    have hBq := tr hBz hb34
    clear hb3 hb4 hb34 la1 lb1 lc0 lc1 lr0 lr1 gr0 gr1 hBz hBy
    go_wp2_with fail
    obtain ⟨e2, e3⟩ := E.out
    go_quiet ((go_at_call 26; exact Calls.quiet_of_same (product_s _ _ _ p0 hdb hden)))
    clear e2 e3
    go_wp2_with fail
    go_call (wideDivided_small num by_ _ num0 by1 (by omega) hnb Hn9) as e w5 ⟨rfl, hb5⟩
    have hb5' := tr (below_drewN (Below.refl w4.heap.size w4) _) hb5
    have tr0 := cell_tr hb5' qr0
    have tr1 := cell_tr hb5' qr1
    have ur0 := free_tr hb5' qr0 sr0
    have ur1 := free_tr hb5' qr1 sr1
    have hBr := tr hBq hb5'
    clear hb5 hb5' qa1 qb1 qc0 qc1 qr0 qr1 sr0 sr1 hBq
    go_wp2
    have r0 := set0 (.int .i64 (num / by_)) tr0
    have r1 := set1 (.int .i64 (num / by_)) (.int .i64 (p * (bd / by_))) tr1
    refine bodyPost_ret (v := .tuple #[.agg #[.int .i64 (num / by_), .int .i64 (p * (bd / by_))], .int .i64 0]) (by simp [results, Try.results9, go_sem, r0, r1]) rfl ⟨rfl, ?_⟩
    exact (hBr.setCell (p := ⟨w.heap.size + 1 + 1, 0, none⟩) (by simp <;> omega) _).setCell (p := ⟨w.heap.size + 1 + 1, 1, none⟩) (by simp <;> omega) _
end Go.Proofs.Ytnpnnfbmnlgioaa
