/-
  What Either of package odds returns for every two valid chances.
-/
import Derived.Test.YtnpnnfbmnlgioaaY
import Derived.Test.YtnpnnfbmnlgioaaDq
import Derived.Deep.DeepCutAuto
namespace Go.Proofs.Ytnpnnfbmnlgioaa
open Go.RowKit
set_option linter.unusedVariables false

theorem product_o (a b : Int) (w : World) (ha : 0 ≤ a) (hb : 1 ≤ b) (h : ¬ a ≤ 1000000000000000 / b) :
    Calls Try.prog 26 #[.int .i64 a, .int .i64 b, .int .i64 10] w fun e w' => e = .returned (.tuple #[.int .i64 0, .int .i64 10]) ∧ w' = w :=
  (product_over a b w ha hb h).mono fun _ _ ⟨h, k⟩ => ⟨h, k.symm⟩
theorem words_nat (num : Int) (h0 : 0 ≤ num) : ∃ x h l : Nat, num = x ∧ hi64 num = h ∧ lo64 num = l ∧ x = h * 2 ^ 64 + l ∧ l < 2 ^ 64 := by
  obtain ⟨x, rfl⟩ := Int.eq_ofNat_of_zero_le h0
  refine ⟨x, x / 2 ^ 64, x % 2 ^ 64, rfl, ?_, ?_, ?_, Nat.mod_lt _ (by decide)⟩
  · unfold hi64; omega
  · unfold lo64; omega
  · omega
theorem wideModulo_num (LN : LenOk) (num n : Int) (w : World) (h0 : 0 ≤ num) (h1 : num ≤ 1000000000000000 * 1000000000000000 + 1000000000000000 * 1000000000000000) (n0 : 1 ≤ n) (n1 : n ≤ 1000000000000000) :
    Calls Try.prog 29 #[.agg #[.int .u64 (hi64 num), .int .u64 (lo64 num)], .int .i64 n] w fun e w' => e = .returned (.int .i64 (num % n)) ∧ Below w.heap.size w w' := by
  obtain ⟨x, h, l, e1, e2, e3, e4, e5⟩ := words_nat num h0
  obtain ⟨m, rfl⟩ := Int.eq_ofNat_of_zero_le (show 0 ≤ n by omega)
  have := wideModulo_both LN h l m (by omega) (by omega) e5 w
  rw [e2, e3, e1, e4]
  rw [Int.natCast_emod] at this
  exact this
theorem wideDivided_num (LN : LenOk) (num n : Int) (w : World) (h0 : 0 ≤ num) (n0 : 1 ≤ n) (n1 : n ≤ 1000000000000000) (hq : num / n ≤ 1000000000000000) :
    Calls Try.prog 30 #[.agg #[.int .u64 (hi64 num), .int .u64 (lo64 num)], .int .i64 n] w fun e w' => e = .returned (.int .i64 (num / n)) ∧ Below w.heap.size w w' := by
  obtain ⟨x, h, l, e1, e2, e3, e4, e5⟩ := words_nat num h0
  obtain ⟨m, rfl⟩ := Int.eq_ofNat_of_zero_le (show 0 ≤ n by omega)
  have hx : x / m ≤ 1000000000000000 := by rw [e1] at hq; omega
  have hlt : h < m := by
    by_cases hh : h < m
    · exact hh
    · have k1 : m * 2 ^ 64 ≤ x := by rw [e4]; exact Nat.le_trans (Nat.mul_le_mul_right _ (by omega)) (Nat.le_add_right _ _)
      have k2 : 2 ^ 64 ≤ x / m := by rw [Nat.le_div_iff_mul_le (by omega), Nat.mul_comm]; exact k1
      omega
  have := wideDivided_both LN h l m (by omega) e5 hlt (by rw [← e4]; omega) w
  rw [e2, e3, e1, e4]
  rw [Int.natCast_ediv] at this
  exact this

set_option maxRecDepth 100000 in
set_option maxHeartbeats 8000000 in
theorem either_main (LN : LenOk) (an ad bn bd : Int) (w : World) (ha : badC an ad = false) (hb : badC bn bd = false) (g p q num : Int) (hg : g = Int.gcd ad bd) (hp : p = ad / g) (hq : q = bd / g) (hnum : num = an * q + bn * p) (by_ : Int) (hby : by_ = Int.gcd g (num % g)) (N M E : Int)
    (hc3 : ad * q < num → N = 0 ∧ M = 0 ∧ E = 3) (hc10 : num ≤ ad * q → 1000000000000000 / (bd / by_) < p → N = 0 ∧ M = 0 ∧ E = 10) (hc0 : num ≤ ad * q → p ≤ 1000000000000000 / (bd / by_) → N = num / by_ ∧ M = p * (bd / by_) ∧ E = 0 ∧ num / by_ ≤ 1000000000000000) :
    Calls Try.prog 9 #[.agg #[.int .i64 an, .int .i64 ad], .agg #[.int .i64 bn, .int .i64 bd]] w fun e w' => e = .returned (.tuple #[.agg #[.int .i64 N, .int .i64 M], .int .i64 E]) ∧ Below w.heap.size w w' := by
  have Hc3 := Lib.hid hc3
  have Hc10 := Lib.hid hc10
  have Hc0 := Lib.hid hc0
  clear hc3 hc10 hc0
  obtain ⟨a1, a2, a3, a4, a5⟩ := badC_ok ha
  obtain ⟨b1, b2, b3, b4, b5⟩ := badC_ok hb
  have g1 : 1 ≤ g := by rw [hg]; exact gcd_pos (a := ad) b1
  have Ha := Lib.hid ha
  have Hb := Lib.hid hb
  have Hg := Lib.hid hg
  have Hp := Lib.hid hp
  have Hq := Lib.hid hq
  have Hnum := Lib.hid hnum
  have Hby := Lib.hid hby
  clear ha hb hg hp hq hnum hby
  go_enter Try.func9, Try.ntmps9
  go_wp2_with fail
  go_call (chances2 (w.heap.size + 1 + 1 + 1) an ad bn bd _ (by go_simp) (by go_simp) (by go_simp) (by go_simp) Ha.out Hb.out) as e w1 ⟨rfl, hb1⟩
  have hB1 : Below w.heap.size w w1 := ((((below1 _ _).alloc (by simp) _).alloc (by simp; omega) _).alloc (by simp; omega) _).trans (hb1.mono (by simp; omega))
  have ka0 : w1.cell? ⟨w.heap.size, 0, none⟩ = some (.int .i64 an) := cell_tr hb1 (by go_simp)
  have ka1 : w1.cell? ⟨w.heap.size, 1, none⟩ = some (.int .i64 ad) := cell_tr hb1 (by go_simp)
  have kb0 : w1.cell? ⟨w.heap.size + 1, 0, none⟩ = some (.int .i64 bn) := cell_tr hb1 (by go_simp)
  have kb1 : w1.cell? ⟨w.heap.size + 1, 1, none⟩ = some (.int .i64 bd) := cell_tr hb1 (by go_simp)
  have kr0 : w1.cell? ⟨w.heap.size + 1 + 1, 0, none⟩ = some (.int .i64 0) := cell_tr hb1 (by go_simp)
  have kr1 : w1.cell? ⟨w.heap.size + 1 + 1, 1, none⟩ = some (.int .i64 0) := cell_tr hb1 (by go_simp)
  have fr0 : w1.frozen? ⟨w.heap.size + 1 + 1, 0, none⟩ = false := free_tr hb1 (v := .int .i64 0) (by go_simp) (by go_simp)
  have fr1 : w1.frozen? ⟨w.heap.size + 1 + 1, 1, none⟩ = false := free_tr hb1 (v := .int .i64 0) (by go_simp) (by go_simp)
  have hsz : w.heap.size + 3 < w1.heap.size := by have := hb1.size; simp at this; omega
  clear hb1
  go_wp2_with fail
  go_call (divisor2 ad bd w1.heap.size _ (by omega) (by omega) (by go_simp) (by go_simp)) as e w2 ⟨rfl, hb2⟩
  rw [← Hg.out]
  have hb2' := (below1 w1 (.cells #[.int .i64 ad, .int .i64 bd] 3)).trans (hb2.mono (by simp))
  have ja0 := cell_tr hb2' ka0
  have ja1 := cell_tr hb2' ka1
  have jb0 := cell_tr hb2' kb0
  have jb1 := cell_tr hb2' kb1
  have jr0 := cell_tr hb2' kr0
  have jr1 := cell_tr hb2' kr1
  have hr0 := free_tr hb2' kr0 fr0
  have hr1 := free_tr hb2' kr1 fr1
  have hB2 := tr hB1 hb2'
  clear hb2 ka0 ka1 kb0 kb1 kr0 kr1 fr0 fr1 hB1
  have hsz2 : w.heap.size + 3 < w2.heap.size := by have := hb2'.size; omega
  clear hb2'
  have hz : ¬ g = 0 := by omega
  have e1 : IntKind.i64.wrap (bd.tdiv g) = q := by rw [Hq.out]; exact wdiv (by omega) (by omega) g1
  have e2 : IntKind.i64.wrap (ad.tdiv g) = p := by rw [Hp.out]; exact wdiv (by omega) (by omega) g1
  have q0 : 0 ≤ q := by rw [Hq.out]; exact Int.ediv_nonneg (by omega) (by omega)
  have p0 : 0 ≤ p := by rw [Hp.out]; exact Int.ediv_nonneg (by omega) (by omega)
  have q1 : q ≤ bd := by rw [Hq.out]; exact Int.ediv_le_self _ (by omega)
  have p1 : p ≤ ad := by rw [Hp.out]; exact Int.ediv_le_self _ (by omega)
  have z1 : 0 ≤ an * q := Int.mul_nonneg a3 q0
  have z2 : 0 ≤ bn * p := Int.mul_nonneg b3 p0
  have Z3 : Hid (an * q ≤ 1000000000000000 * 1000000000000000) := Int.mul_le_mul (show an ≤ 1000000000000000 by omega) (show q ≤ 1000000000000000 by omega) q0 (by omega)
  have Z4 : Hid (bn * p ≤ 1000000000000000 * 1000000000000000) := Int.mul_le_mul (show bn ≤ 1000000000000000 by omega) (show p ≤ 1000000000000000 by omega) p0 (by omega)
  have hBd : Below w2.heap.size w2 w2.drew := (Below.refl _ _).drew
  have Hle2 : Hid (w.heap.size + 3 < w2.heap.size) := hsz2
  go_upto_region 5 with fail
  go_cut [8] (fun s8 wx => ∃ B : Nat, s8 = .pointer (some ⟨B, 0, none⟩) ∧ w2.heap.size ≤ B ∧ wx.cell? ⟨B, 0, none⟩ = some (.int .u64 (hi64 (an * q + bn * p))) ∧ wx.cell? ⟨B, 1, none⟩ = some (.int .u64 (lo64 (an * q + bn * p))) ∧ Below w2.heap.size w2 wx)
  case first =>
    go_region_held3 (fun w' => w'.cell? ⟨w.heap.size, 0, none⟩ = some (.int .i64 an) ∧ w'.cell? ⟨w.heap.size, 1, none⟩ = some (.int .i64 ad) ∧ w'.cell? ⟨w.heap.size + 1, 0, none⟩ = some (.int .i64 bn) ∧ w'.cell? ⟨w.heap.size + 1, 1, none⟩ = some (.int .i64 bd) ∧ Below w2.heap.size w2 w')
      (first
        | exact ⟨ja0, ja1, jb0, jb1, (Below.refl _ _).drew⟩
        | assumption
        | (go_split_ands
           try refine And.intro ?_ (And.intro ?_ (And.intro ?_ (And.intro ?_ ?_)))
           all_goals (first | assumption | exact (below1 w2 _).drew | exact tr hBp (below1 _ _) | (refine cell_tr hbk ?_; assumption) | (refine tr ?_ hbk; assumption) | (refine cell_tr (below1 _ _) ?_; assumption) | (refine tr ?_ (below1 _ _); assumption) | (refine cell_set2 ?_ ?_; assumption; (first | omega | (simp; omega))) | (refine below_set2 ?_ ?_; assumption; assumption)))) 
      (first
        | (go_at_call 23; refine (wideProduct_any _ _ _ (by omega) (by omega) (by omega) (by omega)).mono ?_; rintro e w' ⟨rfl, hbk⟩; go_split_ands; have hBp := tr (A := w2) (by assumption) hbk; have pa0 := cell_tr (a := ⟨w.heap.size, 0, none⟩) (v := .int .i64 an) hbk (by assumption); have pa1 := cell_tr (a := ⟨w.heap.size, 1, none⟩) (v := .int .i64 ad) hbk (by assumption); have pb0 := cell_tr (a := ⟨w.heap.size + 1, 0, none⟩) (v := .int .i64 bn) hbk (by assumption); have pb1 := cell_tr (a := ⟨w.heap.size + 1, 1, none⟩) (v := .int .i64 bd) hbk (by assumption); first | (have hn := new_after_d hbk; obtain ⟨n0, n1, n2, n3, n4⟩ := hn) | (have hn := new_after (v := w2) (by assumption) hbk; obtain ⟨n0, n1, n2, n3, n4⟩ := hn) | (have hm := new_again n1 n2 n3 n4 hbk; obtain ⟨n1, n2, n3, n4⟩ := hm) | skip)
        | (go_at_call 28; refine (widePlus_any (an * q) (bn * p) _ z1 z2 (Int.le_trans Z3.out (by omega)) (Int.le_trans Z4.out (by omega))).mono ?_; rintro e w' ⟨rfl, hbk⟩; go_split_ands; have hBp := tr (A := w2) (by assumption) hbk; have pa0 := cell_tr (a := ⟨w.heap.size, 0, none⟩) (v := .int .i64 an) hbk (by assumption); have pa1 := cell_tr (a := ⟨w.heap.size, 1, none⟩) (v := .int .i64 ad) hbk (by assumption); have pb0 := cell_tr (a := ⟨w.heap.size + 1, 0, none⟩) (v := .int .i64 bn) hbk (by assumption); have pb1 := cell_tr (a := ⟨w.heap.size + 1, 1, none⟩) (v := .int .i64 bd) hbk (by assumption); first | (have hn := new_after_d hbk; obtain ⟨n0, n1, n2, n3, n4⟩ := hn) | (have hn := new_after (v := w2) (by assumption) hbk; obtain ⟨n0, n1, n2, n3, n4⟩ := hn) | (have hm := new_again n1 n2 n3 n4 hbk; obtain ⟨n1, n2, n3, n4⟩ := hm) | skip))
    all_goals (go_wp2_with fail; go_meet; first | exact ⟨_, rfl, n0, cell_set2_0 n1, set1 _ _ n2, below_set2 hBp n0⟩ | exact ⟨_, rfl, hBp.size, (free_new1 _ _ _ _).1, (free_new1 _ _ _ _).2.1, tr hBp (below1 _ _)⟩)
  case rest =>
    obtain ⟨B, rfl, hBge, hc0, hc1, hBx⟩ := hcut
    rw [← Hnum.out] at hc0 hc1
    have num0 : 0 ≤ num := by rw [Hnum.out]; omega
    have numB : num ≤ 1000000000000000 * 1000000000000000 + 1000000000000000 * 1000000000000000 := by
      rw [Hnum.out]; exact Int.add_le_add Z3.out Z4.out
    have by1 : 1 ≤ by_ := by
      rw [Hby.out, Int.gcd_comm]
      exact gcd_pos g1
    have adq0 : 0 ≤ ad * q := Int.mul_nonneg (by omega) q0
    have hPr := fun w => wideProduct_any ad q w (by omega) (by omega) (by omega) (by omega)
    have hCm := fun w => wideCompare_any (hi64 num) (lo64 num) (hi64 (ad * q)) (lo64 (ad * q)) w
    rw [cmp_words num (ad * q) num0 adq0] at hCm
    have gle : g ≤ bd := by rw [Hg.out]; exact Int.le_of_dvd (by omega) (Int.gcd_dvd_right ..)
    have hMo := fun w => wideModulo_num LN num g w num0 numB g1 (by omega)
    have hDv : Hid (num / by_ ≤ 1000000000000000 → ∀ w, Calls Try.prog 30 #[.agg #[.int .u64 (hi64 num), .int .u64 (lo64 num)], .int .i64 by_] w fun e w' => e = .returned (.int .i64 (num / by_)) ∧ Below w.heap.size w w') := fun h w => wideDivided_num LN num by_ w num0 by1 (by
      have : by_ ≤ g := by rw [Hby.out]; exact Int.le_of_dvd (by omega) (Int.gcd_dvd_left ..)
      have : g ≤ bd := by rw [Hg.out]; exact Int.le_of_dvd (by omega) (Int.gcd_dvd_right ..)
      omega) h
    obtain ⟨C, hC⟩ : ∃ C, cmpI num (ad * q) = C := ⟨_, rfl⟩
    have hCi : 0 < C ↔ ad * q < num := by
      rw [← hC]; unfold cmpI
      split
      · constructor <;> intro h <;> omega
      · split <;> constructor <;> intro h <;> omega
    rw [hC] at hCm
    obtain ⟨nh, ehn⟩ : ∃ x, hi64 num = x := ⟨_, rfl⟩
    obtain ⟨nl, eln⟩ : ∃ x, lo64 num = x := ⟨_, rfl⟩
    obtain ⟨mh, ehm⟩ : ∃ x, hi64 (ad * q) = x := ⟨_, rfl⟩
    obtain ⟨ml, elm⟩ : ∃ x, lo64 (ad * q) = x := ⟨_, rfl⟩
    rw [ehn, eln] at hCm hMo hDv
    rw [ehm, elm] at hCm hPr
    rw [ehn] at hc0
    rw [eln] at hc1
    clear ehn eln ehm elm hC numB
    have ka1 := cell_tr hBx ja1
    have kb1 := cell_tr hBx jb1
    go_wp2_with fail
    go_region_held3 (fun w' => w'.cell? ⟨w.heap.size, 1, none⟩ = some (.int .i64 ad) ∧ w'.cell? ⟨w.heap.size + 1, 1, none⟩ = some (.int .i64 bd) ∧ w'.cell? ⟨B, 0, none⟩ = some (.int .u64 nh) ∧ w'.cell? ⟨B, 1, none⟩ = some (.int .u64 nl) ∧ Below w2.heap.size w2 w')
      (first
        | exact ⟨ka1, kb1, hc0, hc1, hBx.drew⟩
        | assumption
        | (go_split_ands
           refine And.intro ?_ (And.intro ?_ (And.intro ?_ (And.intro ?_ ?_)))
           all_goals (first | assumption | (refine cell_tr hbk ?_; assumption) | (refine tr ?_ hbk; assumption) | exact tr hBx.drew hbk)))
      (first
        | (go_at_call 23; (with_reducible refine (hPr _).mono ?_); rintro e w' ⟨rfl, hbk⟩)
        | (go_at_call 24; (with_reducible refine (hCm _).mono ?_); rintro e w' ⟨rfl, hbk⟩))
    rename_i hh
    obtain ⟨wq, rfl⟩ : ∃ x : World, x = w' := ⟨_, rfl⟩
    obtain ⟨la1, lb1, lc0, lc1, hBy⟩ := hh
    have lr0 := cell_tr hBy jr0
    have lr1 := cell_tr hBy jr1
    have gr0 := free_tr hBy jr0 hr0
    have gr1 := free_tr hBy jr1 hr1
    have hBz := tr hB2 hBy
    clear hBx hB2 ka1 kb1 hc0 hc1 ja0 ja1 jb0 jb1 jr0 jr1 hr0 hr1
    by_cases hcc : ad * q < num
    · obtain ⟨rfl, rfl, rfl⟩ := Hc3.out hcc
      clear e1 e2 hCi
      go_wp2
      have r0 := set0 (.int .i64 0) lr0
      have r1 := set1 (.int .i64 0) (.int .i64 0) lr1
      refine bodyPost_ret (v := .tuple #[.agg #[.int .i64 0, .int .i64 0], .int .i64 3]) (by simp [results, Try.results9, go_sem, r0, r1]) rfl ⟨rfl, ?_⟩
      exact (hBz.setCell (p := ⟨w.heap.size + 1 + 1, 0, none⟩) (by simp <;> omega) _).setCell (p := ⟨w.heap.size + 1 + 1, 1, none⟩) (by simp <;> omega) _
    have hcd : decide (ad * q < num) = false := by simpa using hcc
    have hcn : num ≤ ad * q := by omega
    have K10 := Lib.hid (Hc10.out hcn)
    have K0 := Lib.hid (Hc0.out hcn)
    clear hCi hcn Hc3 Hc10 Hc0
    have byle : by_ ≤ g := by rw [Hby.out]; exact Int.le_of_dvd (by omega) (Int.gcd_dvd_left ..)
    have m0 : 0 ≤ num % g := Int.emod_nonneg _ (by omega)
    have hdb : 1 ≤ bd / by_ := (Int.le_ediv_iff_mul_le (by omega)).2 (by omega)
    have hdb2 : bd / by_ ≤ bd := Int.ediv_le_self _ (by omega)
    have e3 : IntKind.i64.wrap (bd.tdiv by_) = bd / by_ := wdiv (by omega) (by omega) by1
    have E := Lib.hid (And.intro e2 e3)
    clear e1 e2 e3
    have hzb : ¬ by_ = 0 := by omega
    rw [hcd]
    go_wp2_with fail
    go_call (hMo _) as e w3 ⟨rfl, hb3⟩
    go_wp2_with fail
    go_call (divisor2 g (num % g) w3.heap.size _ (by omega) m0 (by go_simp) (by go_simp)) as e w4 ⟨rfl, hb4⟩
    rw [← Hby.out]
    have hb34 := tr hb3 ((below1 w3 (.cells #[.int .i64 g, .int .i64 (num % g)] 3)).trans (hb4.mono (by simp)))
    have qa1 := cell_tr hb34 la1
    have qb1 := cell_tr hb34 lb1
    have qc0 := cell_tr hb34 lc0
    have qc1 := cell_tr hb34 lc1
    have qr0 := cell_tr hb34 lr0
    have qr1 := cell_tr hb34 lr1
    have sr0 := free_tr hb34 lr0 gr0
    have sr1 := free_tr hb34 lr1 gr1
    have hBq := tr hBz hb34
    clear hb3 hb4 hb34 la1 lb1 lc0 lc1 lr0 lr1 gr0 gr1 hBz hBy
    go_wp2_with fail
    obtain ⟨e2, e3⟩ := E.out
    by_cases hden : p ≤ 1000000000000000 / (bd / by_)
    · obtain ⟨hN, hM, rfl, hnb⟩ := K0.out hden
      have hDW := hDv.out hnb
      have HNM := Lib.hid (And.intro hN hM)
      clear hN hM hDv
      go_quiet ((go_at_call 26; exact Calls.quiet_of_same (product_s _ _ _ p0 hdb hden)))
      clear e2 e3
      go_wp2_with fail
      go_call (hDW _) as e w5 ⟨rfl, hb5⟩
      have hb5' := tr (below_drewN (Below.refl w4.heap.size w4) _) hb5
      have tr0 := cell_tr hb5' qr0
      have tr1 := cell_tr hb5' qr1
      have ur0 := free_tr hb5' qr0 sr0
      have ur1 := free_tr hb5' qr1 sr1
      have hBr := tr hBq hb5'
      clear hb5 hb5' qa1 qb1 qc0 qc1 qr0 qr1 sr0 sr1 hBq
      go_wp2
      have r0 := set0 (.int .i64 (num / by_)) tr0
      have r1 := set1 (.int .i64 (num / by_)) (.int .i64 (p * (bd / by_))) tr1
      refine bodyPost_ret (v := .tuple #[.agg #[.int .i64 (num / by_), .int .i64 (p * (bd / by_))], .int .i64 0]) (by simp [results, Try.results9, go_sem, r0, r1]) rfl ⟨by rw [HNM.out.1, HNM.out.2], ?_⟩
      exact (hBr.setCell (p := ⟨w.heap.size + 1 + 1, 0, none⟩) (by simp <;> omega) _).setCell (p := ⟨w.heap.size + 1 + 1, 1, none⟩) (by simp <;> omega) _
    · obtain ⟨rfl, rfl, rfl⟩ := K10.out (by omega)
      clear hDv
      go_quiet ((go_at_call 26; exact Calls.quiet_of_same (product_o _ _ _ p0 hdb (by omega))))
      clear e2 e3
      go_wp2
      have r0 := set0 (W := w4.drewN nq) (.int .i64 0) qr0
      have r1 := set1 (W := w4.drewN nq) (.int .i64 0) (.int .i64 0) qr1
      refine bodyPost_ret (v := .tuple #[.agg #[.int .i64 0, .int .i64 0], .int .i64 10]) (by simp [results, Try.results9, go_sem, r0, r1]) rfl ⟨rfl, ?_⟩
      exact ((below_drewN hBq nq).setCell (p := ⟨w.heap.size + 1 + 1, 0, none⟩) (by simp <;> omega) _).setCell (p := ⟨w.heap.size + 1 + 1, 1, none⟩) (by simp <;> omega) _
end Go.Proofs.Ytnpnnfbmnlgioaa
