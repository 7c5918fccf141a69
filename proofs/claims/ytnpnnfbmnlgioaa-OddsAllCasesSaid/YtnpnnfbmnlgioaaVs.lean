/-
  What Both of package odds returns, for two valid chances.
-/
import Derived.Test.YtnpnnfbmnlgioaaY
import Derived.Deep.DrawnRows
namespace Go.Proofs.Ytnpnnfbmnlgioaa
open Go.RowKit

theorem cell_dr {w : World} {a : Addr} {v : Value} (h : w.cell? a = some v) : w.drew.cell? a = some v := h
theorem below_dr {n : Nat} {v w : World} (h : Below n v w) : Below n v w.drew := h.drew
/-- A new block of two zeros. -/
def Nw (v : Nat) (W : World) (b : Nat) : Prop := v ≤ b ∧ b < W.heap.size ∧ W.cell? ⟨b, 0, none⟩ = some (.int .i64 0) ∧ W.cell? ⟨b, 1, none⟩ = some (.int .i64 0) ∧ W.frozen? ⟨b, 0, none⟩ = false ∧ W.frozen? ⟨b, 1, none⟩ = false
theorem nw_below {v b : Nat} {W W' : World} (h : Nw v W b) (hb : Below W.heap.size W W') : Nw v W' b := by
  obtain ⟨h0, h1, h2, h3, h4, h5⟩ := h
  exact ⟨h0, Nat.lt_of_lt_of_le h1 hb.size, cell_tr hb h2, cell_tr hb h3, free_tr hb h2 h4, free_tr hb h3 h5⟩
theorem nw_new {v : Nat} {W : World} {t : TypeId} (h : v ≤ W.heap.size) : Nw v (W.alloc (.cells #[.int .i64 0, .int .i64 0] t)) W.heap.size := by
  obtain ⟨h2, h3, h4, h5⟩ := free_new1 W (.int .i64 0) (.int .i64 0) t
  exact ⟨h, by simp, h2, h3, h4, h5⟩
theorem nw_new' {v b : Nat} {W : World} {t : TypeId} (e : W.heap.size = b) (h : v ≤ W.heap.size) : Nw v (W.alloc (.cells #[.int .i64 0, .int .i64 0] t)) b := by
  subst e; exact nw_new h
theorem nw_new2 {v : Nat} {W : World} {o : Obj} {t : TypeId} (h : v ≤ W.heap.size) : Nw v ((W.alloc o).alloc (.cells #[.int .i64 0, .int .i64 0] t)) (W.heap.size + 1) := nw_new' (by simp) (by simp; omega)
theorem nw_new2_d {v : Nat} {W : World} {o : Obj} {t : TypeId} (h : v ≤ W.heap.size) : Nw v ((W.alloc o).drew.alloc (.cells #[.int .i64 0, .int .i64 0] t)) (W.heap.size + 1) := nw_new' (W := (W.alloc o).drew) (by simp) (by simp; omega)
theorem nw_new_d {v : Nat} {W : World} {t : TypeId} (h : v ≤ W.heap.size) : Nw v (W.drew.alloc (.cells #[.int .i64 0, .int .i64 0] t)) W.heap.size := nw_new (W := W.drew) h
theorem nw_alloc {v b : Nat} {W : World} {o : Obj} (h : Nw v W b) : Nw v (W.alloc o) b := nw_below h (below1 _ _)
theorem nw_drew {v b : Nat} {W : World} (h : Nw v W b) : Nw v W.drew b := nw_below h (Below.refl _ _).drew

theorem cell_set2_ne {w : World} {a : Addr} {v : Value} {b : Nat} {x y : Value} (h : w.cell? a = some v) (hne : a.block ≠ b) : ((w.setCell ⟨b, 0, none⟩ x).setCell ⟨b, 1, none⟩ y).cell? a = some v := by
  rw [World.cell?_of_block (Below.heap_setCell _ _ _ _ (by show a.block ≠ b; exact hne)), World.cell?_of_block (Below.heap_setCell _ _ _ _ (by show a.block ≠ b; exact hne))]
  exact h
theorem two_sets {v W : World} {A B : Nat} {x0 x1 y0 y1 : Int} (hA : Nw v.heap.size W A) (hB : Nw v.heap.size W B) (hne : A ≠ B) (hb : Below v.heap.size v W) :
    ((((W.setCell ⟨A, 0, none⟩ (.int .i64 x0)).setCell ⟨A, 1, none⟩ (.int .i64 x1)).setCell ⟨B, 0, none⟩ (.int .i64 y0)).setCell ⟨B, 1, none⟩ (.int .i64 y1)).cell? ⟨A, 0, none⟩ = some (.int .i64 x0) ∧ ((((W.setCell ⟨A, 0, none⟩ (.int .i64 x0)).setCell ⟨A, 1, none⟩ (.int .i64 x1)).setCell ⟨B, 0, none⟩ (.int .i64 y0)).setCell ⟨B, 1, none⟩ (.int .i64 y1)).cell? ⟨A, 1, none⟩ = some (.int .i64 x1) ∧ ((((W.setCell ⟨A, 0, none⟩ (.int .i64 x0)).setCell ⟨A, 1, none⟩ (.int .i64 x1)).setCell ⟨B, 0, none⟩ (.int .i64 y0)).setCell ⟨B, 1, none⟩ (.int .i64 y1)).cell? ⟨B, 0, none⟩ = some (.int .i64 y0) ∧ ((((W.setCell ⟨A, 0, none⟩ (.int .i64 x0)).setCell ⟨A, 1, none⟩ (.int .i64 x1)).setCell ⟨B, 0, none⟩ (.int .i64 y0)).setCell ⟨B, 1, none⟩ (.int .i64 y1)).cell? ⟨B, 1, none⟩ = some (.int .i64 y1) ∧ Below v.heap.size v ((((W.setCell ⟨A, 0, none⟩ (.int .i64 x0)).setCell ⟨A, 1, none⟩ (.int .i64 x1)).setCell ⟨B, 0, none⟩ (.int .i64 y0)).setCell ⟨B, 1, none⟩ (.int .i64 y1)) := by
  have hB0 := cell_set2_ne (x := .int .i64 x0) (y := .int .i64 x1) hB.2.2.1 (show B ≠ A from fun e => hne e.symm)
  have hB1 := cell_set2_ne (x := .int .i64 x0) (y := .int .i64 x1) hB.2.2.2.1 (show B ≠ A from fun e => hne e.symm)
  exact ⟨cell_set2_ne (cell_set2_0 hA.2.2.1) hne, cell_set2_ne (set1 _ _ hA.2.2.2.1) hne, cell_set2_0 hB0, set1 _ _ hB1, below_set2 (below_set2 hb hA.1) hB.1⟩
theorem two_sa {v W : World} {A : Nat} {x0 x1 y0 y1 : Int} {t : TypeId} (hA : Nw v.heap.size W A) (hb : Below v.heap.size v W) :
    (((W.setCell ⟨A, 0, none⟩ (.int .i64 x0)).setCell ⟨A, 1, none⟩ (.int .i64 x1)).alloc (.cells #[.int .i64 y0, .int .i64 y1] t)).cell? ⟨A, 0, none⟩ = some (.int .i64 x0) ∧ (((W.setCell ⟨A, 0, none⟩ (.int .i64 x0)).setCell ⟨A, 1, none⟩ (.int .i64 x1)).alloc (.cells #[.int .i64 y0, .int .i64 y1] t)).cell? ⟨A, 1, none⟩ = some (.int .i64 x1) ∧ (((W.setCell ⟨A, 0, none⟩ (.int .i64 x0)).setCell ⟨A, 1, none⟩ (.int .i64 x1)).alloc (.cells #[.int .i64 y0, .int .i64 y1] t)).cell? ⟨W.heap.size, 0, none⟩ = some (.int .i64 y0) ∧ (((W.setCell ⟨A, 0, none⟩ (.int .i64 x0)).setCell ⟨A, 1, none⟩ (.int .i64 x1)).alloc (.cells #[.int .i64 y0, .int .i64 y1] t)).cell? ⟨W.heap.size, 1, none⟩ = some (.int .i64 y1) ∧ Below v.heap.size v (((W.setCell ⟨A, 0, none⟩ (.int .i64 x0)).setCell ⟨A, 1, none⟩ (.int .i64 x1)).alloc (.cells #[.int .i64 y0, .int .i64 y1] t)) := by
  have hs : ((W.setCell ⟨A, 0, none⟩ (.int .i64 x0)).setCell ⟨A, 1, none⟩ (.int .i64 x1)).heap.size = W.heap.size := by simp
  obtain ⟨h2, h3, _, _⟩ := free_new1 ((W.setCell ⟨A, 0, none⟩ (.int .i64 x0)).setCell ⟨A, 1, none⟩ (.int .i64 x1)) (.int .i64 y0) (.int .i64 y1) t
  rw [hs] at h2 h3
  exact ⟨cell_tr (below1 _ _) (cell_set2_0 hA.2.2.1), cell_tr (below1 _ _) (set1 _ _ hA.2.2.2.1), h2, h3, tr (below_set2 hb hA.1) (below1 _ _)⟩
theorem two_sb {v W : World} {B : Nat} {x0 x1 y0 y1 : Int} {t : TypeId} (hB : Nw v.heap.size W B) (hb : Below v.heap.size v W) :
    (((W.setCell ⟨B, 0, none⟩ (.int .i64 y0)).setCell ⟨B, 1, none⟩ (.int .i64 y1)).alloc (.cells #[.int .i64 x0, .int .i64 x1] t)).cell? ⟨W.heap.size, 0, none⟩ = some (.int .i64 x0) ∧ (((W.setCell ⟨B, 0, none⟩ (.int .i64 y0)).setCell ⟨B, 1, none⟩ (.int .i64 y1)).alloc (.cells #[.int .i64 x0, .int .i64 x1] t)).cell? ⟨W.heap.size, 1, none⟩ = some (.int .i64 x1) ∧ (((W.setCell ⟨B, 0, none⟩ (.int .i64 y0)).setCell ⟨B, 1, none⟩ (.int .i64 y1)).alloc (.cells #[.int .i64 x0, .int .i64 x1] t)).cell? ⟨B, 0, none⟩ = some (.int .i64 y0) ∧ (((W.setCell ⟨B, 0, none⟩ (.int .i64 y0)).setCell ⟨B, 1, none⟩ (.int .i64 y1)).alloc (.cells #[.int .i64 x0, .int .i64 x1] t)).cell? ⟨B, 1, none⟩ = some (.int .i64 y1) ∧ Below v.heap.size v (((W.setCell ⟨B, 0, none⟩ (.int .i64 y0)).setCell ⟨B, 1, none⟩ (.int .i64 y1)).alloc (.cells #[.int .i64 x0, .int .i64 x1] t)) := by
  obtain ⟨h1, h2, h3, h4, h5⟩ := two_sa (x0 := y0) (x1 := y1) (y0 := x0) (y1 := x1) (t := t) hB hb
  exact ⟨h3, h4, h1, h2, h5⟩
theorem two_ab {v W : World} {x0 x1 y0 y1 : Int} {t t' : TypeId} (hb : Below v.heap.size v W) :
    ((W.alloc (.cells #[.int .i64 x0, .int .i64 x1] t)).alloc (.cells #[.int .i64 y0, .int .i64 y1] t')).cell? ⟨W.heap.size, 0, none⟩ = some (.int .i64 x0) ∧ ((W.alloc (.cells #[.int .i64 x0, .int .i64 x1] t)).alloc (.cells #[.int .i64 y0, .int .i64 y1] t')).cell? ⟨W.heap.size, 1, none⟩ = some (.int .i64 x1) ∧ ((W.alloc (.cells #[.int .i64 x0, .int .i64 x1] t)).alloc (.cells #[.int .i64 y0, .int .i64 y1] t')).cell? ⟨(W.heap.size + 1), 0, none⟩ = some (.int .i64 y0) ∧ ((W.alloc (.cells #[.int .i64 x0, .int .i64 x1] t)).alloc (.cells #[.int .i64 y0, .int .i64 y1] t')).cell? ⟨(W.heap.size + 1), 1, none⟩ = some (.int .i64 y1) ∧ Below v.heap.size v ((W.alloc (.cells #[.int .i64 x0, .int .i64 x1] t)).alloc (.cells #[.int .i64 y0, .int .i64 y1] t')) := by
  have hs : (W.alloc (.cells #[.int .i64 x0, .int .i64 x1] t)).heap.size = W.heap.size + 1 := by simp
  obtain ⟨g2, g3, _, _⟩ := free_new1 W (.int .i64 x0) (.int .i64 x1) t
  obtain ⟨h2, h3, _, _⟩ := free_new1 (W.alloc (.cells #[.int .i64 x0, .int .i64 x1] t)) (.int .i64 y0) (.int .i64 y1) t'
  rw [hs] at h2 h3
  exact ⟨cell_tr (below1 _ _) g2, cell_tr (below1 _ _) g3, h2, h3, tr (tr hb (below1 _ _)) (below1 _ _)⟩
theorem two_ba {v W : World} {x0 x1 y0 y1 : Int} {t t' : TypeId} (hb : Below v.heap.size v W) :
    ((W.alloc (.cells #[.int .i64 y0, .int .i64 y1] t)).alloc (.cells #[.int .i64 x0, .int .i64 x1] t')).cell? ⟨(W.heap.size + 1), 0, none⟩ = some (.int .i64 x0) ∧ ((W.alloc (.cells #[.int .i64 y0, .int .i64 y1] t)).alloc (.cells #[.int .i64 x0, .int .i64 x1] t')).cell? ⟨(W.heap.size + 1), 1, none⟩ = some (.int .i64 x1) ∧ ((W.alloc (.cells #[.int .i64 y0, .int .i64 y1] t)).alloc (.cells #[.int .i64 x0, .int .i64 x1] t')).cell? ⟨W.heap.size, 0, none⟩ = some (.int .i64 y0) ∧ ((W.alloc (.cells #[.int .i64 y0, .int .i64 y1] t)).alloc (.cells #[.int .i64 x0, .int .i64 x1] t')).cell? ⟨W.heap.size, 1, none⟩ = some (.int .i64 y1) ∧ Below v.heap.size v ((W.alloc (.cells #[.int .i64 y0, .int .i64 y1] t)).alloc (.cells #[.int .i64 x0, .int .i64 x1] t')) := by
  obtain ⟨h1, h2, h3, h4, h5⟩ := two_ab (x0 := y0) (x1 := y1) (y0 := x0) (y1 := x1) (t := t) (t' := t') hb
  exact ⟨h3, h4, h1, h2, h5⟩

attribute [local go_sem ↓] Go.wp_at_zero Go.wp_at_succ

set_option maxRecDepth 100000 in
set_option maxHeartbeats 16000000 in
theorem both_ok (an ad bn bd : Int) (w : World) (ha : badC an ad = false) (hb : badC bn bd = false) (xn xd yn yd : Int) (hxn : xn = an / Int.gcd an bd) (hxd : xd = bd / Int.gcd an bd) (hyn : yn = bn / Int.gcd bn ad) (hyd : yd = ad / Int.gcd bn ad)
    (hp : xd ≤ 1000000000000000 / yd) :
    Calls Try.prog 7 #[.agg #[.int .i64 an, .int .i64 ad], .agg #[.int .i64 bn, .int .i64 bd]] w fun e w' => e = .returned (.tuple #[.agg #[.int .i64 (xn * yn), .int .i64 (xd * yd)], .int .i64 0]) ∧ Below w.heap.size w w' := by
  obtain ⟨a1, a2, a3, a4, a5⟩ := badC_ok ha
  obtain ⟨b1, b2, b3, b4, b5⟩ := badC_ok hb
  have Ha := Lib.hid ha
  have Hb := Lib.hid hb
  clear ha hb
  go_enter Try.func7, Try.ntmps7
  go_wp2_with fail
  go_call (chances2 (w.heap.size + 1 + 1 + 1) an ad bn bd _ (by go_simp) (by go_simp) (by go_simp) (by go_simp) Ha.out Hb.out) as e w1 ⟨rfl, hb1⟩
  have hB1 : Below w.heap.size w w1 := ((((below1 _ _).alloc (by simp) _).alloc (by simp; omega) _).alloc (by simp; omega) _).trans (hb1.mono (by simp; omega))
  have ka0 : w1.cell? ⟨w.heap.size, 0, none⟩ = some (.int .i64 an) := cell_tr hb1 (by go_simp)
  have ka1 : w1.cell? ⟨w.heap.size, 1, none⟩ = some (.int .i64 ad) := cell_tr hb1 (by go_simp)
  have kb0 : w1.cell? ⟨w.heap.size + 1, 0, none⟩ = some (.int .i64 bn) := cell_tr hb1 (by go_simp)
  have kb1 : w1.cell? ⟨w.heap.size + 1, 1, none⟩ = some (.int .i64 bd) := cell_tr hb1 (by go_simp)
  have kr0 : w1.cell? ⟨w.heap.size + 1 + 1, 0, none⟩ = some (.int .i64 0) := cell_tr hb1 (by go_simp)
  have kr1 : w1.cell? ⟨w.heap.size + 1 + 1, 1, none⟩ = some (.int .i64 0) := cell_tr hb1 (by go_simp)
  have fr0 : w1.frozen? ⟨w.heap.size + 1 + 1, 0, none⟩ = false := free_tr hb1 (v := .int .i64 0) (by go_simp) (by go_simp)
  have fr1 : w1.frozen? ⟨w.heap.size + 1 + 1, 1, none⟩ = false := free_tr hb1 (v := .int .i64 0) (by go_simp) (by go_simp)
  have hsz : w.heap.size + 3 < w1.heap.size := by have := hb1.size; simp at this; omega
  clear hb1
  go_upto_region 4 with fail
  go_cut [7, 8] (fun s7 s8 wx => ∃ A B : Nat, s7 = .pointer (some ⟨A, 0, none⟩) ∧ s8 = .pointer (some ⟨B, 0, none⟩) ∧ wx.cell? ⟨A, 0, none⟩ = some (.int .i64 (an / Int.gcd an bd)) ∧ wx.cell? ⟨A, 1, none⟩ = some (.int .i64 (bd / Int.gcd an bd)) ∧ wx.cell? ⟨B, 0, none⟩ = some (.int .i64 (bn / Int.gcd bn ad)) ∧ wx.cell? ⟨B, 1, none⟩ = some (.int .i64 (ad / Int.gcd bn ad)) ∧ Below w1.heap.size w1 wx)
  case first =>
    go_region_held3 (fun w' => w'.cell? ⟨w.heap.size, 0, none⟩ = some (.int .i64 an) ∧ w'.cell? ⟨w.heap.size, 1, none⟩ = some (.int .i64 ad) ∧ w'.cell? ⟨w.heap.size + 1, 0, none⟩ = some (.int .i64 bn) ∧ w'.cell? ⟨w.heap.size + 1, 1, none⟩ = some (.int .i64 bd) ∧ Below w1.heap.size w1 w')
      (first
        | exact ⟨ka0, ka1, kb0, kb1, (Below.refl _ _).drew⟩
        | with_reducible assumption
        | with_reducible exact ⟨pa0, pa1, pb0, pb1, hBp⟩
        | with_reducible exact ⟨qa0, qa1, qb0, qb1, hBq⟩
        | (go_split_ands
           try refine And.intro ?_ (And.intro ?_ (And.intro ?_ (And.intro ?_ ?_)))
           all_goals (repeat (first | with_reducible assumption | with_reducible exact below1 w1 _ | with_reducible exact Below.refl _ _ | with_reducible refine cell_tr (below1 _ _) ?_ | with_reducible refine tr ?_ (below1 _ _) | with_reducible refine cell_dr ?_ | with_reducible refine below_dr ?_ | with_reducible refine cell_set2 ?_ (by first | omega | (simp; omega)) | with_reducible refine below_set2 ?_ (by first | omega | (simp; omega))))))
      (first
        | (have hzz := hBp; clear hzz; go_at_call 25; refine (fraction_any _ _ _ (by omega) (by omega) (by omega) (by omega)).mono ?_; rintro e w'' ⟨rfl, hbk2⟩; go_split_ands; have hBq := tr (A := w1) (by assumption) hbk2; have hsq := hBq.size; have qa0 := cell_tr (a := ⟨w.heap.size, 0, none⟩) (v := .int .i64 an) hbk2 (by assumption); have qa1 := cell_tr (a := ⟨w.heap.size, 1, none⟩) (v := .int .i64 ad) hbk2 (by assumption); have qb0 := cell_tr (a := ⟨w.heap.size + 1, 0, none⟩) (v := .int .i64 bn) hbk2 (by assumption); have qb1 := cell_tr (a := ⟨w.heap.size + 1, 1, none⟩) (v := .int .i64 bd) hbk2 (by assumption)
           try (have nd := nw_below (v := w1.heap.size) (b := w1.heap.size) (by first | with_reducible exact nb | with_reducible exact nw_alloc nb | with_reducible exact nw_drew nb | with_reducible exact nw_drew (nw_alloc nb) | with_reducible exact nw_alloc (nw_drew nb)) hbk2; obtain ⟨d0, d1, d2, d3, d4, d5⟩ := id nd)
           try (have ne := nw_below (v := w1.heap.size) (b := w1.heap.size + 1) (by first | with_reducible exact nc | with_reducible exact nw_drew nc) hbk2; obtain ⟨e0, e1, e2, e3, e4, e5⟩ := id ne)
           try (have nf := nw_below (v := w1.heap.size) (b := w'.heap.size) (by first | with_reducible exact nw_new hsp | with_reducible exact nw_drew (nw_new hsp) | with_reducible exact nw_new_d hsp | with_reducible exact nw_alloc (nw_new hsp) | with_reducible exact nw_drew (nw_alloc (nw_new hsp)) | with_reducible exact nw_alloc (nw_drew (nw_new hsp)) | with_reducible exact nw_alloc (nw_new_d hsp)) hbk2; obtain ⟨f0, f1, f2, f3, f4, f5⟩ := id nf)
           try (have ng := nw_below (v := w1.heap.size) (b := w'.heap.size + 1) (by first | with_reducible exact nw_new2 hsp | with_reducible exact nw_drew (nw_new2 hsp) | with_reducible exact nw_new2_d hsp) hbk2; obtain ⟨g0, g1, g2, g3, g4, g5⟩ := id ng))
        | (go_at_call 25; refine (fraction_any _ _ _ (by omega) (by omega) (by omega) (by omega)).mono ?_; rintro e w' ⟨rfl, hbk⟩; go_split_ands; have hBp := tr (A := w1) (by assumption) hbk; have hsp := hBp.size; have pa0 := cell_tr (a := ⟨w.heap.size, 0, none⟩) (v := .int .i64 an) hbk (by assumption); have pa1 := cell_tr (a := ⟨w.heap.size, 1, none⟩) (v := .int .i64 ad) hbk (by assumption); have pb0 := cell_tr (a := ⟨w.heap.size + 1, 0, none⟩) (v := .int .i64 bn) hbk (by assumption); have pb1 := cell_tr (a := ⟨w.heap.size + 1, 1, none⟩) (v := .int .i64 bd) hbk (by assumption)
           try (have nb := nw_below (v := w1.heap.size) (b := w1.heap.size) (by first | with_reducible exact nw_new (Nat.le_refl _) | with_reducible exact nw_drew (nw_new (Nat.le_refl _)) | with_reducible exact nw_new_d (Nat.le_refl _) | with_reducible exact nw_alloc (nw_new (Nat.le_refl _)) | with_reducible exact nw_drew (nw_alloc (nw_new (Nat.le_refl _))) | with_reducible exact nw_alloc (nw_drew (nw_new (Nat.le_refl _))) | with_reducible exact nw_alloc (nw_new_d (Nat.le_refl _))) hbk; obtain ⟨b0, b1, b2, b3, b4, b5⟩ := id nb)
           try (have nc := nw_below (v := w1.heap.size) (b := w1.heap.size + 1) (by first | with_reducible exact nw_new2 (Nat.le_refl _) | with_reducible exact nw_drew (nw_new2 (Nat.le_refl _)) | with_reducible exact nw_new2_d (Nat.le_refl _)) hbk; obtain ⟨c0, c1, c2, c3, c4, c5⟩ := id nc)))
    all_goals (go_wp2_with fail; go_meet; first
      | with_reducible exact ⟨_, _, rfl, rfl, two_ab hBq⟩
      | with_reducible exact ⟨_, _, rfl, rfl, two_ba hBq⟩
      | with_reducible exact ⟨_, _, rfl, rfl, two_sa nf hBq⟩
      | with_reducible exact ⟨_, _, rfl, rfl, two_sb nf hBq⟩
      | with_reducible exact ⟨_, _, rfl, rfl, two_sa nd hBq⟩
      | with_reducible exact ⟨_, _, rfl, rfl, two_sb nd hBq⟩
      | with_reducible exact ⟨_, _, rfl, rfl, two_sets nf ng (by omega) hBq⟩
      | with_reducible exact ⟨_, _, rfl, rfl, two_sets ng nf (by omega) hBq⟩
      | with_reducible exact ⟨_, _, rfl, rfl, two_sets nd nf (by omega) hBq⟩
      | with_reducible exact ⟨_, _, rfl, rfl, two_sets nf nd (by omega) hBq⟩
      | with_reducible exact ⟨_, _, rfl, rfl, two_sets nd ne (by omega) hBq⟩
      | with_reducible exact ⟨_, _, rfl, rfl, two_sets ne nd (by omega) hBq⟩
      | (trace_state; fail))
  case rest =>
    obtain ⟨A, B, rfl, rfl, cA0, cA1, cB0, cB1, hBx⟩ := hcut
    rw [← hxn] at cA0
    rw [← hxd] at cA1
    rw [← hyn] at cB0
    rw [← hyd] at cB1
    have g1 : 1 ≤ (Int.gcd an bd : Int) := gcd_pos b1
    have g2 : 1 ≤ (Int.gcd bn ad : Int) := gcd_pos a1
    have e1 : (Int.gcd an bd : Int) * xn = an := by rw [hxn]; exact Int.mul_ediv_cancel' (Int.gcd_dvd_left ..)
    have e2 : (Int.gcd an bd : Int) * xd = bd := by rw [hxd]; exact Int.mul_ediv_cancel' (Int.gcd_dvd_right ..)
    have e3 : (Int.gcd bn ad : Int) * yn = bn := by rw [hyn]; exact Int.mul_ediv_cancel' (Int.gcd_dvd_left ..)
    have e4 : (Int.gcd bn ad : Int) * yd = ad := by rw [hyd]; exact Int.mul_ediv_cancel' (Int.gcd_dvd_right ..)
    have xn0 : 0 ≤ xn := by rw [hxn]; exact Int.ediv_nonneg a3 (by omega)
    have yn0 : 0 ≤ yn := by rw [hyn]; exact Int.ediv_nonneg b3 (by omega)
    have xd0 : 1 ≤ xd := by rw [hxd]; exact (Int.le_ediv_iff_mul_le (by omega)).2 (by have := Int.le_of_dvd (by omega) (Int.gcd_dvd_right an bd); omega)
    have yd0 : 1 ≤ yd := by rw [hyd]; exact (Int.le_ediv_iff_mul_le (by omega)).2 (by have := Int.le_of_dvd (by omega) (Int.gcd_dvd_right bn ad); omega)
    have hprod := (le_div yd0).1 hp
    have hnum0 : 0 ≤ xn * yn := Int.mul_nonneg xn0 yn0
    have hnum : xn * yn ≤ xd * yd := by
      have h1 : an * bn ≤ ad * bd := Int.mul_le_mul a4 b4 b3 (by omega)
      have hg : 0 < (Int.gcd an bd : Int) * (Int.gcd bn ad : Int) := Int.mul_pos (by omega) (by omega)
      refine Int.le_of_mul_le_mul_left ?_ hg
      have l : (Int.gcd an bd : Int) * (Int.gcd bn ad : Int) * (xn * yn) = an * bn := by
        calc _ = ((Int.gcd an bd : Int) * xn) * ((Int.gcd bn ad : Int) * yn) := by ac_rfl
          _ = an * bn := by rw [e1, e3]
      have r : (Int.gcd an bd : Int) * (Int.gcd bn ad : Int) * (xd * yd) = ad * bd := by
        calc _ = ((Int.gcd bn ad : Int) * yd) * ((Int.gcd an bd : Int) * xd) := by ac_rfl
          _ = ad * bd := by rw [e4, e2]
      rw [l, r]
      exact h1
    have q0 := cell_tr hBx kr0
    have q1 := cell_tr hBx kr1
    have f0 := free_tr hBx kr0 fr0
    have f1 := free_tr hBx kr1 fr1
    have hBq := tr hB1 hBx
    clear hxn hxd hyn hyd e1 e2 e3 e4 g1 g2 ka0 ka1 kb0 kb1 kr0 kr1 fr0 fr1 hBx hB1 Ha Hb
    go_wp2_with fail
    go_call (product_ok xd yd wc (by omega) yd0 hp) as e w' ⟨rfl, rfl⟩
    have hwm : IntKind.i64.wrap (xn * yn) = xn * yn := IntWalk.i64_in _ (by omega)
    go_wp2
    have r0 := set0 (.int .i64 (xn * yn)) q0
    have r1 := set1 (.int .i64 (xn * yn)) (.int .i64 (xd * yd)) q1
    refine bodyPost_ret (v := .tuple #[.agg #[.int .i64 (xn * yn), .int .i64 (xd * yd)], .int .i64 0]) (by simp [results, Try.results7, go_sem, r0, r1]) rfl ⟨rfl, ?_⟩
    exact (hBq.setCell (p := ⟨w.heap.size + 1 + 1, 0, none⟩) (by show w.heap.size ≤ w.heap.size + 1 + 1; omega) _).setCell (p := ⟨w.heap.size + 1 + 1, 1, none⟩) (by show w.heap.size ≤ w.heap.size + 1 + 1; omega) _
end Go.Proofs.Ytnpnnfbmnlgioaa
