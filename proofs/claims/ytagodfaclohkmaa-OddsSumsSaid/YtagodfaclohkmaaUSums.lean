/-
  OddsSums: for any two lists and any two numbers of times, the function returns true and leaves the lists as they are. Nothing is asked of the input.
-/
import Derived.Test.YtagodfaclohkmaaZa
import Derived.Test.YtagodfaclohkmaaVo
import Derived.Test.YtagodfaclohkmaaVp
import Derived.Deep.QuietTactic
import Derived.BigQuiet
import Derived.WalkKit
import Derived.ProofKit
import Derived.OpenShut
import Derived.ChangeOld
import Derived.Below
namespace Go.Proofs.Ytagodfaclohkmaa
open Go.ChangeShapes Go.WideShapes Go.ChangeAt Go.RowKit
set_option linter.unusedVariables false

/-- Sum, as it is used here. -/
theorem sum_at {a b X : List Int} {E : Int} (h : sSum a b = (X, E)) (ha : a.length ≤ 1000000) (hb : b.length ≤ 1000000) (pa : Option Addr) (ca : Nat) (pb : Option Addr) (cb : Nat) (w : World) (hRa : Reads w pa a) (hRb : Reads w pb b) :
    Calls Try.prog 44 #[.slice pa a.length ca, .slice pb b.length cb] w fun e w' => (∃ p c, e = .returned (.tuple #[.slice p X.length c, .int .i64 E]) ∧ Reads w' p X) ∧ Below w.heap.size w w' := by
  have := sum_any pa a ca pb b cb w (by omega) (by omega) hRa hRb
  rw [h] at this
  refine this.mono ?_
  rintro e w' ⟨p, c, rfl, hr, hb⟩
  exact ⟨⟨p, c, rfl, hr⟩, hb⟩
/-- Repeat, as it is used here. -/
theorem rep_at {a X : List Int} {t E : Int} (h : sRep a t = (X, E)) (ha : a.length ≤ 1000000) (pa : Option Addr) (ca : Nat) (w : World) (hRa : Reads w pa a) :
    Calls Try.prog 49 #[.slice pa a.length ca, .int .i64 t] w fun e w' => (∃ p c, e = .returned (.tuple #[.slice p X.length c, .int .i64 E]) ∧ Reads w' p X) ∧ Below w.heap.size w w' := by
  have := repeat_any pa a ca t w (by omega) hRa
  rw [h] at this
  refine this.mono ?_
  rintro e w' ⟨p, c, rfl, hr, hb⟩
  exact ⟨⟨p, c, rfl, hr⟩, hb⟩
theorem sRep_nil {xs : List Int} {t : Int} (h : (sRep xs t).2 ≠ 0) : (sRep xs t).1 = [] := by
  unfold sRep at h ⊢
  split
  · rfl
  · rename_i h1
    rw [if_neg h1] at h
    split
    · rfl
    · rename_i h2
      rw [if_neg h2] at h
      split
      · rfl
      · rename_i h3
        rw [if_neg h3] at h
        exact repRes_nil h
theorem sum_zero {a b : List Int} (h : (sSum a b).2 = 0) : ∃ X, sSum a b = (X, 0) ∧ sSum b a = (X, 0) ∧ sameB X X = true ∧ X.length + 1 = a.length + b.length ∧ Small X ∧ 1 ≤ X.length ∧ X.length ≤ 4096 := by
  obtain ⟨X, h1, h2, h3, h4⟩ := sum_both h
  obtain ⟨x1, x2, x3, x4⟩ := chk1_ok h3
  exact ⟨X, h1, h2, sameB_self h3, h4, x2, len_pos x3, x1⟩

set_option maxRecDepth 100000 in
set_option maxHeartbeats 16000000 in
theorem oddsSums_yes_bad (pa : Option Addr) (a : List Int) (ca : Nat) (pb : Option Addr) (b : List Int) (cb : Nat) (x y : Int) (w : World) (hla : a.length ≤ 20) (hlb : b.length ≤ 20) (hx : 0 ≤ x) (hx2 : x ≤ 255) (hy : 0 ≤ y) (hy2 : y ≤ 255) (m n : Nat) (hm6 : m ≤ 6) (hn6 : n ≤ 6) (hm : Hid (x % 7 = (m : Int))) (hn : Hid (y % 7 = (n : Int))) (X : List Int) (s1 : sSum a b = (X, 0)) (s2 : sSum b a = (X, 0)) (s3 : sameB X X = true) (s4 : X.length + 1 = a.length + b.length) (s5 : Small X) (s6 : 1 ≤ X.length) (E : Int) (t1 : sRep a ((m : Int) + (n : Int)) = ([], E)) (t2 : E ≠ 0) (hC : Came w pa a ca) (hD : Came w pb b cb) :
    Calls Try.prog 13 #[.slice pa a.length ca, .slice pb b.length cb, .agg #[.int .u8 x, .int .u8 y]] w fun e w' => e = .returned (.bool true) ∧ Below w.heap.size w w' := by
  have hS1 := fun pa ca pb cb w (h : Reads w pa a) (h' : Reads w pb b) => sum_at s1 (by omega) (by omega) pa ca pb cb w h h'
  have hS2 := fun pa ca pb cb w (h : Reads w pa b) (h' : Reads w pb a) => sum_at s2 (by omega) (by omega) pa ca pb cb w h h'
  have hsame := fun pa ca pb cb w (h : Reads w pa X) (h' : Reads w pb X) => hsame_any pa X ca pb X cb w (by omega) (by omega) (came_of h s6 s5) (came_of h' s6 s5)
  rw [s3] at hsame
  have hlen : ((X.length : Int) != (a.length : Int) + (b.length : Int) - 1) = false := by simp; omega
  clear s1 s2 s3 s5 s4 s6
  have hR := fun pa ca w (h : Reads w pa a) => rep_at t1 (by omega) pa ca w h
  simp only [List.length_nil] at hR
  have hE : (E != 0) = true := by simpa using t2
  clear t1 t2
  have n1 : ¬ 20 < a.length := by omega
  have n2 : ¬ 20 < b.length := by omega
  go_enter Try.func13, Try.ntmps13
  have hB1 := below1 w (.cells #[.int .u8 x, .int .u8 y] 60)
  have k0 : (w.alloc (.cells #[.int .u8 x, .int .u8 y] 60)).cell? ⟨w.heap.size, 0, none⟩ = some (.int .u8 x) := by go_simp
  have k1 : (w.alloc (.cells #[.int .u8 x, .int .u8 y] 60)).cell? ⟨w.heap.size, 1, none⟩ = some (.int .u8 y) := by go_simp
  obtain ⟨g, hg'⟩ : ∃ g, w.heap.size = g := ⟨_, rfl⟩
  obtain ⟨w1, hw8⟩ : ∃ w8, w.alloc (.cells #[.int .u8 x, .int .u8 y] 60) = w8 := ⟨_, rfl⟩
  go_wp2_with fail
  rw [hw8] at hB1 k0 k1
  rw [hg'] at k0 k1
  clear hw8 hg'
  go_call (own_any pa a ca w1 (by omega) (hC.below hB1 (Nat.le_refl _))) as e w2 ⟨⟨p1, cp1, rfl, qa⟩, hb2⟩
  have hB2 := tr hB1 hb2
  replace k0 := cell_tr hb2 k0
  replace k1 := cell_tr hb2 k1
  clear hb2 hB1
  go_wp2_with fail
  go_call (own_any pb b cb w2 (by omega) (hD.below hB2 (Nat.le_refl _))) as e w3 ⟨⟨p2, cp2, rfl, qb⟩, hb3⟩
  have hB3 := tr hB2 hb3
  replace qa := qa.below hb3 (Nat.le_refl _)
  replace k0 := cell_tr hb3 k0
  replace k1 := cell_tr hb3 k1
  clear hb3 hB2
  go_wp2_with fail
  go_call (hS1 p1 cp1 p2 cp2 _ qa qb) as e w4 ⟨⟨px, cx, rfl, rx⟩, hb4⟩
  have hB4 := tr hB3 hb4
  replace k0 := cell_tr hb4 k0
  replace k1 := cell_tr hb4 k1
  clear hb4 hB3 qa qb
  go_wp2_with fail
  go_call (own_any pb b cb w4 (by omega) (hD.below hB4 (Nat.le_refl _))) as e w5 ⟨⟨p3, cp3, rfl, qb⟩, hb5⟩
  have hB5 := tr hB4 hb5
  replace rx := rx.below hb5 (Nat.le_refl _)
  replace k0 := cell_tr hb5 k0
  replace k1 := cell_tr hb5 k1
  clear hb5 hB4
  go_wp2_with fail
  go_call (own_any pa a ca w5 (by omega) (hC.below hB5 (Nat.le_refl _))) as e w6 ⟨⟨p4, cp4, rfl, qa⟩, hb6⟩
  have hB6 := tr hB5 hb6
  replace rx := rx.below hb6 (Nat.le_refl _)
  replace qb := qb.below hb6 (Nat.le_refl _)
  replace k0 := cell_tr hb6 k0
  replace k1 := cell_tr hb6 k1
  clear hb6 hB5
  go_wp2_with fail
  go_call (hS2 p3 cp3 p4 cp4 _ qb qa) as e w7 ⟨⟨py, cy, rfl, ry⟩, hb7⟩
  have hB7 := tr hB6 hb7
  replace rx := rx.below hb7 (Nat.le_refl _)
  replace k0 := cell_tr hb7 k0
  replace k1 := cell_tr hb7 k1
  clear hb7 hB6 qb qa
  go_wp2_with fail
  go_call (hsame px cx py cy _ rx ry) as e w8 ⟨rfl, hb8⟩
  have hB8 := tr hB7 hb8
  replace k0 := cell_tr hb8 k0
  replace k1 := cell_tr hb8 k1
  clear hb8 hB7 rx ry
  go_wp2_with fail
  go_quiet (fail)
  clear k0 k1
  go_wp2_with fail
  go_call (own_any pa a ca _ (by omega) (hC.below (tr hB8 (below_drewN (Below.refl w8.heap.size w8) _)) (Nat.le_refl _))) as e w9 ⟨⟨p5, cp5, rfl, qa⟩, hb9⟩
  have hB9 := tr (tr hB8 (below_drewN (Below.refl w8.heap.size w8) _)) hb9
  clear hb9 hB8
  go_wp2_with fail
  rw [hm.out, hn.out]
  go_call (hR p5 cp5 _ qa) as e w10 ⟨⟨pt, ct, rfl, rt⟩, hb10⟩
  have hB10 := tr hB9 hb10
  clear hb10 hB9 qa
  clear rt
  go_wp2_with fail
  go_call (known_any _) as e w11 ⟨rfl, hb11⟩
  have hB11 := tr hB10 hb11
  clear hb11 hB10
  go_wp2
  go_returns
  exact ⟨rfl, hB11⟩

set_option maxRecDepth 100000 in
set_option maxHeartbeats 16000000 in
theorem oddsSums_yes_ok (pa : Option Addr) (a : List Int) (ca : Nat) (pb : Option Addr) (b : List Int) (cb : Nat) (x y : Int) (w : World) (hla : a.length ≤ 20) (hlb : b.length ≤ 20) (hx : 0 ≤ x) (hx2 : x ≤ 255) (hy : 0 ≤ y) (hy2 : y ≤ 255) (m n : Nat) (hm6 : m ≤ 6) (hn6 : n ≤ 6) (hm : Hid (x % 7 = (m : Int))) (hn : Hid (y % 7 = (n : Int))) (X : List Int) (s1 : sSum a b = (X, 0)) (s2 : sSum b a = (X, 0)) (s3 : sameB X X = true) (s4 : X.length + 1 = a.length + b.length) (s5 : Small X) (s6 : 1 ≤ X.length) (A P Q : List Int) (t1 : sRep a ((m : Int) + (n : Int)) = (A, 0)) (t2 : sRep a m = (P, 0)) (t3 : sRep a n = (Q, 0)) (t4 : sSum P Q = (A, 0)) (t5 : sRep a 1 = (a, 0)) (t6 : P.length ≤ 4096) (t7 : Q.length ≤ 4096) (t8 : A.length ≤ 4096) (hC : Came w pa a ca) (hD : Came w pb b cb) :
    Calls Try.prog 13 #[.slice pa a.length ca, .slice pb b.length cb, .agg #[.int .u8 x, .int .u8 y]] w fun e w' => e = .returned (.bool true) ∧ Below w.heap.size w w' := by
  have hS1 := fun pa ca pb cb w (h : Reads w pa a) (h' : Reads w pb b) => sum_at s1 (by omega) (by omega) pa ca pb cb w h h'
  have hS2 := fun pa ca pb cb w (h : Reads w pa b) (h' : Reads w pb a) => sum_at s2 (by omega) (by omega) pa ca pb cb w h h'
  have hsame := fun pa ca pb cb w (h : Reads w pa X) (h' : Reads w pb X) => hsame_any pa X ca pb X cb w (by omega) (by omega) (came_of h s6 s5) (came_of h' s6 s5)
  rw [s3] at hsame
  have hlen : ((X.length : Int) != (a.length : Int) + (b.length : Int) - 1) = false := by simp; omega
  clear s1 s2 s3 s5 s4 s6
  have hR := fun pa ca w (h : Reads w pa a) => rep_at t1 (by omega) pa ca w h
  have hP := fun pa ca w (h : Reads w pa a) => rep_at t2 (by omega) pa ca w h
  have hQ := fun pa ca w (h : Reads w pa a) => rep_at t3 (by omega) pa ca w h
  have hPQ := fun pa ca pb cb w (h : Reads w pa P) (h' : Reads w pb Q) => sum_at t4 (by omega) (by omega) pa ca pb cb w h h'
  have h1 := fun pa ca w (h : Reads w pa a) => rep_at t5 (by omega) pa ca w h
  clear t1 t2 t3 t4 t5
  have n1 : ¬ 20 < a.length := by omega
  have n2 : ¬ 20 < b.length := by omega
  go_enter Try.func13, Try.ntmps13
  have hB1 := below1 w (.cells #[.int .u8 x, .int .u8 y] 60)
  have k0 : (w.alloc (.cells #[.int .u8 x, .int .u8 y] 60)).cell? ⟨w.heap.size, 0, none⟩ = some (.int .u8 x) := by go_simp
  have k1 : (w.alloc (.cells #[.int .u8 x, .int .u8 y] 60)).cell? ⟨w.heap.size, 1, none⟩ = some (.int .u8 y) := by go_simp
  obtain ⟨g, hg'⟩ : ∃ g, w.heap.size = g := ⟨_, rfl⟩
  obtain ⟨w1, hw8⟩ : ∃ w8, w.alloc (.cells #[.int .u8 x, .int .u8 y] 60) = w8 := ⟨_, rfl⟩
  go_wp2_with fail
  rw [hw8] at hB1 k0 k1
  rw [hg'] at k0 k1
  clear hw8 hg'
  go_call (own_any pa a ca w1 (by omega) (hC.below hB1 (Nat.le_refl _))) as e w2 ⟨⟨p1, cp1, rfl, qa⟩, hb2⟩
  have hB2 := tr hB1 hb2
  replace k0 := cell_tr hb2 k0
  replace k1 := cell_tr hb2 k1
  clear hb2 hB1
  go_wp2_with fail
  go_call (own_any pb b cb w2 (by omega) (hD.below hB2 (Nat.le_refl _))) as e w3 ⟨⟨p2, cp2, rfl, qb⟩, hb3⟩
  have hB3 := tr hB2 hb3
  replace qa := qa.below hb3 (Nat.le_refl _)
  replace k0 := cell_tr hb3 k0
  replace k1 := cell_tr hb3 k1
  clear hb3 hB2
  go_wp2_with fail
  go_call (hS1 p1 cp1 p2 cp2 _ qa qb) as e w4 ⟨⟨px, cx, rfl, rx⟩, hb4⟩
  have hB4 := tr hB3 hb4
  replace k0 := cell_tr hb4 k0
  replace k1 := cell_tr hb4 k1
  clear hb4 hB3 qa qb
  go_wp2_with fail
  go_call (own_any pb b cb w4 (by omega) (hD.below hB4 (Nat.le_refl _))) as e w5 ⟨⟨p3, cp3, rfl, qb⟩, hb5⟩
  have hB5 := tr hB4 hb5
  replace rx := rx.below hb5 (Nat.le_refl _)
  replace k0 := cell_tr hb5 k0
  replace k1 := cell_tr hb5 k1
  clear hb5 hB4
  go_wp2_with fail
  go_call (own_any pa a ca w5 (by omega) (hC.below hB5 (Nat.le_refl _))) as e w6 ⟨⟨p4, cp4, rfl, qa⟩, hb6⟩
  have hB6 := tr hB5 hb6
  replace rx := rx.below hb6 (Nat.le_refl _)
  replace qb := qb.below hb6 (Nat.le_refl _)
  replace k0 := cell_tr hb6 k0
  replace k1 := cell_tr hb6 k1
  clear hb6 hB5
  go_wp2_with fail
  go_call (hS2 p3 cp3 p4 cp4 _ qb qa) as e w7 ⟨⟨py, cy, rfl, ry⟩, hb7⟩
  have hB7 := tr hB6 hb7
  replace rx := rx.below hb7 (Nat.le_refl _)
  replace k0 := cell_tr hb7 k0
  replace k1 := cell_tr hb7 k1
  clear hb7 hB6 qb qa
  go_wp2_with fail
  go_call (hsame px cx py cy _ rx ry) as e w8 ⟨rfl, hb8⟩
  have hB8 := tr hB7 hb8
  replace k0 := cell_tr hb8 k0
  replace k1 := cell_tr hb8 k1
  clear hb8 hB7 rx ry
  go_wp2_with fail
  go_quiet (fail)
  clear k0 k1
  go_wp2_with fail
  go_call (own_any pa a ca _ (by omega) (hC.below (tr hB8 (below_drewN (Below.refl w8.heap.size w8) _)) (Nat.le_refl _))) as e w9 ⟨⟨p5, cp5, rfl, qa⟩, hb9⟩
  have hB9 := tr (tr hB8 (below_drewN (Below.refl w8.heap.size w8) _)) hb9
  clear hb9 hB8
  go_wp2_with fail
  rw [hm.out, hn.out]
  go_call (hR p5 cp5 _ qa) as e w10 ⟨⟨pt, ct, rfl, rt⟩, hb10⟩
  have hB10 := tr hB9 hb10
  clear hb10 hB9 qa
  go_wp2_with fail
  go_call (own_any pa a ca w10 (by omega) (hC.below hB10 (Nat.le_refl _))) as e w11 ⟨⟨p6, cp6, rfl, qa⟩, hb11⟩
  have hB11 := tr hB10 hb11
  replace rt := rt.below hb11 (Nat.le_refl _)
  clear hb11 hB10
  go_wp2_with fail
  go_call (hP p6 cp6 _ qa) as e w12 ⟨⟨pp, cp, rfl, rp⟩, hb12⟩
  have hB12 := tr hB11 hb12
  replace rt := rt.below hb12 (Nat.le_refl _)
  clear hb12 hB11 qa
  go_wp2_with fail
  go_call (own_any pa a ca w12 (by omega) (hC.below hB12 (Nat.le_refl _))) as e w13 ⟨⟨p7, cp7, rfl, qa⟩, hb13⟩
  have hB13 := tr hB12 hb13
  replace rt := rt.below hb13 (Nat.le_refl _)
  replace rp := rp.below hb13 (Nat.le_refl _)
  clear hb13 hB12
  go_wp2_with fail
  go_call (hQ p7 cp7 _ qa) as e w14 ⟨⟨pq, cq, rfl, rq⟩, hb14⟩
  have hB14 := tr hB13 hb14
  replace rt := rt.below hb14 (Nat.le_refl _)
  replace rp := rp.below hb14 (Nat.le_refl _)
  clear hb14 hB13 qa
  go_wp2_with fail
  go_call (hPQ pp cp pq cq _ rp rq) as e w15 ⟨⟨pr, cr, rfl, rr⟩, hb15⟩
  have hB15 := tr hB14 hb15
  replace rt := rt.below hb15 (Nat.le_refl _)
  clear hb15 hB14 rp rq
  go_wp2_with fail
  go_call (own_any pa a ca w15 (by omega) (hC.below hB15 (Nat.le_refl _))) as e w16 ⟨⟨p8, cp8, rfl, qa⟩, hb16⟩
  have hB16 := tr hB15 hb16
  replace rt := rt.below hb16 (Nat.le_refl _)
  replace rr := rr.below hb16 (Nat.le_refl _)
  clear hb16 hB15
  go_wp2_with fail
  go_call (h1 p8 cp8 _ qa) as e w17 ⟨⟨po, co, rfl, ro⟩, hb17⟩
  have hB17 := tr hB16 hb17
  replace rt := rt.below hb17 (Nat.le_refl _)
  replace rr := rr.below hb17 (Nat.le_refl _)
  clear hb17 hB16 qa
  go_wp2
  go_loopw [18] (fun i wr => ∃ k : Nat, k ≤ A.length ∧ i = .int .i64 k ∧ Below w17.heap.size w17 wr) (fun i _ => A.length - (intOf i).toNat)
  case atStart => exact ⟨0, Nat.zero_le _, rfl, Below.refl _ _⟩
  case round =>
    obtain ⟨k, hk, rfl, hbr⟩ := hrel
    by_cases hlt : k < A.length
    · obtain ⟨q, o, rfl, hc1⟩ := rr.below hbr (Nat.le_refl _) k hlt
      obtain ⟨q2, o2, rfl, hc2⟩ := rt.below hbr (Nat.le_refl _) k hlt
      have hki : (k : Int) < (A.length : Int) := by omega
      have hne : (nth A k != nth A k) = false := by simp
      go_wp2
      go_quiet (fail)
      go_wp2
      go_roundw
      case rel => exact ⟨k + 1, by omega, by go_num, below_drewN hbr _⟩
      case measure => simp [intOf]; omega
    · obtain rfl : k = A.length := by omega
      have hBr := tr hB17 hbr
      replace ro := ro.below hbr (Nat.le_refl _)
      clear rr rt hbr hB17
      obtain ⟨wl, hwl⟩ : ∃ W : World, W = wr := ⟨_, rfl⟩
      subst hwl
      go_wp2
      go_loopw [19] (fun i wr => ∃ k : Nat, k ≤ a.length ∧ i = .int .i64 k ∧ Below wl.heap.size wl wr) (fun i _ => a.length - (intOf i).toNat)
      case atStart => exact ⟨0, Nat.zero_le _, rfl, Below.refl _ _⟩
      case round =>
        obtain ⟨k, hk, rfl, hbr⟩ := hrel
        by_cases hlt : k < a.length
        · obtain ⟨q, o, rfl, hc1⟩ := ro.below hbr (Nat.le_refl _) k hlt
          obtain ⟨q2, o2, rfl, hc2⟩ := (hC.2.1.below hBr (Nat.le_refl _)).below hbr (Nat.le_refl _) k hlt
          have hki : (k : Int) < (a.length : Int) := by omega
          have hne : (nth a k != nth a k) = false := by simp
          go_wp2
          go_quiet (fail)
          go_wp2
          go_roundw
          case rel => exact ⟨k + 1, by omega, by go_num, below_drewN hbr _⟩
          case measure => simp [intOf]; omega
        · obtain rfl : k = a.length := by omega
          go_wp2_with fail
          go_call (known_any _) as e wz ⟨rfl, hbz⟩
          go_wp2
          go_returns
          exact ⟨rfl, tr hBr (tr hbr hbz)⟩

set_option maxRecDepth 100000 in
set_option maxHeartbeats 16000000 in
theorem oddsSums_no_bad (pa : Option Addr) (a : List Int) (ca : Nat) (pb : Option Addr) (b : List Int) (cb : Nat) (x y : Int) (w : World) (hla : a.length ≤ 20) (hlb : b.length ≤ 20) (hx : 0 ≤ x) (hx2 : x ≤ 255) (hy : 0 ≤ y) (hy2 : y ≤ 255) (m n : Nat) (hm6 : m ≤ 6) (hn6 : n ≤ 6) (hm : Hid (x % 7 = (m : Int))) (hn : Hid (y % 7 = (n : Int))) (X Y : List Int) (E1 E2 : Int) (s1 : sSum a b = (X, E1)) (s2 : sSum b a = (Y, E2)) (s3 : E1 ≠ 0) (E : Int) (t1 : sRep a ((m : Int) + (n : Int)) = ([], E)) (t2 : E ≠ 0) (hC : Came w pa a ca) (hD : Came w pb b cb) :
    Calls Try.prog 13 #[.slice pa a.length ca, .slice pb b.length cb, .agg #[.int .u8 x, .int .u8 y]] w fun e w' => e = .returned (.bool true) ∧ Below w.heap.size w w' := by
  have hS1 := fun pa ca pb cb w (h : Reads w pa a) (h' : Reads w pb b) => sum_at s1 (by omega) (by omega) pa ca pb cb w h h'
  have hS2 := fun pa ca pb cb w (h : Reads w pa b) (h' : Reads w pb a) => sum_at s2 (by omega) (by omega) pa ca pb cb w h h'
  have hE1 : (E1 == 0) = false := by simpa using s3
  clear s1 s2 s3
  have hR := fun pa ca w (h : Reads w pa a) => rep_at t1 (by omega) pa ca w h
  simp only [List.length_nil] at hR
  have hE : (E != 0) = true := by simpa using t2
  clear t1 t2
  have n1 : ¬ 20 < a.length := by omega
  have n2 : ¬ 20 < b.length := by omega
  go_enter Try.func13, Try.ntmps13
  have hB1 := below1 w (.cells #[.int .u8 x, .int .u8 y] 60)
  have k0 : (w.alloc (.cells #[.int .u8 x, .int .u8 y] 60)).cell? ⟨w.heap.size, 0, none⟩ = some (.int .u8 x) := by go_simp
  have k1 : (w.alloc (.cells #[.int .u8 x, .int .u8 y] 60)).cell? ⟨w.heap.size, 1, none⟩ = some (.int .u8 y) := by go_simp
  obtain ⟨g, hg'⟩ : ∃ g, w.heap.size = g := ⟨_, rfl⟩
  obtain ⟨w1, hw8⟩ : ∃ w8, w.alloc (.cells #[.int .u8 x, .int .u8 y] 60) = w8 := ⟨_, rfl⟩
  go_wp2_with fail
  rw [hw8] at hB1 k0 k1
  rw [hg'] at k0 k1
  clear hw8 hg'
  go_call (own_any pa a ca w1 (by omega) (hC.below hB1 (Nat.le_refl _))) as e w2 ⟨⟨p1, cp1, rfl, qa⟩, hb2⟩
  have hB2 := tr hB1 hb2
  replace k0 := cell_tr hb2 k0
  replace k1 := cell_tr hb2 k1
  clear hb2 hB1
  go_wp2_with fail
  go_call (own_any pb b cb w2 (by omega) (hD.below hB2 (Nat.le_refl _))) as e w3 ⟨⟨p2, cp2, rfl, qb⟩, hb3⟩
  have hB3 := tr hB2 hb3
  replace qa := qa.below hb3 (Nat.le_refl _)
  replace k0 := cell_tr hb3 k0
  replace k1 := cell_tr hb3 k1
  clear hb3 hB2
  go_wp2_with fail
  go_call (hS1 p1 cp1 p2 cp2 _ qa qb) as e w4 ⟨⟨px, cx, rfl, rx⟩, hb4⟩
  have hB4 := tr hB3 hb4
  replace k0 := cell_tr hb4 k0
  replace k1 := cell_tr hb4 k1
  clear hb4 hB3 qa qb
  go_wp2_with fail
  go_call (own_any pb b cb w4 (by omega) (hD.below hB4 (Nat.le_refl _))) as e w5 ⟨⟨p3, cp3, rfl, qb⟩, hb5⟩
  have hB5 := tr hB4 hb5
  replace rx := rx.below hb5 (Nat.le_refl _)
  replace k0 := cell_tr hb5 k0
  replace k1 := cell_tr hb5 k1
  clear hb5 hB4
  go_wp2_with fail
  go_call (own_any pa a ca w5 (by omega) (hC.below hB5 (Nat.le_refl _))) as e w6 ⟨⟨p4, cp4, rfl, qa⟩, hb6⟩
  have hB6 := tr hB5 hb6
  replace rx := rx.below hb6 (Nat.le_refl _)
  replace qb := qb.below hb6 (Nat.le_refl _)
  replace k0 := cell_tr hb6 k0
  replace k1 := cell_tr hb6 k1
  clear hb6 hB5
  go_wp2_with fail
  go_call (hS2 p3 cp3 p4 cp4 _ qb qa) as e w7 ⟨⟨py, cy, rfl, ry⟩, hb7⟩
  have hB7 := tr hB6 hb7
  replace rx := rx.below hb7 (Nat.le_refl _)
  replace k0 := cell_tr hb7 k0
  replace k1 := cell_tr hb7 k1
  clear hb7 hB6 qb qa
  clear rx ry
  go_wp2_with fail
  go_quiet (fail)
  clear k0 k1
  go_wp2_with fail
  go_call (own_any pa a ca _ (by omega) (hC.below (tr hB7 (below_drewN (Below.refl w7.heap.size w7) _)) (Nat.le_refl _))) as e w8 ⟨⟨p5, cp5, rfl, qa⟩, hb8⟩
  have hB8 := tr (tr hB7 (below_drewN (Below.refl w7.heap.size w7) _)) hb8
  clear hb8 hB7
  go_wp2_with fail
  rw [hm.out, hn.out]
  go_call (hR p5 cp5 _ qa) as e w9 ⟨⟨pt, ct, rfl, rt⟩, hb9⟩
  have hB9 := tr hB8 hb9
  clear hb9 hB8 qa
  clear rt
  go_wp2_with fail
  go_call (known_any _) as e w10 ⟨rfl, hb10⟩
  have hB10 := tr hB9 hb10
  clear hb10 hB9
  go_wp2
  go_returns
  exact ⟨rfl, hB10⟩

set_option maxRecDepth 100000 in
set_option maxHeartbeats 16000000 in
theorem oddsSums_no_ok (pa : Option Addr) (a : List Int) (ca : Nat) (pb : Option Addr) (b : List Int) (cb : Nat) (x y : Int) (w : World) (hla : a.length ≤ 20) (hlb : b.length ≤ 20) (hx : 0 ≤ x) (hx2 : x ≤ 255) (hy : 0 ≤ y) (hy2 : y ≤ 255) (m n : Nat) (hm6 : m ≤ 6) (hn6 : n ≤ 6) (hm : Hid (x % 7 = (m : Int))) (hn : Hid (y % 7 = (n : Int))) (X Y : List Int) (E1 E2 : Int) (s1 : sSum a b = (X, E1)) (s2 : sSum b a = (Y, E2)) (s3 : E1 ≠ 0) (A P Q : List Int) (t1 : sRep a ((m : Int) + (n : Int)) = (A, 0)) (t2 : sRep a m = (P, 0)) (t3 : sRep a n = (Q, 0)) (t4 : sSum P Q = (A, 0)) (t5 : sRep a 1 = (a, 0)) (t6 : P.length ≤ 4096) (t7 : Q.length ≤ 4096) (t8 : A.length ≤ 4096) (hC : Came w pa a ca) (hD : Came w pb b cb) :
    Calls Try.prog 13 #[.slice pa a.length ca, .slice pb b.length cb, .agg #[.int .u8 x, .int .u8 y]] w fun e w' => e = .returned (.bool true) ∧ Below w.heap.size w w' := by
  have hS1 := fun pa ca pb cb w (h : Reads w pa a) (h' : Reads w pb b) => sum_at s1 (by omega) (by omega) pa ca pb cb w h h'
  have hS2 := fun pa ca pb cb w (h : Reads w pa b) (h' : Reads w pb a) => sum_at s2 (by omega) (by omega) pa ca pb cb w h h'
  have hE1 : (E1 == 0) = false := by simpa using s3
  clear s1 s2 s3
  have hR := fun pa ca w (h : Reads w pa a) => rep_at t1 (by omega) pa ca w h
  have hP := fun pa ca w (h : Reads w pa a) => rep_at t2 (by omega) pa ca w h
  have hQ := fun pa ca w (h : Reads w pa a) => rep_at t3 (by omega) pa ca w h
  have hPQ := fun pa ca pb cb w (h : Reads w pa P) (h' : Reads w pb Q) => sum_at t4 (by omega) (by omega) pa ca pb cb w h h'
  have h1 := fun pa ca w (h : Reads w pa a) => rep_at t5 (by omega) pa ca w h
  clear t1 t2 t3 t4 t5
  have n1 : ¬ 20 < a.length := by omega
  have n2 : ¬ 20 < b.length := by omega
  go_enter Try.func13, Try.ntmps13
  have hB1 := below1 w (.cells #[.int .u8 x, .int .u8 y] 60)
  have k0 : (w.alloc (.cells #[.int .u8 x, .int .u8 y] 60)).cell? ⟨w.heap.size, 0, none⟩ = some (.int .u8 x) := by go_simp
  have k1 : (w.alloc (.cells #[.int .u8 x, .int .u8 y] 60)).cell? ⟨w.heap.size, 1, none⟩ = some (.int .u8 y) := by go_simp
  obtain ⟨g, hg'⟩ : ∃ g, w.heap.size = g := ⟨_, rfl⟩
  obtain ⟨w1, hw8⟩ : ∃ w8, w.alloc (.cells #[.int .u8 x, .int .u8 y] 60) = w8 := ⟨_, rfl⟩
  go_wp2_with fail
  rw [hw8] at hB1 k0 k1
  rw [hg'] at k0 k1
  clear hw8 hg'
  go_call (own_any pa a ca w1 (by omega) (hC.below hB1 (Nat.le_refl _))) as e w2 ⟨⟨p1, cp1, rfl, qa⟩, hb2⟩
  have hB2 := tr hB1 hb2
  replace k0 := cell_tr hb2 k0
  replace k1 := cell_tr hb2 k1
  clear hb2 hB1
  go_wp2_with fail
  go_call (own_any pb b cb w2 (by omega) (hD.below hB2 (Nat.le_refl _))) as e w3 ⟨⟨p2, cp2, rfl, qb⟩, hb3⟩
  have hB3 := tr hB2 hb3
  replace qa := qa.below hb3 (Nat.le_refl _)
  replace k0 := cell_tr hb3 k0
  replace k1 := cell_tr hb3 k1
  clear hb3 hB2
  go_wp2_with fail
  go_call (hS1 p1 cp1 p2 cp2 _ qa qb) as e w4 ⟨⟨px, cx, rfl, rx⟩, hb4⟩
  have hB4 := tr hB3 hb4
  replace k0 := cell_tr hb4 k0
  replace k1 := cell_tr hb4 k1
  clear hb4 hB3 qa qb
  go_wp2_with fail
  go_call (own_any pb b cb w4 (by omega) (hD.below hB4 (Nat.le_refl _))) as e w5 ⟨⟨p3, cp3, rfl, qb⟩, hb5⟩
  have hB5 := tr hB4 hb5
  replace rx := rx.below hb5 (Nat.le_refl _)
  replace k0 := cell_tr hb5 k0
  replace k1 := cell_tr hb5 k1
  clear hb5 hB4
  go_wp2_with fail
  go_call (own_any pa a ca w5 (by omega) (hC.below hB5 (Nat.le_refl _))) as e w6 ⟨⟨p4, cp4, rfl, qa⟩, hb6⟩
  have hB6 := tr hB5 hb6
  replace rx := rx.below hb6 (Nat.le_refl _)
  replace qb := qb.below hb6 (Nat.le_refl _)
  replace k0 := cell_tr hb6 k0
  replace k1 := cell_tr hb6 k1
  clear hb6 hB5
  go_wp2_with fail
  go_call (hS2 p3 cp3 p4 cp4 _ qb qa) as e w7 ⟨⟨py, cy, rfl, ry⟩, hb7⟩
  have hB7 := tr hB6 hb7
  replace rx := rx.below hb7 (Nat.le_refl _)
  replace k0 := cell_tr hb7 k0
  replace k1 := cell_tr hb7 k1
  clear hb7 hB6 qb qa
  clear rx ry
  go_wp2_with fail
  go_quiet (fail)
  clear k0 k1
  go_wp2_with fail
  go_call (own_any pa a ca _ (by omega) (hC.below (tr hB7 (below_drewN (Below.refl w7.heap.size w7) _)) (Nat.le_refl _))) as e w8 ⟨⟨p5, cp5, rfl, qa⟩, hb8⟩
  have hB8 := tr (tr hB7 (below_drewN (Below.refl w7.heap.size w7) _)) hb8
  clear hb8 hB7
  go_wp2_with fail
  rw [hm.out, hn.out]
  go_call (hR p5 cp5 _ qa) as e w9 ⟨⟨pt, ct, rfl, rt⟩, hb9⟩
  have hB9 := tr hB8 hb9
  clear hb9 hB8 qa
  go_wp2_with fail
  go_call (own_any pa a ca w9 (by omega) (hC.below hB9 (Nat.le_refl _))) as e w10 ⟨⟨p6, cp6, rfl, qa⟩, hb10⟩
  have hB10 := tr hB9 hb10
  replace rt := rt.below hb10 (Nat.le_refl _)
  clear hb10 hB9
  go_wp2_with fail
  go_call (hP p6 cp6 _ qa) as e w11 ⟨⟨pp, cp, rfl, rp⟩, hb11⟩
  have hB11 := tr hB10 hb11
  replace rt := rt.below hb11 (Nat.le_refl _)
  clear hb11 hB10 qa
  go_wp2_with fail
  go_call (own_any pa a ca w11 (by omega) (hC.below hB11 (Nat.le_refl _))) as e w12 ⟨⟨p7, cp7, rfl, qa⟩, hb12⟩
  have hB12 := tr hB11 hb12
  replace rt := rt.below hb12 (Nat.le_refl _)
  replace rp := rp.below hb12 (Nat.le_refl _)
  clear hb12 hB11
  go_wp2_with fail
  go_call (hQ p7 cp7 _ qa) as e w13 ⟨⟨pq, cq, rfl, rq⟩, hb13⟩
  have hB13 := tr hB12 hb13
  replace rt := rt.below hb13 (Nat.le_refl _)
  replace rp := rp.below hb13 (Nat.le_refl _)
  clear hb13 hB12 qa
  go_wp2_with fail
  go_call (hPQ pp cp pq cq _ rp rq) as e w14 ⟨⟨pr, cr, rfl, rr⟩, hb14⟩
  have hB14 := tr hB13 hb14
  replace rt := rt.below hb14 (Nat.le_refl _)
  clear hb14 hB13 rp rq
  go_wp2_with fail
  go_call (own_any pa a ca w14 (by omega) (hC.below hB14 (Nat.le_refl _))) as e w15 ⟨⟨p8, cp8, rfl, qa⟩, hb15⟩
  have hB15 := tr hB14 hb15
  replace rt := rt.below hb15 (Nat.le_refl _)
  replace rr := rr.below hb15 (Nat.le_refl _)
  clear hb15 hB14
  go_wp2_with fail
  go_call (h1 p8 cp8 _ qa) as e w16 ⟨⟨po, co, rfl, ro⟩, hb16⟩
  have hB16 := tr hB15 hb16
  replace rt := rt.below hb16 (Nat.le_refl _)
  replace rr := rr.below hb16 (Nat.le_refl _)
  clear hb16 hB15 qa
  go_wp2
  go_loopw [18] (fun i wr => ∃ k : Nat, k ≤ A.length ∧ i = .int .i64 k ∧ Below w16.heap.size w16 wr) (fun i _ => A.length - (intOf i).toNat)
  case atStart => exact ⟨0, Nat.zero_le _, rfl, Below.refl _ _⟩
  case round =>
    obtain ⟨k, hk, rfl, hbr⟩ := hrel
    by_cases hlt : k < A.length
    · obtain ⟨q, o, rfl, hc1⟩ := rr.below hbr (Nat.le_refl _) k hlt
      obtain ⟨q2, o2, rfl, hc2⟩ := rt.below hbr (Nat.le_refl _) k hlt
      have hki : (k : Int) < (A.length : Int) := by omega
      have hne : (nth A k != nth A k) = false := by simp
      go_wp2
      go_quiet (fail)
      go_wp2
      go_roundw
      case rel => exact ⟨k + 1, by omega, by go_num, below_drewN hbr _⟩
      case measure => simp [intOf]; omega
    · obtain rfl : k = A.length := by omega
      have hBr := tr hB16 hbr
      replace ro := ro.below hbr (Nat.le_refl _)
      clear rr rt hbr hB16
      obtain ⟨wl, hwl⟩ : ∃ W : World, W = wr := ⟨_, rfl⟩
      subst hwl
      go_wp2
      go_loopw [19] (fun i wr => ∃ k : Nat, k ≤ a.length ∧ i = .int .i64 k ∧ Below wl.heap.size wl wr) (fun i _ => a.length - (intOf i).toNat)
      case atStart => exact ⟨0, Nat.zero_le _, rfl, Below.refl _ _⟩
      case round =>
        obtain ⟨k, hk, rfl, hbr⟩ := hrel
        by_cases hlt : k < a.length
        · obtain ⟨q, o, rfl, hc1⟩ := ro.below hbr (Nat.le_refl _) k hlt
          obtain ⟨q2, o2, rfl, hc2⟩ := (hC.2.1.below hBr (Nat.le_refl _)).below hbr (Nat.le_refl _) k hlt
          have hki : (k : Int) < (a.length : Int) := by omega
          have hne : (nth a k != nth a k) = false := by simp
          go_wp2
          go_quiet (fail)
          go_wp2
          go_roundw
          case rel => exact ⟨k + 1, by omega, by go_num, below_drewN hbr _⟩
          case measure => simp [intOf]; omega
        · obtain rfl : k = a.length := by omega
          go_wp2_with fail
          go_call (known_any _) as e wz ⟨rfl, hbz⟩
          go_wp2
          go_returns
          exact ⟨rfl, tr hBr (tr hbr hbz)⟩

set_option maxRecDepth 100000 in
set_option maxHeartbeats 4000000 in
theorem oddsSums_walk (pa : Option Addr) (a : List Int) (ca : Nat) (pb : Option Addr) (b : List Int) (cb : Nat) (x y : Int) (w : World) (hx : 0 ≤ x) (hx2 : x ≤ 255) (hy : 0 ≤ y) (hy2 : y ≤ 255) (hC : Came w pa a ca) (hD : Came w pb b cb) :
    Calls Try.prog 13 #[.slice pa a.length ca, .slice pb b.length cb, .agg #[.int .u8 x, .int .u8 y]] w fun e w' => e = .returned (.bool true) ∧ Below w.heap.size w w' := by
  by_cases h1 : 20 < a.length
  · have hB1 := below1 w (.cells #[.int .u8 x, .int .u8 y] 60)
    go_enter Try.func13, Try.ntmps13
    go_wp2_with fail
    go_call (known_any _) as e w2 ⟨rfl, hb2⟩
    go_wp2
    go_returns
    exact ⟨rfl, hB1.trans (hb2.mono (by simp))⟩
  · by_cases h2 : 20 < b.length
    · have hB1 := below1 w (.cells #[.int .u8 x, .int .u8 y] 60)
      go_enter Try.func13, Try.ntmps13
      go_wp2_with fail
      go_call (known_any _) as e w2 ⟨rfl, hb2⟩
      go_wp2
      go_returns
      exact ⟨rfl, hB1.trans (hb2.mono (by simp))⟩
    · have hmod : ∀ z : Int, 0 ≤ z → ∃ m : Nat, m ≤ 6 ∧ Hid (z % 7 = (m : Int)) := fun z hz => by
        refine ⟨(z % 7).toNat, by omega, ?_⟩
        show _ = _
        omega
      obtain ⟨m, hm6, hm⟩ := hmod x hx
      obtain ⟨n, hn6, hn⟩ := hmod y hy
      by_cases e2 : (sRep a (m + n : Nat)).2 = 0
      · obtain ⟨A, P, Q, t1, t2, t3, t4, t5, t6, t7, t8, t9⟩ := rep_all hm6 hn6 (by omega) e2
        rw [Int.natCast_add] at t1
        by_cases e1 : (sSum a b).2 = 0
        · obtain ⟨X, s1, s2, s3, s4, s5, s6, _⟩ := sum_zero e1
          exact oddsSums_yes_ok pa a ca pb b cb x y w (by omega) (by omega) hx hx2 hy hy2 m n hm6 hn6 hm hn X s1 s2 s3 s4 s5 s6 A P Q t1 t2 t3 t4 t5 t7 t8 t9 hC hD
        · exact oddsSums_no_ok pa a ca pb b cb x y w (by omega) (by omega) hx hx2 hy hy2 m n hm6 hn6 hm hn _ _ _ _ rfl rfl e1 A P Q t1 t2 t3 t4 t5 t7 t8 t9 hC hD
      · have t1 : sRep a ((m : Int) + (n : Int)) = ([], (sRep a (m + n : Nat)).2) := by rw [← Int.natCast_add, ← sRep_nil e2]
        by_cases e1 : (sSum a b).2 = 0
        · obtain ⟨X, s1, s2, s3, s4, s5, s6, _⟩ := sum_zero e1
          exact oddsSums_yes_bad pa a ca pb b cb x y w (by omega) (by omega) hx hx2 hy hy2 m n hm6 hn6 hm hn X s1 s2 s3 s4 s5 s6 _ t1 e2 hC hD
        · exact oddsSums_no_bad pa a ca pb b cb x y w (by omega) (by omega) hx hx2 hy hy2 m n hm6 hn6 hm hn _ _ _ _ rfl rfl e1 _ t1 e2 hC hD

theorem oddsSums_own : ownKnob Try.prog.godebug = none := by kernel_rfl
theorem oddsSums_laidOut : laidOutB Try.prog = true := by kernel_rfl

set_option maxRecDepth 100000 in
theorem oddsSums_lifted (os : Os) (started : os.Started) (H : Type) (enc : TypeId × Value → H) :
    ReturnsInHanded {} Try.checked os 13 .any (Rows.oddsSumsSpec.pre6 enc Try.prog Try.f13 Rows.oddsSumsRow.domain false) (Rows.oddsSumsSpec.post enc Try.prog Try.f13 false true false false) := by
  refine returnsInHanded_of_change (C := Try.checked) oddsSums_own started (by kernel_rfl) Try.func13
    (ChangeSpec.witness6 (enc := enc) (C := Try.checked) false ⟨#[], #[.slice none 0 0, .slice none 0 0, .agg #[.int .u8 0, .int .u8 0]], []⟩ 8 (by kernel_rfl) (by kernel_rfl) (by kernel_rfl) (by kernel_rfl)) ?_
  intro W base args ds gs before hval0 hW hcnd _
  have hval : ∀ (j : Nat) t v, Try.f13.params[j]? = some t → args[j]? = some v → Value.okWide Try.prog W .any base t v := hval0
  have hW' := hW
  obtain ⟨p, q, hA0, hV, rfl, hfz, hnd⟩ := hW
  have hA : DataW.TrodAll enc Try.prog W 0 (fun _ => true) true Try.f13.params.toList args.toList ds p := hA0
  rw [Try.params13] at hA hval
  obtain ⟨v0, v1, v2, d0, d1, d2, p0, p1, p2, rfl, rfl, rfl, h0, h1, h2⟩ := trodAll_three hA
  obtain ⟨rfl, rfl⟩ := trodVars_none hV
  have lt0 : ∀ x ∈ p0, x.block < W.heap.size := by obtain ⟨m, hm⟩ := h0; exact DataW.trod_lt m _ _ _ hm
  have lt1 : ∀ x ∈ p1, x.block < W.heap.size := by obtain ⟨m, hm⟩ := h1; exact DataW.trod_lt m _ _ _ hm
  have lt2 : ∀ x ∈ p2, x.block < W.heap.size := by obtain ⟨m, hm⟩ := h2; exact DataW.trod_lt m _ _ _ hm
  obtain ⟨a0, xs0, c0, rfl, hC0, _⟩ := came_open (hval 0 22 v0 rfl rfl) h0
  obtain ⟨a1, xs1, c1, rfl, hC1, _⟩ := came_open (hval 1 22 v1 rfl rfl) h1
  have k2 := h2
  obtain ⟨x, y, rfl, hx, hx2, hy, hy2⟩ := open_pair8 (hval 2 60 v2 rfl rfl) h2
  clear hA0 hval0 h2
  refine (oddsSums_walk a0 xs0 c0 a1 xs1 c1 x y W hx hx2 hy hy2 hC0 hC1).mono fun e W' ⟨he, bel⟩ => ?_
  subst he
  exact ⟨_, rfl, _, _, _, [], _, [], hW', trodAll_mk1 (shut_bool Try.underlying4 _), (trodAll_cons_mk (Below.trod oddsSums_laidOut (by kernel_rfl) (of_decide_eq_true (by kernel_rfl)) h0 bel lt0) (trodAll_cons_mk (Below.trod oddsSums_laidOut (by kernel_rfl) (of_decide_eq_true (by kernel_rfl)) h1 bel lt1) (trodAll_cons_mk (Below.trod oddsSums_laidOut (by kernel_rfl) (of_decide_eq_true (by kernel_rfl)) k2 bel lt2) trodAll_mk0))), rfl, bel.frame _, fun h => by cases h⟩

theorem oddsSums_holds : Rows.OddsSumsSaid :=
  OpenClaim.holds_of_wide 13 Try.f13 rfl rfl rfl rfl rfl rfl rfl ⟨rfl, rfl, rfl, rfl, rfl⟩ rfl rfl rfl rfl rfl (by kernel_rfl) Try.func13 (by kernel_rfl)
    (of_decide_eq_true (by kernel_rfl)) (by unfold Func.isWrapper; first | (rw [if_pos (by decide +kernel)]; kernel_rfl) | (rw [if_neg (by decide +kernel)]; exact ⟨rfl, rfl⟩))
    (fun os started H enc _ => oddsSums_lifted os started H enc)
end Go.Proofs.Ytagodfaclohkmaa
