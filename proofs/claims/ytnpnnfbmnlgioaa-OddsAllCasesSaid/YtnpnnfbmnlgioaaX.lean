/-
  What modulo and divided of package odds return for numbers of one word, and what checkChances returns. Conditions: numbers of one word.
-/
import Derived.Test.YtnpnnfbmnlgioaaW
import Derived.Test.YtnpnnfbmnlgioaaCa
namespace Go.Proofs.Ytnpnnfbmnlgioaa
open Go.RowKit

set_option maxHeartbeats 1000000 in
theorem rem64_small (lo y : Int) (w : World) (h1 : 0 ≤ lo) (h2 : 1 ≤ y) (hlo : Hid (lo ≤ 18446744073709551615)) :
    Calls Try.prog 57 #[.int .u64 0, .int .u64 lo, .int .u64 y] w fun e w' => e = .returned (.int .u64 (lo % y)) ∧ Below w.heap.size w w' := by
  have hb : (y == 0) = false := by simp; omega
  have hz : (0 : Int) % y = 0 := Int.zero_emod y
  go_enter Try.func57, Try.ntmps57
  go_wp2_with fail
  go_call (div64_small lo y w h1 h2 hlo) as e w1 ⟨rfl, hb1⟩
  go_wp2
  go_ret
  exact ⟨rfl, hb1⟩

set_option maxHeartbeats 1000000 in
theorem wideModulo_small (N n : Int) (w : World) (h1 : 0 ≤ N) (h2 : 1 ≤ n) (h3 : n ≤ 1000000000000000) (hN : Hid (N ≤ 18446744073709551615)) :
    Calls Try.prog 29 #[.agg #[.int .u64 0, .int .u64 N], .int .i64 n] w fun e w' => e = .returned (.int .i64 (N % n)) ∧ Below w.heap.size w w' := by
  have m0 : 0 ≤ N % n := Int.emod_nonneg _ (by omega)
  have m1 : N % n < n := Int.emod_lt_of_pos _ (by omega)
  go_enter Try.func29, Try.ntmps29
  go_wp2_with fail
  go_call (rem64_small N n _ h1 h2 hN) as e w1 ⟨rfl, hb1⟩
  go_wp2
  go_ret
  exact ⟨rfl, (below1 _ _).trans (hb1.mono (by simp))⟩

set_option maxHeartbeats 1000000 in
theorem wideDivided_small (N n : Int) (w : World) (h1 : 0 ≤ N) (h2 : 1 ≤ n) (h3 : n ≤ 1000000000000000) (h4 : N / n ≤ 1000000000000000) (hN : Hid (N ≤ 18446744073709551615)) :
    Calls Try.prog 30 #[.agg #[.int .u64 0, .int .u64 N], .int .i64 n] w fun e w' => e = .returned (.int .i64 (N / n)) ∧ Below w.heap.size w w' := by
  have m0 : 0 ≤ N / n := Int.ediv_nonneg h1 (by omega)
  go_enter Try.func30, Try.ntmps30
  go_wp2_with fail
  go_call (div64_small N n _ h1 h2 hN) as e w1 ⟨rfl, hb1⟩
  go_wp2
  go_ret
  exact ⟨rfl, (below1 _ _).trans (hb1.mono (by simp))⟩

set_option maxRecDepth 100000 in
set_option maxHeartbeats 4000000 in
theorem wrong_ok (n d : Int) (w : World) (h : badC n d = false) :
    Calls Try.prog 51 #[.agg #[.int .i64 n, .int .i64 d]] w fun e w' => e = .returned (.bool false) ∧ Below w.heap.size w w' := by
  have k0 : (w.alloc (.cells #[.int .i64 n, .int .i64 d] 23)).cell? ⟨w.heap.size, 0, none⟩ = some (.int .i64 n) := by go_simp
  have k1 : (w.alloc (.cells #[.int .i64 n, .int .i64 d] 23)).cell? ⟨w.heap.size, 1, none⟩ = some (.int .i64 d) := by go_simp
  have hB := below1 w (.cells #[.int .i64 n, .int .i64 d] 23)
  obtain ⟨d1, d2, n1, n2, g1⟩ := badC_ok h
  have h1 : outB 1 1000000000000000 d = false := by simp [outB]; omega
  have h2 : outB 0 d n = false := by simp [outB]; omega
  have h3 : decide ((1 : Int) < (Int.gcd n d : Int)) = false := by simp; omega
  have H1 := Lib.hid h1
  have H2 := Lib.hid h2
  have H3 := Lib.hid h3
  clear h1 h2 h3 h g1
  go_enter Try.func51, Try.ntmps51
  go_wp2
  generalize (w.alloc (.cells #[.int .i64 n, .int .i64 d] 23)) = W at *
  go_region_held3 (fun w' => w'.cell? ⟨w.heap.size, 0, none⟩ = some (.int .i64 n) ∧ w'.cell? ⟨w.heap.size, 1, none⟩ = some (.int .i64 d) ∧ Below w.heap.size w w')
    (first | exact ⟨k0, k1, hB.drew⟩ | assumption | (go_split_ands; first | exact ⟨by assumption, by assumption, by assumption⟩ | exact ⟨cell_tr hbk (by assumption), cell_tr hbk (by assumption), tr (by assumption) hbk⟩ | exact ⟨cell_tr hbk (by assumption), cell_tr hbk (by assumption), tr hB.drew hbk⟩ | exact ⟨cell_tr (below1 _ _) (by assumption), cell_tr (below1 _ _) (by assumption), tr (by assumption) (below1 _ _)⟩))
    (first
      | (go_at_call 48; refine (outside_c _ _ _).mono ?_; rintro e w' ⟨a, b, rfl, ha, hb, hbk⟩)
      | (go_at_call 66; refine (outside1_any _ _ _ _ _ _ (by assumption) (by assumption)).mono ?_; rintro e w' ⟨rfl, rfl⟩; first | rw [H1.out] | rw [H2.out])
      | (go_at_call 27; refine (divisor2 n d _ _ n1 (by omega) (by go_simp) (by go_simp)).mono ?_; rintro e w' ⟨rfl, hbk⟩))
  rename_i hh
  obtain ⟨_, _, hBf⟩ := hh
  rw [H3.out]
  go_wp2
  go_ret
  exact ⟨rfl, hBf⟩

/-- Chance k of a list of chances. -/
def nthC (cs : List (Int × Int)) (k : Nat) : Int × Int := cs.getD k (0, 1)

set_option maxHeartbeats 1000000 in
theorem indexFunc_chances (q : Nat) (cs : List (Int × Int)) (c : Nat) (w : World) (hl : cs.length ≤ 1000000) (hc : ∀ k, k < cs.length → w.cell? ⟨q, k * 2, none⟩ = some (.int .i64 (nthC cs k).1) ∧ w.cell? ⟨q, k * 2 + 1, none⟩ = some (.int .i64 (nthC cs k).2)) (hv : ∀ k, k < cs.length → badC (nthC cs k).1 (nthC cs k).2 = false) :
    Calls Try.prog 69 #[.slice (some ⟨q, 0, none⟩) cs.length c, .func (.func 51) #[] #[]] w fun e w' => e = .returned (.int .i64 (-1)) ∧ Below w.heap.size w w' := by
  have Hc := Lib.hid hc
  have Hv := Lib.hid hv
  clear hc hv
  go_enter Try.func69, Try.ntmps69
  go_wp2
  go_loopw [8] (fun i wr => ∃ k : Nat, k ≤ cs.length ∧ i = .int .i64 k ∧ Below w.heap.size w wr) (fun i _ => cs.length - (intOf i).toNat)
  case atStart => exact ⟨0, Nat.zero_le _, rfl, Below.refl _ _⟩
  case round =>
    obtain ⟨k, hk, rfl, hb⟩ := hrel
    by_cases hlt : k < cs.length
    · obtain ⟨c0, c1⟩ := Hc.out k hlt
      have d0 := cell_tr hb c0
      have d1 := cell_tr hb c1
      have hbad := Lib.hid (Hv.out k hlt)
      obtain ⟨n, hn⟩ : ∃ n, (nthC cs k).1 = n := ⟨_, rfl⟩
      obtain ⟨d, hd⟩ : ∃ d, (nthC cs k).2 = d := ⟨_, rfl⟩
      rw [hn] at d0 hbad
      rw [hd] at d1 hbad
      clear c0 c1 hn hd
      go_wp2_with fail
      go_call (wrong_ok n d wr hbad.out) as e w1 ⟨rfl, hb1⟩
      go_wp2
      go_roundw
      case rel => exact ⟨k + 1, by omega, by go_num, hb.trans (hb1.mono hb.size)⟩
      case measure => simp [intOf]; omega
    · go_wp2
      go_ret
      exact ⟨rfl, hb⟩

set_option maxHeartbeats 400000 in
theorem containsFunc_chances (q : Nat) (cs : List (Int × Int)) (c : Nat) (w : World) (hl : cs.length ≤ 1000000) (hc : ∀ k, k < cs.length → w.cell? ⟨q, k * 2, none⟩ = some (.int .i64 (nthC cs k).1) ∧ w.cell? ⟨q, k * 2 + 1, none⟩ = some (.int .i64 (nthC cs k).2)) (hv : ∀ k, k < cs.length → badC (nthC cs k).1 (nthC cs k).2 = false) :
    Calls Try.prog 52 #[.slice (some ⟨q, 0, none⟩) cs.length c, .func (.func 51) #[] #[]] w fun e w' => e = .returned (.bool false) ∧ Below w.heap.size w w' := by
  have Hc := Lib.hid hc
  have Hv := Lib.hid hv
  clear hc hv
  go_enter Try.func52, Try.ntmps52
  go_wp2_with fail
  refine (indexFunc_chances q cs c w hl Hc.out Hv.out).mono ?_
  rintro e w' ⟨rfl, hb⟩
  go_wp2
  go_ret
  exact ⟨rfl, hb⟩

set_option maxHeartbeats 400000 in
theorem checkChances_ok (q : Nat) (cs : List (Int × Int)) (c : Nat) (w : World) (hl : cs.length ≤ 1000000) (hc : ∀ k, k < cs.length → w.cell? ⟨q, k * 2, none⟩ = some (.int .i64 (nthC cs k).1) ∧ w.cell? ⟨q, k * 2 + 1, none⟩ = some (.int .i64 (nthC cs k).2)) (hv : ∀ k, k < cs.length → badC (nthC cs k).1 (nthC cs k).2 = false) :
    Calls Try.prog 22 #[.slice (some ⟨q, 0, none⟩) cs.length c] w fun e w' => e = .returned (.int .i64 0) ∧ Below w.heap.size w w' := by
  have Hc := Lib.hid hc
  have Hv := Lib.hid hv
  clear hc hv
  go_enter Try.func22, Try.ntmps22
  go_wp2_with fail
  refine (containsFunc_chances q cs c w hl Hc.out Hv.out).mono ?_
  rintro e w' ⟨rfl, hb⟩
  go_wp2
  go_ret
  exact ⟨rfl, hb⟩

/-- Two chances that stand in new memory. -/
theorem chances2 (q : Nat) (an ad bn bd : Int) (w : World) (h0 : w.cell? ⟨q, 0, none⟩ = some (.int .i64 an)) (h1 : w.cell? ⟨q, 1, none⟩ = some (.int .i64 ad)) (h2 : w.cell? ⟨q, 2, none⟩ = some (.int .i64 bn)) (h3 : w.cell? ⟨q, 3, none⟩ = some (.int .i64 bd)) (ha : badC an ad = false) (hb : badC bn bd = false) :
    Calls Try.prog 22 #[.slice (some ⟨q, 0, none⟩) 2 2] w fun e w' => e = .returned (.int .i64 0) ∧ Below w.heap.size w w' :=
  checkChances_ok q [(an, ad), (bn, bd)] 2 w (by simp) (fun k hk => by
    rcases k with _ | _ | k
    · exact ⟨h0, h1⟩
    · exact ⟨h2, h3⟩
    · simp at hk; omega) (fun k hk => by
    rcases k with _ | _ | k
    · exact ha
    · exact hb
    · simp at hk; omega)
end Go.Proofs.Ytnpnnfbmnlgioaa
