/-
  What same of the statements returns; and what repeated sums are: a sum of repetitions is a repetition.
-/
import Derived.Test.YtnpnnfbmnlgioaaVj
import Derived.Test.YtnpnnfbmnlgioaaVn
import Derived.Test.YtnpnnfbmnlgioaaV
namespace Go.Proofs.Ytnpnnfbmnlgioaa
open Go.RowKit

theorem came_of {w : World} {p : Option Addr} {xs : List Int} {c : Nat} (h : Reads w p xs) (hl : 1 ≤ xs.length) (hs : Small xs) : Came w p xs c := by
  refine ⟨fun hp => ?_, h, fun k hk => ?_⟩
  · obtain ⟨q, o, e, _⟩ := h 0 (by omega)
    rw [hp] at e
    cases e
  · obtain ⟨h1, h2⟩ := hs k hk
    omega

/-- What same returns. -/
def sameB (a b : List Int) : Bool := decide ((sSame a b).2 = 0) && (sSame a b).1

set_option maxRecDepth 100000 in
set_option maxHeartbeats 2000000 in
theorem hsame_any (pa : Option Addr) (a : List Int) (ca : Nat) (pb : Option Addr) (b : List Int) (cb : Nat) (w : World) (hxa : a.length ≤ 1000000) (hxb : b.length ≤ 1000000) (hA : Came w pa a ca) (hB : Came w pb b cb) :
    Calls Try.prog 20 #[.slice pa a.length ca, .slice pb b.length cb] w fun e w' => e = .returned (.bool (sameB a b)) ∧ Below w.heap.size w w' := by
  have hS := fun p c q d W (h : Reads W p a) (h' : Reads W q b) => oSame_any p a c q b d W (by omega) (by omega) h h'
  obtain ⟨T, E, hT⟩ : ∃ T E, sSame a b = (T, E) := ⟨_, _, rfl⟩
  have Hb : Hid (sameB a b = (decide (E = 0) && T)) := by show _ = _; unfold sameB; rw [hT]
  rw [hT] at hS
  clear hT
  by_cases h0 : E = 0
  · subst h0
    go_enter Try.func20, Try.ntmps20
    go_wp2_with fail
    go_call (own_any pa a ca w (by omega) hA) as e w1 ⟨⟨p1, c1, rfl, r1⟩, hb1⟩
    go_wp2_with fail
    go_call (own_any pb b cb w1 (by omega) (hB.below hb1 (Nat.le_refl _))) as e w2 ⟨⟨p2, c2, rfl, r2⟩, hb2⟩
    have r1 := r1.below hb2 (Nat.le_refl _)
    have hB2 := tr hb1 hb2
    clear hb1 hb2
    go_wp2_with fail
    go_call (hS p1 c1 p2 c2 w2 r1 r2) as e w3 ⟨rfl, hb3⟩
    have hB3 := tr hB2 hb3
    clear hB2 hb3
    go_wp2
    go_ret
    exact ⟨by rw [Hb.out]; simp, hB3⟩
  · have hb' : (E == 0) = false := by simpa using h0
    have hd : decide (E = 0) = false := by simpa using h0
    have Hd := Lib.hid hd
    clear h0 hd
    go_enter Try.func20, Try.ntmps20
    go_wp2_with fail
    go_call (own_any pa a ca w (by omega) hA) as e w1 ⟨⟨p1, c1, rfl, r1⟩, hb1⟩
    go_wp2_with fail
    go_call (own_any pb b cb w1 (by omega) (hB.below hb1 (Nat.le_refl _))) as e w2 ⟨⟨p2, c2, rfl, r2⟩, hb2⟩
    have r1 := r1.below hb2 (Nat.le_refl _)
    have hB2 := tr hb1 hb2
    clear hb1 hb2
    go_wp2_with fail
    go_call (hS p1 c1 p2 c2 w2 r1 r2) as e w3 ⟨rfl, hb3⟩
    have hB3 := tr hB2 hb3
    clear hB2 hb3
    go_wp2
    go_ret
    exact ⟨by rw [Hb.out, Hd.out]; rfl, hB3⟩

/-! ### Sums -/
theorem sSum_ok {a b : List Int} (ka : chk1 a = 0) (kb : chk1 b = 0) (hn : a.length + b.length - 1 ≤ 4096) (hm : lsum a * lsum b ≤ 1000000000000000) : sSum a b = (conv a b, 0) := by
  have hb := (chk1_ok kb).2.2.1
  have hla := len_pos (chk1_ok ka).2.2.1
  unfold sSum
  have e : chkP a b (a.length + b.length - 1) = 0 := by rw [chkP_rest ka kb, if_neg (by omega), if_neg (by have := (le_div hb).2 hm; omega)]
  rw [if_pos e]
theorem chk1_conv {a b : List Int} (ka : chk1 a = 0) (kb : chk1 b = 0) (hn : a.length + b.length - 1 ≤ 4096) (hm : lsum a * lsum b ≤ 1000000000000000) : chk1 (conv a b) = 0 := by
  obtain ⟨a1, a2, a3, a4⟩ := chk1_ok ka
  obtain ⟨b1, b2, b3, b4⟩ := chk1_ok kb
  obtain ⟨h1, h2⟩ := conv_facts a2.pos b2.pos
  exact chk1_of (by rw [conv_length]; omega) h1 (by rw [h2]; have := Int.mul_le_mul a3 b3 (by omega) (by omega); simpa using this) (by rw [h2]; exact hm)
theorem sameB_self {a : List Int} (h : chk1 a = 0) : sameB a a = true := by
  unfold sameB sSame
  simp [chkL, h, eqL]
/-- A sum that is valid is the same both ways round. -/
theorem sum_both {a b : List Int} (h : (sSum a b).2 = 0) : ∃ X, sSum a b = (X, 0) ∧ sSum b a = (X, 0) ∧ chk1 X = 0 ∧ X.length + 1 = a.length + b.length := by
  unfold sSum at h
  by_cases he : chkP a b (a.length + b.length - 1) = 0
  · obtain ⟨ka, kb, hn, hm⟩ := chkP_ok he
    have hla := len_pos (chk1_ok ka).2.2.1
    have hlb := len_pos (chk1_ok kb).2.2.1
    refine ⟨conv a b, sSum_ok ka kb (by omega) hm, ?_, chk1_conv ka kb (by omega) hm, by rw [conv_length]; omega⟩
    rw [sSum_ok kb ka (by omega) (by rw [Int.mul_comm]; exact hm), conv_comm hlb hla]
  · rw [if_neg he] at h; exact absurd h he

/-- What repeated sums are, up to t of them. -/
theorem rep_facts {a : List Int} {t : Nat} (ka : chk1 a = 0) (h0 : (repRes a t).2 = 0) : ∀ k, k ≤ t → chk1 (repRes a k).1 = 0 ∧ (repRes a k).1.length = k * (a.length - 1) + 1 ∧ (k < t → (repRes a (k + 1)).1 = conv (repRes a k).1 a ∧ lsum (repRes a k).1 * lsum a ≤ 1000000000000000) := by
  have hz : ∀ k, k ≤ t → (repRes a k).2 = 0 := fun k hk => by
    by_cases h : (repRes a k).2 = 0
    · exact h
    · have := repRes_stop hk h
      rw [this] at h0
      exact h0
  have hla := len_pos (chk1_ok ka).2.2.1
  have hstep : ∀ k, k < t → (sSum (repRes a k).1 a).2 = 0 ∧ (repRes a (k + 1)).1 = (sSum (repRes a k).1 a).1 := fun k hk => by
    have e : repRes a (k + 1) = sSum (repRes a k).1 a := by simp only [repRes]; rw [if_pos (hz k (by omega))]
    have := hz (k + 1) (by omega)
    rw [e] at this ⊢
    exact ⟨this, rfl⟩
  have hne : ∀ k, k < t → chkP (repRes a k).1 a ((repRes a k).1.length + a.length - 1) = 0 := fun k hk => by
    have := (hstep k hk).1
    unfold sSum at this
    by_cases he : chkP (repRes a k).1 a ((repRes a k).1.length + a.length - 1) = 0
    · exact he
    · rw [if_neg he] at this; exact absurd this he
  have hnext : ∀ k, k < t → (repRes a (k + 1)).1 = conv (repRes a k).1 a ∧ lsum (repRes a k).1 * lsum a ≤ 1000000000000000 ∧ chk1 (repRes a (k + 1)).1 = 0 ∧ 1 ≤ (repRes a k).1.length := fun k hk => by
    have he := hne k hk
    obtain ⟨k1, k2, k3, k4⟩ := chkP_ok he
    have e := (hstep k hk).2
    unfold sSum at e
    rw [if_pos he] at e
    have hl := len_pos (chk1_ok k1).2.2.1
    refine ⟨e, k4, ?_, hl⟩
    rw [e]
    exact chk1_conv k1 k2 (by omega) k4
  intro k
  induction k with
  | zero =>
    intro hk
    refine ⟨by simp only [repRes]; decide, by simp [repRes], fun h => ⟨(hnext 0 h).1, (hnext 0 h).2.1⟩⟩
  | succ k ih =>
    intro hk
    obtain ⟨i1, i2, _⟩ := ih (by omega)
    obtain ⟨n1, n2, n3, n4⟩ := hnext k (by omega)
    refine ⟨n3, ?_, fun h => ⟨(hnext (k + 1) h).1, (hnext (k + 1) h).2.1⟩⟩
    rw [n1, conv_length, i2, Nat.add_mul, Nat.one_mul]
    omega

theorem rep_sum {a : List Int} {t : Nat} (ka : chk1 a = 0) (h0 : (repRes a t).2 = 0) (m n : Nat) (hmn : m + n ≤ t) : conv (repRes a m).1 (repRes a n).1 = (repRes a (m + n)).1 := by
  have F := rep_facts ka h0
  have hla := len_pos (chk1_ok ka).2.2.1
  induction n with
  | zero =>
    have h1 := len_pos (chk1_ok (F m (by omega)).1).2.2.1
    have e : (repRes a 0).1 = [1] := rfl
    rw [e, conv_comm h1 (by simp), conv_one h1, Nat.add_zero]
  | succ n ih =>
    have h1 := len_pos (chk1_ok (F m (by omega)).1).2.2.1
    have h2 := len_pos (chk1_ok (F n (by omega)).1).2.2.1
    rw [((F n (by omega)).2.2 (by omega)).1, ← conv_assoc h1 h2 hla, ih (by omega), show m + (n + 1) = m + n + 1 by omega, ((F (m + n) (by omega)).2.2 (by omega)).1]

/-- Repeated m + n times, m times, n times, and once: what the statement compares. -/
theorem rep_all {a : List Int} {m n : Nat} (hm : m ≤ 6) (hn : n ≤ 6) (hla : a.length ≤ 20) (h : (sRep a (m + n : Nat)).2 = 0) :
    ∃ A P Q, sRep a (m + n : Nat) = (A, 0) ∧ sRep a m = (P, 0) ∧ sRep a n = (Q, 0) ∧ sSum P Q = (A, 0) ∧ sRep a 1 = (a, 0) ∧ chk1 a = 0 ∧ P.length ≤ 4096 ∧ Q.length ≤ 4096 ∧ A.length ≤ 4096 := by
  have ka : chk1 a = 0 := by
    by_cases h1 : chk1 a = 0
    · exact h1
    · unfold sRep at h; rw [if_pos h1] at h; exact absurd h h1
  obtain ⟨a1, a2, a3, a4⟩ := chk1_ok ka
  have hl := len_pos a3
  have hr : ∀ k : Nat, k ≤ 12 → sRep a k = repRes a k := fun k hk => by
    unfold sRep
    rw [if_neg (by simpa using ka), if_neg (by omega), if_neg, Int.toNat_natCast]
    have := Nat.mul_le_mul hk (show a.length - 1 ≤ 20 by omega)
    have e : ((a.length : Int) - 1) = ((a.length - 1 : Nat) : Int) := by omega
    rw [e, ← Int.natCast_mul]
    omega
  rw [hr _ (by omega)] at h ⊢
  have F := rep_facts ka h
  have hz : ∀ k, k ≤ m + n → (repRes a k).2 = 0 := fun k hk => by
    by_cases h' : (repRes a k).2 = 0
    · exact h'
    · have := repRes_stop hk h'
      rw [this] at h
      exact h
  have hp : ∀ k, k ≤ m + n → repRes a k = ((repRes a k).1, 0) := fun k hk => by rw [← hz k hk]
  obtain ⟨f1, f2, _⟩ := F m (by omega)
  obtain ⟨g1, g2, _⟩ := F n (by omega)
  obtain ⟨t1, t2, _⟩ := F (m + n) (Nat.le_refl _)
  have hsum := rep_sum ka h m n (Nat.le_refl _)
  have hcf := (conv_facts (chk1_ok f1).2.1.pos (chk1_ok g1).2.1.pos).2
  rw [hsum] at hcf
  have hpl := (chk1_ok f1).1
  have hql := (chk1_ok g1).1
  refine ⟨(repRes a (m + n)).1, (repRes a m).1, (repRes a n).1, hp _ (Nat.le_refl _), ?_, ?_, ?_, ?_, ka, hpl, hql, (chk1_ok t1).1⟩
  · rw [hr m (by omega), hp m (by omega)]
  · rw [hr n (by omega), hp n (by omega)]
  · rw [sSum_ok f1 g1 ?_ (by rw [← hcf]; exact (chk1_ok t1).2.2.2), hsum]
    have := (chk1_ok t1).1
    rw [t2, Nat.add_mul] at this
    omega
  · have e1 := hr 1 (by omega)
    rw [show ((1 : Nat) : Int) = 1 from rfl] at e1
    rw [e1]
    show (if (repRes a 0).2 = 0 then sSum (repRes a 0).1 a else repRes a 0) = _
    rw [if_pos (by rfl)]
    have e : (repRes a 0).1 = [1] := rfl
    rw [e, sSum_ok (by decide) ka (by simp; omega) (by rw [show lsum [1] = 1 from rfl]; omega), conv_one hl]
end Go.Proofs.Ytnpnnfbmnlgioaa
