/-
  What Join of package odds returns: for any two lists.
-/
import Derived.Test.YtagodfaclohkmaaE
import Derived.Test.YtagodfaclohkmaaT
namespace Go.Proofs.Ytagodfaclohkmaa
open Go.RowKit

/-- The weight of a pair, by its number. -/
def jf (a b : List Int) (i : Nat) : Int := nth a (i / b.length) * nth b (i % b.length)
/-- The weights of all pairs. -/
def joinL (a b : List Int) : List Int := upto (jf a b) (a.length * b.length)
/-- What Join returns. -/
def sJoin (a b : List Int) : List Int × Int := if chkP a b (a.length * b.length) = 0 then (joinL a b, 0) else ([], chkP a b (a.length * b.length))
theorem jf_at {a b : List Int} {k m : Nat} (hm : m < b.length) : jf a b (k * b.length + m) = nth a k * nth b m := by
  unfold jf
  rw [Nat.mul_comm, Nat.mul_add_div (by omega), Nat.mul_add_mod, Nat.div_eq_of_lt hm, Nat.mod_eq_of_lt hm, Nat.add_zero]
theorem mul_bd {a b : List Int} (ha : Pos a) (hb : Pos b) (hle : lsum a * lsum b ≤ 1000000000000000) (k m : Nat) : 0 ≤ nth a k * nth b m ∧ nth a k * nth b m ≤ 1000000000000000 := by
  refine ⟨Int.mul_nonneg (ha k) (hb m), Int.le_trans (Int.mul_le_mul (nth_le_lsum ha k) (nth_le_lsum hb m) (hb m) (lsum_nonneg ha)) hle⟩
theorem joinL_length (a b : List Int) : (joinL a b).length = a.length * b.length := upto_length _ _

set_option maxRecDepth 100000 in
set_option maxHeartbeats 4000000 in
theorem join_ok (pa : Option Addr) (a : List Int) (ca : Nat) (pb : Option Addr) (b : List Int) (cb : Nat) (w : World) (hxa : a.length ≤ 1000000) (hxb : b.length ≤ 1000000) (hRa : Reads w pa a) (hRb : Reads w pb b) (he : chkP a b (a.length * b.length) = 0) :
    Calls Try.prog 43 #[.slice pa a.length ca, .slice pb b.length cb] w fun e w' => (∃ p c, e = .returned (.tuple #[.slice p (a.length * b.length) c, .int .i64 0]) ∧ Reads w' p (joinL a b)) ∧ Below w.heap.size w w' := by
  obtain ⟨i0, hi, hz0, hz1, hz2⟩ := info_parts info_int
  obtain ⟨ka, kb, hn, hle⟩ := chkP_ok he
  obtain ⟨a1, a2, a3, a4⟩ := chk1_ok ka
  obtain ⟨b1, b2, b3, b4⟩ := chk1_ok kb
  have Hbd := Lib.hid (mul_bd a2.pos b2.pos hle)
  clear ka kb hle
  obtain ⟨n, hnn⟩ : ∃ n : Nat, a.length * b.length = n := ⟨_, rfl⟩
  have hn2 : ((a.length : Int) * (b.length : Int)) = (n : Int) := by rw [← hnn]; simp
  have Hj : Hid (joinL a b = upto (jf a b) n) := by show _ = _; unfold joinL; rw [hnn]
  have Hstep : Hid (∀ k m, k < a.length → m < b.length → k * b.length + m < n) := fun k m hk hm => by
    rw [← hnn]
    have := Nat.mul_le_mul_right b.length (show k + 1 ≤ a.length by omega)
    rw [Nat.add_mul] at this
    omega
  rw [hn2] at he hn
  rw [hnn]
  have He := Lib.hid he
  have Hn2 := Lib.hid hn2
  have Hnn := Lib.hid hnn
  have hwr : IntKind.i64.wrap ((a.length : Int) * (b.length : Int)) = (n : Int) := by rw [hn2]; exact IntWalk.i64_in _ (by omega)
  clear he hn2 hnn
  go_enter Try.func43, Try.ntmps43
  go_wp2_with fail
  go_call (checkPair_any pa a ca pb b cb n w (by omega) (by omega) hRa hRb) as e w1 ⟨rfl, hb1⟩
  rw [He.out]
  go_wp2_with (at_make; refine wpList_make_own _ rfl _ _ 22 rfl w.heap.size 3 i0 (.int .i64 0) 1 Try.underlying22 hi hz0 hz1 .i64 .i64 _ n rfl rfl ?d1 ?c1 ?c2 ?c3 ?_)
  case d1 => rfl
  case c1 => rw [hz2]; omega
  case c2 => unfold maxLen; omega
  case c3 => exact hb1.size
  intro w2 hown hgr
  have hb2 : Below w.heap.size w w2 := hb1.grown hgr hb1.size (fun k e => by cases e)
  have hgB := hb2.size
  clear hgr hb1 hwr
  generalize Value.slice (some ⟨w1.heap.size, 0, none⟩) 0 n = v0 at *
  go_wp2
  go_loopw [7, 31] (fun v i wr => ∃ k : Nat, k ≤ a.length ∧ i = .int .i64 k ∧ wr.ownsRow w.heap.size 3 1 v (k * b.length) ((upto (jf a b) (k * b.length)).map (Value.int .i64)) ∧ Below w.heap.size w wr) (fun _ i _ => a.length - (intOf i).toNat)
  case atStart => exact ⟨0, Nat.zero_le _, rfl, by rw [Nat.zero_mul]; exact hown, hb2⟩
  case round =>
    obtain ⟨k, hk, rfl, hrw, hb⟩ := hrel
    by_cases hlt : k < a.length
    · obtain ⟨q, o, rfl, hcell⟩ := hRa.below hb (Nat.le_refl _) k hlt
      have hki : (k : Int) < (a.length : Int) := by omega
      go_wp2
      obtain ⟨wo, rfl⟩ : ∃ wo : World, wo = wr := ⟨_, rfl⟩
      go_loopw [7, 37] (fun v j wr => ∃ m : Nat, m ≤ b.length ∧ j = .int .i64 m ∧ wr.ownsRow w.heap.size 3 1 v (k * b.length + m) ((upto (jf a b) (k * b.length + m)).map (Value.int .i64)) ∧ Below w.heap.size w wr) (fun _ j _ => b.length - (intOf j).toNat)
      case atStart => exact ⟨0, Nat.zero_le _, rfl, hrw, hb⟩
      case round =>
        obtain ⟨m, hm, rfl, hrm, hbm⟩ := hrel
        by_cases hmt : m < b.length
        · obtain ⟨q2, o2, rfl, hcell2⟩ := hRb.below hbm (Nat.le_refl _) m hmt
          have hmi : (m : Int) < (b.length : Int) := by omega
          obtain ⟨s1, s2⟩ := Hbd.out k m
          have hwm : IntKind.i64.wrap (nth a k * nth b m) = nth a k * nth b m := IntWalk.i64_in _ (by omega)
          have hbs := hbm.size
          have hin := Hstep.out k m hlt hmt
          go_wp2_with (at_builtin; refine wpList_append_own _ rfl _ _ 22 rfl w.heap.size 3 i0 (.int .i64 0) 1 8 Try.underlying22 hi hz0 hz1 hz2 rfl (by decide) _ _ _ rfl (hrm.alloc _) ⟨wr.heap.size, 0, none⟩ 1 1 [.int .i64 (nth a k * nth b m)] rfl rfl ?c1 ?c2 ?c3 ?c4 ?c5 ?_)
          case c1 =>
            intro j u hj
            rcases j with _ | j
            · have hu : u = .int .i64 (nth a k * nth b m) := by simpa using hj.symm
              subst hu
              rw [Go.WideShapes.add_plain, World.cell?_alloc_at _ _ _ _ rfl]
              simp
            · simp at hj
          case c2 =>
            intro u hu
            have hu : u = .int .i64 (nth a k * nth b m) := by simpa using hu
            subst hu
            rfl
          case c3 => unfold maxLen; omega
          case c4 => omega
          case c5 => simp; omega
          intro v' w3 hown' hgrow _
          go_wp2
          go_roundw
          case rel =>
            refine ⟨m + 1, by omega, by go_num, ?_, ?_⟩
            · rw [← Nat.add_assoc, upto_succ, jf_at hmt, List.map_append]; exact hown'
            · exact (hbm.alloc hbm.size _).grown hgrow (by simp; omega) (fun k e => by
                have h9 := (hrm.lt k e)
                omega)
          case measure => simp [intOf]; omega
        · obtain rfl : m = b.length := by omega
          go_wp2
          go_roundw
          case rel => exact ⟨k + 1, by omega, by go_num, by rw [Nat.add_mul, Nat.one_mul]; exact hrm, hbm⟩
          case measure => simp [intOf]; omega
    · obtain rfl : k = a.length := by omega
      rw [Hnn.out] at hrw
      have hG : Got wr _ _ := Got.of_owns hrw
      obtain ⟨p', c', rfl, hr⟩ := hG
      rw [upto_length] at *
      go_wp2
      go_ret2
      exact ⟨⟨p', c', rfl, by rw [Hj.out]; exact hr⟩, hb⟩

set_option maxHeartbeats 1000000 in
theorem join_any (pa : Option Addr) (a : List Int) (ca : Nat) (pb : Option Addr) (b : List Int) (cb : Nat) (w : World) (hxa : a.length ≤ 1000000) (hxb : b.length ≤ 1000000) (hRa : Reads w pa a) (hRb : Reads w pb b) :
    Calls Try.prog 43 #[.slice pa a.length ca, .slice pb b.length cb] w fun e w' => (∃ p c, e = .returned (.tuple #[.slice p (sJoin a b).1.length c, .int .i64 (sJoin a b).2]) ∧ Reads w' p (sJoin a b).1) ∧ Below w.heap.size w w' := by
  by_cases he : chkP a b (a.length * b.length) = 0
  · have Hs : sJoin a b = (joinL a b, 0) := by unfold sJoin; rw [if_pos he]
    rw [Hs]
    simp only [joinL_length]
    exact join_ok pa a ca pb b cb w hxa hxb hRa hRb he
  · obtain ⟨x, hx⟩ : ∃ x, chkP a b (a.length * b.length) = x := ⟨_, rfl⟩
    have Hs : sJoin a b = ([], x) := by unfold sJoin; rw [if_neg he, hx]
    rw [Hs]
    rw [hx] at he
    have hb' : (x != 0) = true := by simpa using he
    have Hx := Lib.hid hx
    have hm : a.length * b.length ≤ 1000000 * 1000000 := Nat.mul_le_mul hxa hxb
    have hm2 : ((a.length : Int) * (b.length : Int)) = ((a.length * b.length : Nat) : Int) := by simp
    have hwr : IntKind.i64.wrap ((a.length : Int) * (b.length : Int)) = (a.length : Int) * (b.length : Int) := IntWalk.i64_in _ (by omega)
    clear hx he hm hm2
    go_enter Try.func43, Try.ntmps43
    go_wp2_with fail
    go_call (checkPair_any pa a ca pb b cb (a.length * b.length) w (by omega) (by omega) hRa hRb) as e w1 ⟨rfl, hb1⟩
    rw [Hx.out]
    go_wp2
    go_ret2
    exact ⟨⟨none, 0, rfl, Reads.nil _ _⟩, hb1⟩
end Go.Proofs.Ytagodfaclohkmaa
