/-
  The walk of OddsFar at lists that are too long, and where both lists can not be compared.
-/
import Derived.Test.YtnpnnfbmnlgioaaFg
namespace Go.Proofs.Ytnpnnfbmnlgioaa
open Go.RowKit
set_option linter.unusedVariables false

set_option maxRecDepth 100000 in
set_option maxHeartbeats 4000000 in
theorem far_long0 (pa : Option Addr) (xs : List Int) (ca : Nat) (pb : Option Addr) (ys : List Int) (cb : Nat) (pl : Option Addr) (zs : List Int) (cl : Nat) (S : Int) (pt : Option Addr) (ts : List Int) (ct : Nat) (w : World)
    (h0 : decide (20 < (xs.length : Int)) = true) :
    Calls Try.prog 5 #[.slice pa xs.length ca, .slice pb ys.length cb, .agg #[.slice pl zs.length cl, .int .u32 S, .slice pt ts.length ct]] w fun e w' => e = .returned (.bool true) ∧ Below w.heap.size w w' := by
  have D0 : Below w.heap.size w (w.alloc (.cells #[.slice pl zs.length cl, .int .u32 S, .slice pt ts.length ct] 47)) := below1 _ _
  have B0 : Bx (w.alloc (.cells #[.slice pl zs.length cl, .int .u32 S, .slice pt ts.length ct] 47)) w.heap.size (.slice pl zs.length cl) (.int .u32 S) (.slice pt ts.length ct) := by refine ⟨?_, ?_, ?_⟩ <;> go_simp
  obtain ⟨cx0, cx1, cx2⟩ := id B0
  go_enter Try.func5, Try.ntmps5
  go_wp2_with fail
  go_call (known_any _) as e w1 ⟨rfl, hb⟩
  have D1 := tr D0 hb
  go_wp2
  go_ret
  exact ⟨rfl, D1⟩

set_option maxRecDepth 100000 in
set_option maxHeartbeats 4000000 in
theorem far_long1 (pa : Option Addr) (xs : List Int) (ca : Nat) (pb : Option Addr) (ys : List Int) (cb : Nat) (pl : Option Addr) (zs : List Int) (cl : Nat) (S : Int) (pt : Option Addr) (ts : List Int) (ct : Nat) (w : World)
    (h0 : decide (20 < (xs.length : Int)) = false)
    (h1 : decide (20 < (ys.length : Int)) = true) :
    Calls Try.prog 5 #[.slice pa xs.length ca, .slice pb ys.length cb, .agg #[.slice pl zs.length cl, .int .u32 S, .slice pt ts.length ct]] w fun e w' => e = .returned (.bool true) ∧ Below w.heap.size w w' := by
  have D0 : Below w.heap.size w (w.alloc (.cells #[.slice pl zs.length cl, .int .u32 S, .slice pt ts.length ct] 47)) := below1 _ _
  have B0 : Bx (w.alloc (.cells #[.slice pl zs.length cl, .int .u32 S, .slice pt ts.length ct] 47)) w.heap.size (.slice pl zs.length cl) (.int .u32 S) (.slice pt ts.length ct) := by refine ⟨?_, ?_, ?_⟩ <;> go_simp
  obtain ⟨cx0, cx1, cx2⟩ := id B0
  go_enter Try.func5, Try.ntmps5
  go_wp2_with fail
  go_call (known_any _) as e w1 ⟨rfl, hb⟩
  have D1 := tr D0 hb
  go_wp2
  go_ret
  exact ⟨rfl, D1⟩

set_option maxRecDepth 100000 in
set_option maxHeartbeats 4000000 in
theorem far_long2 (pa : Option Addr) (xs : List Int) (ca : Nat) (pb : Option Addr) (ys : List Int) (cb : Nat) (pl : Option Addr) (zs : List Int) (cl : Nat) (S : Int) (pt : Option Addr) (ts : List Int) (ct : Nat) (w : World)
    (h0 : decide (20 < (xs.length : Int)) = false)
    (h1 : decide (20 < (ys.length : Int)) = false)
    (h2 : decide (20 < (zs.length : Int)) = true) :
    Calls Try.prog 5 #[.slice pa xs.length ca, .slice pb ys.length cb, .agg #[.slice pl zs.length cl, .int .u32 S, .slice pt ts.length ct]] w fun e w' => e = .returned (.bool true) ∧ Below w.heap.size w w' := by
  have D0 : Below w.heap.size w (w.alloc (.cells #[.slice pl zs.length cl, .int .u32 S, .slice pt ts.length ct] 47)) := below1 _ _
  have B0 : Bx (w.alloc (.cells #[.slice pl zs.length cl, .int .u32 S, .slice pt ts.length ct] 47)) w.heap.size (.slice pl zs.length cl) (.int .u32 S) (.slice pt ts.length ct) := by refine ⟨?_, ?_, ?_⟩ <;> go_simp
  obtain ⟨cx0, cx1, cx2⟩ := id B0
  go_enter Try.func5, Try.ntmps5
  go_wp2_with fail
  go_call (known_any _) as e w1 ⟨rfl, hb⟩
  have D1 := tr D0 hb
  go_wp2
  go_ret
  exact ⟨rfl, D1⟩

set_option maxRecDepth 100000 in
set_option maxHeartbeats 4000000 in
theorem far_long3 (pa : Option Addr) (xs : List Int) (ca : Nat) (pb : Option Addr) (ys : List Int) (cb : Nat) (pl : Option Addr) (zs : List Int) (cl : Nat) (S : Int) (pt : Option Addr) (ts : List Int) (ct : Nat) (w : World)
    (h0 : decide (20 < (xs.length : Int)) = false)
    (h1 : decide (20 < (ys.length : Int)) = false)
    (h2 : decide (20 < (zs.length : Int)) = false)
    (h3 : decide (20 < (ts.length : Int)) = true) :
    Calls Try.prog 5 #[.slice pa xs.length ca, .slice pb ys.length cb, .agg #[.slice pl zs.length cl, .int .u32 S, .slice pt ts.length ct]] w fun e w' => e = .returned (.bool true) ∧ Below w.heap.size w w' := by
  have D0 : Below w.heap.size w (w.alloc (.cells #[.slice pl zs.length cl, .int .u32 S, .slice pt ts.length ct] 47)) := below1 _ _
  have B0 : Bx (w.alloc (.cells #[.slice pl zs.length cl, .int .u32 S, .slice pt ts.length ct] 47)) w.heap.size (.slice pl zs.length cl) (.int .u32 S) (.slice pt ts.length ct) := by refine ⟨?_, ?_, ?_⟩ <;> go_simp
  obtain ⟨cx0, cx1, cx2⟩ := id B0
  go_enter Try.func5, Try.ntmps5
  go_wp2_with fail
  go_call (known_any _) as e w1 ⟨rfl, hb⟩
  have D1 := tr D0 hb
  go_wp2
  go_ret
  exact ⟨rfl, D1⟩

set_option maxRecDepth 100000 in
set_option maxHeartbeats 4000000 in
theorem far_err (pa : Option Addr) (xs : List Int) (ca : Nat) (pb : Option Addr) (ys : List Int) (cb : Nat) (pl : Option Addr) (zs : List Int) (cl : Nat) (S : Int) (pt : Option Addr) (ts : List Int) (ct : Nat) (w : World) (E F x0 x1 : Int)
    (hCa : Came w pa xs ca)
    (hCb : Came w pb ys cb)
    (lx : xs.length ≤ 20)
    (ly : ys.length ≤ 20)
    (lz : zs.length ≤ 20)
    (lt : ts.length ≤ 20)
    (hAB : ∀ p c q d w, Reads w p xs → Reads w q ys → Calls Try.prog 21 #[.slice p xs.length c, .slice q ys.length d] w fun e w' => e = .returned (.tuple #[.agg #[.int .i64 0, .int .i64 0], .int .i64 E]) ∧ Below w.heap.size w w')
    (hBA : ∀ p c q d w, Reads w p ys → Reads w q xs → Calls Try.prog 21 #[.slice p ys.length c, .slice q xs.length d] w fun e w' => e = .returned (.tuple #[.agg #[.int .i64 x0, .int .i64 x1], .int .i64 F]) ∧ Below w.heap.size w w')
    (e1 : (E == 0) = false)
    (e2 : (E != 0) = true)
    (e3 : (F == 0) = false)
    (e4 : (F != 0) = true)
    : Calls Try.prog 5 #[.slice pa xs.length ca, .slice pb ys.length cb, .agg #[.slice pl zs.length cl, .int .u32 S, .slice pt ts.length ct]] w fun e w' => e = .returned (.bool true) ∧ Below w.heap.size w w' := by
  have D0 : Below w.heap.size w (w.alloc (.cells #[.slice pl zs.length cl, .int .u32 S, .slice pt ts.length ct] 47)) := below1 _ _
  have B0 : Bx (w.alloc (.cells #[.slice pl zs.length cl, .int .u32 S, .slice pt ts.length ct] 47)) w.heap.size (.slice pl zs.length cl) (.int .u32 S) (.slice pt ts.length ct) := by refine ⟨?_, ?_, ?_⟩ <;> go_simp
  have bx : decide (20 < (xs.length : Int)) = false := by simp; omega
  have by' : decide (20 < (ys.length : Int)) = false := by simp; omega
  have bz : decide (20 < (zs.length : Int)) = false := by simp; omega
  have bt : decide (20 < (ts.length : Int)) = false := by simp; omega
  go_enter Try.func5, Try.ntmps5
  obtain ⟨cx0, cx1, cx2⟩ := id B0
  go_wp2_with fail
  go_call (own_any pa xs ca _ (by omega) (hCa.below D0 (Nat.le_refl _))) as e w1 ⟨⟨ppRa, ccRa, rfl, Ra1⟩, hb⟩
  have B1 := B0.tr hb
  have D1 := tr D0 hb
  clear cx0 cx1 cx2 bx by' bz bt
  clear B0 D0 hb
  go_wp2_with fail
  go_call (own_any pb ys cb _ (by omega) (hCb.below D1 (Nat.le_refl _))) as e w2 ⟨⟨ppRb, ccRb, rfl, Rb2⟩, hb⟩
  have B2 := B1.tr hb
  have Ra2 := Ra1.below hb (Nat.le_refl _)
  have D2 := tr D1 hb
  clear B1 Ra1 D1 hb
  go_wp2_with fail
  go_call (hAB _ _ _ _ _ Ra2 Rb2) as e w3 ⟨rfl, hb⟩
  clear Ra2
  clear Rb2
  have B3 := B2.tr hb
  have D3 := tr D2 hb
  clear B2 D2 hb
  have P := below1 w3 (.cells #[.int .i64 0, .int .i64 0] 23)
  have B4 := B3.tr P
  have D4 := tr D3 P
  have E4 := Fr.new w3 0 0 23
  clear B3 D3 P
  go_wp2_with fail
  go_call (own_any pb ys cb _ (by omega) (hCb.below D4 (Nat.le_refl _))) as e w5 ⟨⟨ppRb, ccRb, rfl, Rb5⟩, hb⟩
  have B5 := B4.tr hb
  have E5 := E4.tr hb
  have D5 := tr D4 hb
  clear B4 E4 D4 hb
  go_wp2_with fail
  go_call (own_any pa xs ca _ (by omega) (hCa.below D5 (Nat.le_refl _))) as e w6 ⟨⟨ppRa, ccRa, rfl, Ra6⟩, hb⟩
  have B6 := B5.tr hb
  have E6 := E5.tr hb
  have Rb6 := Rb5.below hb (Nat.le_refl _)
  have D6 := tr D5 hb
  clear B5 E5 Rb5 D5 hb
  go_wp2_with fail
  go_call (hBA _ _ _ _ _ Rb6 Ra6) as e w7 ⟨rfl, hb⟩
  clear Ra6
  clear Rb6
  have B7 := B6.tr hb
  have E7 := E6.tr hb
  have D7 := tr D6 hb
  clear B6 E6 D6 hb
  have P := below1 w7 (.cells #[.int .i64 x0, .int .i64 x1] 23)
  have B8 := B7.tr P
  have E8 := E7.tr P
  have D8 := tr D7 P
  have F8 := Fr.new w7 x0 x1 23
  clear B7 E7 D7 P
  obtain ⟨cE0, cE1, _, _⟩ := id E8
  go_wp2_with fail
  go_call (known_any _) as e w9 ⟨rfl, hb⟩
  clear cE0 cE1
  have B9 := B8.tr hb
  have E9 := E8.tr hb
  have F9 := F8.tr hb
  have D9 := tr D8 hb
  clear B8 E8 F8 D8 hb
  go_wp2
  go_ret
  exact ⟨rfl, D9⟩

end Go.Proofs.Ytnpnnfbmnlgioaa
