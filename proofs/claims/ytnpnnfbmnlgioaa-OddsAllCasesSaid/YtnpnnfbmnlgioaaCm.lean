/-
  What Compare, Both and Either of package odds return for every two chances.
-/
import Derived.Test.YtnpnnfbmnlgioaaCj
import Derived.Test.YtnpnnfbmnlgioaaCk
import Derived.Test.YtnpnnfbmnlgioaaCl
namespace Go.Proofs.Ytnpnnfbmnlgioaa
open Go.RowKit
set_option linter.unusedVariables false

theorem lenOk : LenOk := fun y hy w => by
  have h := Try.bits_Len64 (y : Int) w (by omega) (by omega)
  rwa [Int.toNat_natCast] at h

theorem both_any (an ad bn bd : Int) (w : World) :
    Calls Try.prog 7 #[.agg #[.int .i64 an, .int .i64 ad], .agg #[.int .i64 bn, .int .i64 bd]] w fun e w' => e = .returned (.tuple #[.agg #[.int .i64 (sBoth an ad bn bd).1, .int .i64 (sBoth an ad bn bd).2.1], .int .i64 (sBoth an ad bn bd).2.2]) ∧ Below w.heap.size w w' := by
  by_cases h : badC an ad = true ∨ badC bn bd = true
  · unfold sBoth; rw [if_pos h]; exact both_bad an ad bn bd w h
  · have ha : badC an ad = false := by simpa using fun e => h (.inl e)
    have hb : badC bn bd = false := by simpa using fun e => h (.inr e)
    obtain ⟨a1, a2, a3, a4, _⟩ := badC_ok ha
    have g2 : 1 ≤ (Int.gcd bn ad : Int) := gcd_pos a1
    have yd0 : 1 ≤ ad / (Int.gcd bn ad : Int) := (Int.le_ediv_iff_mul_le (by omega)).2 (by have := Int.le_of_dvd (by omega) (Int.gcd_dvd_right bn ad); omega)
    by_cases hp : bd / (Int.gcd an bd : Int) ≤ 1000000000000000 / (ad / (Int.gcd bn ad : Int))
    · have := (le_div yd0).1 hp
      unfold sBoth; rw [if_neg h, if_neg (by omega)]
      exact both_ok an ad bn bd w ha hb _ _ _ _ rfl rfl rfl rfl hp
    · have : ¬ bd / (Int.gcd an bd : Int) * (ad / (Int.gcd bn ad : Int)) ≤ 1000000000000000 := fun k => hp ((le_div yd0).2 k)
      unfold sBoth; rw [if_neg h, if_pos (by omega)]
      exact both_over an ad bn bd w ha hb _ _ _ _ rfl rfl rfl rfl hp

theorem either_any (LN : LenOk) (an ad bn bd : Int) (w : World) :
    Calls Try.prog 9 #[.agg #[.int .i64 an, .int .i64 ad], .agg #[.int .i64 bn, .int .i64 bd]] w fun e w' => e = .returned (.tuple #[.agg #[.int .i64 (sEither an ad bn bd).1, .int .i64 (sEither an ad bn bd).2.1], .int .i64 (sEither an ad bn bd).2.2]) ∧ Below w.heap.size w w' := by
  by_cases h : badC an ad = true ∨ badC bn bd = true
  · unfold sEither; rw [if_pos h]; exact either_bad an ad bn bd w h
  · have ha : badC an ad = false := by simpa using fun e => h (.inl e)
    have hb : badC bn bd = false := by simpa using fun e => h (.inr e)
    have F := eFacts ha hb
    have hs : sEither an ad bn bd = if ad * (bd / eG ad bd) < eNum an ad bn bd then (0, 0, 3)
      else if 1000000000000000 < ad / eG ad bd * (bd / eBy an ad bn bd) then (0, 0, 10)
      else (eNum an ad bn bd / eBy an ad bn bd, ad / eG ad bd * (bd / eBy an ad bn bd), 0) := by unfold sEither; rw [if_neg h]
    rw [hs]
    have hby : eBy an ad bn bd = Int.gcd (eG ad bd) (eNum an ad bn bd % eG ad bd) := by unfold eBy; rw [Int.gcd_comm]
    have d1 : 1 ≤ bd / eBy an ad bn bd := by rw [F.bh]; exact Int.mul_pos (show 0 < _ from F.q1) (show 0 < _ from F.G1)
    refine either_main LN an ad bn bd w ha hb (eG ad bd) (ad / eG ad bd) (bd / eG ad bd) (eNum an ad bn bd) rfl rfl rfl rfl (eBy an ad bn bd) hby _ _ _ ?_ ?_ ?_
    · intro k; rw [if_pos k]; exact ⟨rfl, rfl, rfl⟩
    · intro k k2
      have : 1000000000000000 < ad / eG ad bd * (bd / eBy an ad bn bd) := by
        by_cases k3 : ad / eG ad bd * (bd / eBy an ad bn bd) ≤ 1000000000000000
        · have := (le_div d1).2 k3; omega
        · omega
      rw [if_neg (by omega), if_pos this]; exact ⟨rfl, rfl, rfl⟩
    · intro k k2
      have k3 := (le_div d1).1 k2
      rw [if_neg (by omega), if_neg (by omega)]
      refine ⟨rfl, rfl, rfl, ?_⟩
      have hle : eNum an ad bn bd / eBy an ad bn bd ≤ ad / eG ad bd * (bd / eBy an ad bn bd) := by
        refine Int.le_of_mul_le_mul_right ?_ (show 0 < eBy an ad bn bd from F.h1)
        rw [Int.ediv_mul_cancel F.hd, F.bh]
        have e1 := F.ap
        have e2 := F.hG
        generalize ad / eG ad bd = p at *
        generalize bd / eG ad bd = q at *
        generalize eG ad bd / eBy an ad bn bd = G at *
        generalize eBy an ad bn bd = h at *
        generalize eG ad bd = g at *
        have : p * (q * G) * h = ad * q := by rw [e1, e2]; ac_rfl
        rw [this]; exact k
      omega
end Go.Proofs.Ytnpnnfbmnlgioaa
