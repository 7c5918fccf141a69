/-
  The walk of OddsChances: what its calls return given, for each way.
-/
import Derived.Test.YtnpnnfbmnlgioaaCf
import Derived.Test.YtnpnnfbmnlgioaaK
namespace Go.Proofs.Ytnpnnfbmnlgioaa
open Go.RowKit
set_option linter.unusedVariables false

set_option maxRecDepth 100000 in
set_option maxHeartbeats 8000000 in
theorem chances_a (an ad bn bd x0 x1 f y0 y1 g z0 z1 h : Int) (w : World)
    (hK : ∀ w, Calls Try.prog 6 #[.agg #[.int .i64 an, .int .i64 ad], .agg #[.int .i64 bn, .int .i64 bd]] w fun e w' => e = .returned (.tuple #[.int .i64 0, .int .i64 2]) ∧ Below w.heap.size w w')
    (hX : ∀ w, Calls Try.prog 7 #[.agg #[.int .i64 an, .int .i64 ad], .agg #[.int .i64 bn, .int .i64 bd]] w fun e w' => e = .returned (.tuple #[.agg #[.int .i64 x0, .int .i64 x1], .int .i64 f]) ∧ Below w.heap.size w w')
    (hY : ∀ w, Calls Try.prog 8 #[.agg #[.int .i64 an, .int .i64 ad]] w fun e w' => e = .returned (.tuple #[.agg #[.int .i64 y0, .int .i64 y1], .int .i64 g]) ∧ Below w.heap.size w w')
    (hZ : ∀ w, Calls Try.prog 9 #[.agg #[.int .i64 an, .int .i64 ad], .agg #[.int .i64 bn, .int .i64 bd]] w fun e w' => e = .returned (.tuple #[.agg #[.int .i64 z0, .int .i64 z1], .int .i64 h]) ∧ Below w.heap.size w w')
    (hU : ∀ w, Calls Try.prog 12 #[.agg #[.int .i64 an, .int .i64 ad], .agg #[.int .i64 bn, .int .i64 bd]] w fun e w' => e = .returned (.tuple #[.agg #[.int .i64 x0, .int .i64 x1], .int .i64 f]) ∧ Below w.heap.size w w')
    (hV : ∀ w, Calls Try.prog 13 #[.agg #[.int .i64 an, .int .i64 ad]] w fun e w' => e = .returned (.tuple #[.agg #[.int .i64 y0, .int .i64 y1], .int .i64 g]) ∧ Below w.heap.size w w')
    (hW : ∀ w, Calls Try.prog 14 #[.agg #[.int .i64 an, .int .i64 ad], .agg #[.int .i64 bn, .int .i64 bd]] w fun e w' => e = .returned (.tuple #[.agg #[.int .i64 z0, .int .i64 z1], .int .i64 h]) ∧ Below w.heap.size w w')
    (hCa : ∀ w, Calls Try.prog 10 #[.agg #[.int .i64 an, .int .i64 ad]] w fun e w' => e = .returned (.bool false) ∧ Below w.heap.size w w')
    : Calls Try.prog 3 #[.agg #[.int .i64 an, .int .i64 ad], .agg #[.int .i64 bn, .int .i64 bd]] w fun e w' => e = .returned (.bool true) ∧ Below w.heap.size w w' := by
  have A0 : Fr ((w.alloc (.cells #[.int .i64 an, .int .i64 ad] 23)).alloc (.cells #[.int .i64 bn, .int .i64 bd] 23)) w.heap.size an ad := (Fr.new w an ad 23).tr (below1 _ (.cells #[.int .i64 bn, .int .i64 bd] 23))
  have B0 : Fr ((w.alloc (.cells #[.int .i64 an, .int .i64 ad] 23)).alloc (.cells #[.int .i64 bn, .int .i64 bd] 23)) (w.heap.size + 1) bn bd := by have := Fr.new (w.alloc (.cells #[.int .i64 an, .int .i64 ad] 23)) bn bd 23; simpa using this
  have D0 : Below w.heap.size w ((w.alloc (.cells #[.int .i64 an, .int .i64 ad] 23)).alloc (.cells #[.int .i64 bn, .int .i64 bd] 23)) := (below1 _ _).alloc (by simp) _
  go_enter Try.func3, Try.ntmps3
  obtain ⟨cA0, cA1, _, _⟩ := id A0
  obtain ⟨cB0, cB1, _, _⟩ := id B0
  go_wp2_with fail
  go_call (hK _) as e w1 ⟨rfl, hb⟩
  have A1 := A0.tr hb
  have B1 := B0.tr hb
  have D1 := tr D0 hb
  clear hb A0 B0 D0 cA0 cA1 cB0 cB1
  obtain ⟨cA0, cA1, _, _⟩ := id A1
  obtain ⟨cB0, cB1, _, _⟩ := id B1
  go_wp2_with fail
  go_call (hX _) as e w2 ⟨rfl, hb⟩
  have A2 := A1.tr hb
  have B2 := B1.tr hb
  have D2 := tr D1 hb
  clear hb A1 B1 D1 cA0 cA1 cB0 cB1
  have P := below1 w2 (.cells #[.int .i64 x0, .int .i64 x1] 23)
  have Ap := A2.tr P
  have Bp := B2.tr P
  have Xp := Fr.new w2 x0 x1 23
  have Dp := tr D2 P
  obtain ⟨cA0, cA1, _, _⟩ := id Ap
  obtain ⟨cB0, cB1, _, _⟩ := id Bp
  clear P A2 B2 D2
  go_wp2_with fail
  go_call (hY _) as e w3 ⟨rfl, hb⟩
  have A3 := Ap.tr hb
  have B3 := Bp.tr hb
  have X3 := Xp.tr hb
  have D3 := tr Dp hb
  clear hb Ap Bp Xp Dp cA0 cA1 cB0 cB1
  have P := below1 w3 (.cells #[.int .i64 y0, .int .i64 y1] 23)
  have Ap := A3.tr P
  have Bp := B3.tr P
  have Xp := X3.tr P
  have Yp := Fr.new w3 y0 y1 23
  have Dp := tr D3 P
  obtain ⟨cA0, cA1, _, _⟩ := id Ap
  obtain ⟨cB0, cB1, _, _⟩ := id Bp
  clear P A3 B3 X3 D3
  go_wp2_with fail
  go_call (hZ _) as e w4 ⟨rfl, hb⟩
  have A4 := Ap.tr hb
  have B4 := Bp.tr hb
  have X4 := Xp.tr hb
  have Y4 := Yp.tr hb
  have D4 := tr Dp hb
  clear hb Ap Bp Xp Yp Dp cA0 cA1 cB0 cB1
  have P := below1 w4 (.cells #[.int .i64 z0, .int .i64 z1] 23)
  have Ap := A4.tr P
  have Bp := B4.tr P
  have Xp := X4.tr P
  have Yp := Y4.tr P
  have Zp := Fr.new w4 z0 z1 23
  have Dp := tr D4 P
  obtain ⟨cA0, cA1, _, _⟩ := id Ap
  obtain ⟨cB0, cB1, _, _⟩ := id Bp
  clear P A4 B4 X4 Y4 D4
  go_wp2_with fail
  go_call (hCa _) as e w5 ⟨rfl, hb⟩
  have A5 := Ap.tr hb
  have B5 := Bp.tr hb
  have X5 := Xp.tr hb
  have Y5 := Yp.tr hb
  have Z5 := Zp.tr hb
  have D5 := tr Dp hb
  clear hb Ap Bp Xp Yp Zp Dp cA0 cA1 cB0 cB1
  obtain ⟨cA0, cA1, _, _⟩ := id A5
  obtain ⟨cB0, cB1, _, _⟩ := id B5
  go_wp2_with fail
  go_call (hU _) as e w6 ⟨rfl, hb⟩
  have A6 := A5.tr hb
  have B6 := B5.tr hb
  have X6 := X5.tr hb
  have Y6 := Y5.tr hb
  have Z6 := Z5.tr hb
  have D6 := tr D5 hb
  clear hb A5 B5 X5 Y5 Z5 D5 cA0 cA1 cB0 cB1
  have P := below1 w6 (.cells #[.int .i64 x0, .int .i64 x1] 23)
  have Ap := A6.tr P
  have Bp := B6.tr P
  have Xp := X6.tr P
  have Yp := Y6.tr P
  have Zp := Z6.tr P
  have Up := Fr.new w6 x0 x1 23
  have Dp := tr D6 P
  obtain ⟨cA0, cA1, _, _⟩ := id Ap
  obtain ⟨cB0, cB1, _, _⟩ := id Bp
  clear P A6 B6 X6 Y6 Z6 D6
  go_wp2_with fail
  go_call (hV _) as e w7 ⟨rfl, hb⟩
  have A7 := Ap.tr hb
  have B7 := Bp.tr hb
  have X7 := Xp.tr hb
  have Y7 := Yp.tr hb
  have Z7 := Zp.tr hb
  have U7 := Up.tr hb
  have D7 := tr Dp hb
  clear hb Ap Bp Xp Yp Zp Up Dp cA0 cA1 cB0 cB1
  have P := below1 w7 (.cells #[.int .i64 y0, .int .i64 y1] 23)
  have Ap := A7.tr P
  have Bp := B7.tr P
  have Xp := X7.tr P
  have Yp := Y7.tr P
  have Zp := Z7.tr P
  have Up := U7.tr P
  have Vp := Fr.new w7 y0 y1 23
  have Dp := tr D7 P
  obtain ⟨cA0, cA1, _, _⟩ := id Ap
  obtain ⟨cB0, cB1, _, _⟩ := id Bp
  clear P A7 B7 X7 Y7 Z7 U7 D7
  go_wp2_with fail
  go_call (hW _) as e w8 ⟨rfl, hb⟩
  have A8 := Ap.tr hb
  have B8 := Bp.tr hb
  have X8 := Xp.tr hb
  have Y8 := Yp.tr hb
  have Z8 := Zp.tr hb
  have U8 := Up.tr hb
  have V8 := Vp.tr hb
  have D8 := tr Dp hb
  clear hb Ap Bp Xp Yp Zp Up Vp Dp cA0 cA1 cB0 cB1
  have P := below1 w8 (.cells #[.int .i64 z0, .int .i64 z1] 23)
  have Ap := A8.tr P
  have Bp := B8.tr P
  have Xp := X8.tr P
  have Yp := Y8.tr P
  have Zp := Z8.tr P
  have Up := U8.tr P
  have Vp := V8.tr P
  have Wp := Fr.new w8 z0 z1 23
  have Dp := tr D8 P
  obtain ⟨cA0, cA1, _, _⟩ := id Ap
  obtain ⟨cB0, cB1, _, _⟩ := id Bp
  obtain ⟨cX0, cX1, _, _⟩ := id Xp
  obtain ⟨cY0, cY1, _, _⟩ := id Yp
  obtain ⟨cZ0, cZ1, _, _⟩ := id Zp
  obtain ⟨cU0, cU1, _, _⟩ := id Up
  obtain ⟨cV0, cV1, _, _⟩ := id Vp
  obtain ⟨cW0, cW1, _, _⟩ := id Wp
  clear P A8 B8 X8 Y8 Z8 U8 V8 D8
  go_wp2_with fail
  go_call (known_any _) as e w9 ⟨rfl, hb⟩
  have D9 := tr Dp hb
  go_wp2
  go_ret
  exact ⟨rfl, D9⟩

set_option maxRecDepth 100000 in
set_option maxHeartbeats 8000000 in
theorem chances_b (an ad bn bd x0 x1 f y0 y1 g z0 z1 h : Int) (w : World)
    (hK : ∀ w, Calls Try.prog 6 #[.agg #[.int .i64 an, .int .i64 ad], .agg #[.int .i64 bn, .int .i64 bd]] w fun e w' => e = .returned (.tuple #[.int .i64 0, .int .i64 2]) ∧ Below w.heap.size w w')
    (hX : ∀ w, Calls Try.prog 7 #[.agg #[.int .i64 an, .int .i64 ad], .agg #[.int .i64 bn, .int .i64 bd]] w fun e w' => e = .returned (.tuple #[.agg #[.int .i64 x0, .int .i64 x1], .int .i64 f]) ∧ Below w.heap.size w w')
    (hY : ∀ w, Calls Try.prog 8 #[.agg #[.int .i64 an, .int .i64 ad]] w fun e w' => e = .returned (.tuple #[.agg #[.int .i64 y0, .int .i64 y1], .int .i64 g]) ∧ Below w.heap.size w w')
    (hZ : ∀ w, Calls Try.prog 9 #[.agg #[.int .i64 an, .int .i64 ad], .agg #[.int .i64 bn, .int .i64 bd]] w fun e w' => e = .returned (.tuple #[.agg #[.int .i64 z0, .int .i64 z1], .int .i64 h]) ∧ Below w.heap.size w w')
    (hU : ∀ w, Calls Try.prog 12 #[.agg #[.int .i64 an, .int .i64 ad], .agg #[.int .i64 bn, .int .i64 bd]] w fun e w' => e = .returned (.tuple #[.agg #[.int .i64 x0, .int .i64 x1], .int .i64 f]) ∧ Below w.heap.size w w')
    (hV : ∀ w, Calls Try.prog 13 #[.agg #[.int .i64 an, .int .i64 ad]] w fun e w' => e = .returned (.tuple #[.agg #[.int .i64 y0, .int .i64 y1], .int .i64 g]) ∧ Below w.heap.size w w')
    (hW : ∀ w, Calls Try.prog 14 #[.agg #[.int .i64 an, .int .i64 ad], .agg #[.int .i64 bn, .int .i64 bd]] w fun e w' => e = .returned (.tuple #[.agg #[.int .i64 z0, .int .i64 z1], .int .i64 h]) ∧ Below w.heap.size w w')
    (hCa : ∀ w, Calls Try.prog 10 #[.agg #[.int .i64 an, .int .i64 ad]] w fun e w' => e = .returned (.bool true) ∧ Below w.heap.size w w')
    (hCb : ∀ w, Calls Try.prog 10 #[.agg #[.int .i64 bn, .int .i64 bd]] w fun e w' => e = .returned (.bool false) ∧ Below w.heap.size w w')
    : Calls Try.prog 3 #[.agg #[.int .i64 an, .int .i64 ad], .agg #[.int .i64 bn, .int .i64 bd]] w fun e w' => e = .returned (.bool true) ∧ Below w.heap.size w w' := by
  have A0 : Fr ((w.alloc (.cells #[.int .i64 an, .int .i64 ad] 23)).alloc (.cells #[.int .i64 bn, .int .i64 bd] 23)) w.heap.size an ad := (Fr.new w an ad 23).tr (below1 _ (.cells #[.int .i64 bn, .int .i64 bd] 23))
  have B0 : Fr ((w.alloc (.cells #[.int .i64 an, .int .i64 ad] 23)).alloc (.cells #[.int .i64 bn, .int .i64 bd] 23)) (w.heap.size + 1) bn bd := by have := Fr.new (w.alloc (.cells #[.int .i64 an, .int .i64 ad] 23)) bn bd 23; simpa using this
  have D0 : Below w.heap.size w ((w.alloc (.cells #[.int .i64 an, .int .i64 ad] 23)).alloc (.cells #[.int .i64 bn, .int .i64 bd] 23)) := (below1 _ _).alloc (by simp) _
  go_enter Try.func3, Try.ntmps3
  obtain ⟨cA0, cA1, _, _⟩ := id A0
  obtain ⟨cB0, cB1, _, _⟩ := id B0
  go_wp2_with fail
  go_call (hK _) as e w1 ⟨rfl, hb⟩
  have A1 := A0.tr hb
  have B1 := B0.tr hb
  have D1 := tr D0 hb
  clear hb A0 B0 D0 cA0 cA1 cB0 cB1
  obtain ⟨cA0, cA1, _, _⟩ := id A1
  obtain ⟨cB0, cB1, _, _⟩ := id B1
  go_wp2_with fail
  go_call (hX _) as e w2 ⟨rfl, hb⟩
  have A2 := A1.tr hb
  have B2 := B1.tr hb
  have D2 := tr D1 hb
  clear hb A1 B1 D1 cA0 cA1 cB0 cB1
  have P := below1 w2 (.cells #[.int .i64 x0, .int .i64 x1] 23)
  have Ap := A2.tr P
  have Bp := B2.tr P
  have Xp := Fr.new w2 x0 x1 23
  have Dp := tr D2 P
  obtain ⟨cA0, cA1, _, _⟩ := id Ap
  obtain ⟨cB0, cB1, _, _⟩ := id Bp
  clear P A2 B2 D2
  go_wp2_with fail
  go_call (hY _) as e w3 ⟨rfl, hb⟩
  have A3 := Ap.tr hb
  have B3 := Bp.tr hb
  have X3 := Xp.tr hb
  have D3 := tr Dp hb
  clear hb Ap Bp Xp Dp cA0 cA1 cB0 cB1
  have P := below1 w3 (.cells #[.int .i64 y0, .int .i64 y1] 23)
  have Ap := A3.tr P
  have Bp := B3.tr P
  have Xp := X3.tr P
  have Yp := Fr.new w3 y0 y1 23
  have Dp := tr D3 P
  obtain ⟨cA0, cA1, _, _⟩ := id Ap
  obtain ⟨cB0, cB1, _, _⟩ := id Bp
  clear P A3 B3 X3 D3
  go_wp2_with fail
  go_call (hZ _) as e w4 ⟨rfl, hb⟩
  have A4 := Ap.tr hb
  have B4 := Bp.tr hb
  have X4 := Xp.tr hb
  have Y4 := Yp.tr hb
  have D4 := tr Dp hb
  clear hb Ap Bp Xp Yp Dp cA0 cA1 cB0 cB1
  have P := below1 w4 (.cells #[.int .i64 z0, .int .i64 z1] 23)
  have Ap := A4.tr P
  have Bp := B4.tr P
  have Xp := X4.tr P
  have Yp := Y4.tr P
  have Zp := Fr.new w4 z0 z1 23
  have Dp := tr D4 P
  obtain ⟨cA0, cA1, _, _⟩ := id Ap
  obtain ⟨cB0, cB1, _, _⟩ := id Bp
  clear P A4 B4 X4 Y4 D4
  go_wp2_with fail
  go_call (hCa _) as e w5 ⟨rfl, hb⟩
  have A5 := Ap.tr hb
  have B5 := Bp.tr hb
  have X5 := Xp.tr hb
  have Y5 := Yp.tr hb
  have Z5 := Zp.tr hb
  have D5 := tr Dp hb
  clear hb Ap Bp Xp Yp Zp Dp cA0 cA1 cB0 cB1
  obtain ⟨cA0, cA1, _, _⟩ := id A5
  obtain ⟨cB0, cB1, _, _⟩ := id B5
  go_wp2_with fail
  go_call (hCb _) as e w6 ⟨rfl, hb⟩
  have A6 := A5.tr hb
  have B6 := B5.tr hb
  have X6 := X5.tr hb
  have Y6 := Y5.tr hb
  have Z6 := Z5.tr hb
  have D6 := tr D5 hb
  clear hb A5 B5 X5 Y5 Z5 D5 cA0 cA1 cB0 cB1
  obtain ⟨cA0, cA1, _, _⟩ := id A6
  obtain ⟨cB0, cB1, _, _⟩ := id B6
  go_wp2_with fail
  go_call (hU _) as e w7 ⟨rfl, hb⟩
  have A7 := A6.tr hb
  have B7 := B6.tr hb
  have X7 := X6.tr hb
  have Y7 := Y6.tr hb
  have Z7 := Z6.tr hb
  have D7 := tr D6 hb
  clear hb A6 B6 X6 Y6 Z6 D6 cA0 cA1 cB0 cB1
  have P := below1 w7 (.cells #[.int .i64 x0, .int .i64 x1] 23)
  have Ap := A7.tr P
  have Bp := B7.tr P
  have Xp := X7.tr P
  have Yp := Y7.tr P
  have Zp := Z7.tr P
  have Up := Fr.new w7 x0 x1 23
  have Dp := tr D7 P
  obtain ⟨cA0, cA1, _, _⟩ := id Ap
  obtain ⟨cB0, cB1, _, _⟩ := id Bp
  clear P A7 B7 X7 Y7 Z7 D7
  go_wp2_with fail
  go_call (hV _) as e w8 ⟨rfl, hb⟩
  have A8 := Ap.tr hb
  have B8 := Bp.tr hb
  have X8 := Xp.tr hb
  have Y8 := Yp.tr hb
  have Z8 := Zp.tr hb
  have U8 := Up.tr hb
  have D8 := tr Dp hb
  clear hb Ap Bp Xp Yp Zp Up Dp cA0 cA1 cB0 cB1
  have P := below1 w8 (.cells #[.int .i64 y0, .int .i64 y1] 23)
  have Ap := A8.tr P
  have Bp := B8.tr P
  have Xp := X8.tr P
  have Yp := Y8.tr P
  have Zp := Z8.tr P
  have Up := U8.tr P
  have Vp := Fr.new w8 y0 y1 23
  have Dp := tr D8 P
  obtain ⟨cA0, cA1, _, _⟩ := id Ap
  obtain ⟨cB0, cB1, _, _⟩ := id Bp
  clear P A8 B8 X8 Y8 Z8 U8 D8
  go_wp2_with fail
  go_call (hW _) as e w9 ⟨rfl, hb⟩
  have A9 := Ap.tr hb
  have B9 := Bp.tr hb
  have X9 := Xp.tr hb
  have Y9 := Yp.tr hb
  have Z9 := Zp.tr hb
  have U9 := Up.tr hb
  have V9 := Vp.tr hb
  have D9 := tr Dp hb
  clear hb Ap Bp Xp Yp Zp Up Vp Dp cA0 cA1 cB0 cB1
  have P := below1 w9 (.cells #[.int .i64 z0, .int .i64 z1] 23)
  have Ap := A9.tr P
  have Bp := B9.tr P
  have Xp := X9.tr P
  have Yp := Y9.tr P
  have Zp := Z9.tr P
  have Up := U9.tr P
  have Vp := V9.tr P
  have Wp := Fr.new w9 z0 z1 23
  have Dp := tr D9 P
  obtain ⟨cA0, cA1, _, _⟩ := id Ap
  obtain ⟨cB0, cB1, _, _⟩ := id Bp
  obtain ⟨cX0, cX1, _, _⟩ := id Xp
  obtain ⟨cY0, cY1, _, _⟩ := id Yp
  obtain ⟨cZ0, cZ1, _, _⟩ := id Zp
  obtain ⟨cU0, cU1, _, _⟩ := id Up
  obtain ⟨cV0, cV1, _, _⟩ := id Vp
  obtain ⟨cW0, cW1, _, _⟩ := id Wp
  clear P A9 B9 X9 Y9 Z9 U9 V9 D9
  go_wp2_with fail
  go_call (known_any _) as e w10 ⟨rfl, hb⟩
  have D10 := tr Dp hb
  go_wp2
  go_ret
  exact ⟨rfl, D10⟩

set_option maxRecDepth 100000 in
set_option maxHeartbeats 8000000 in
theorem chances_c (an ad bn bd n x0 x1 f y0 y1 g z0 z1 h : Int) (w : World)
    (hK : ∀ w, Calls Try.prog 6 #[.agg #[.int .i64 an, .int .i64 ad], .agg #[.int .i64 bn, .int .i64 bd]] w fun e w' => e = .returned (.tuple #[.int .i64 n, .int .i64 0]) ∧ Below w.heap.size w w')
    (hX : ∀ w, Calls Try.prog 7 #[.agg #[.int .i64 an, .int .i64 ad], .agg #[.int .i64 bn, .int .i64 bd]] w fun e w' => e = .returned (.tuple #[.agg #[.int .i64 x0, .int .i64 x1], .int .i64 f]) ∧ Below w.heap.size w w')
    (hY : ∀ w, Calls Try.prog 8 #[.agg #[.int .i64 an, .int .i64 ad]] w fun e w' => e = .returned (.tuple #[.agg #[.int .i64 y0, .int .i64 y1], .int .i64 g]) ∧ Below w.heap.size w w')
    (hZ : ∀ w, Calls Try.prog 9 #[.agg #[.int .i64 an, .int .i64 ad], .agg #[.int .i64 bn, .int .i64 bd]] w fun e w' => e = .returned (.tuple #[.agg #[.int .i64 z0, .int .i64 z1], .int .i64 h]) ∧ Below w.heap.size w w')
    (hU : ∀ w, Calls Try.prog 12 #[.agg #[.int .i64 an, .int .i64 ad], .agg #[.int .i64 bn, .int .i64 bd]] w fun e w' => e = .returned (.tuple #[.agg #[.int .i64 x0, .int .i64 x1], .int .i64 f]) ∧ Below w.heap.size w w')
    (hV : ∀ w, Calls Try.prog 13 #[.agg #[.int .i64 an, .int .i64 ad]] w fun e w' => e = .returned (.tuple #[.agg #[.int .i64 y0, .int .i64 y1], .int .i64 g]) ∧ Below w.heap.size w w')
    (hW : ∀ w, Calls Try.prog 14 #[.agg #[.int .i64 an, .int .i64 ad], .agg #[.int .i64 bn, .int .i64 bd]] w fun e w' => e = .returned (.tuple #[.agg #[.int .i64 z0, .int .i64 z1], .int .i64 h]) ∧ Below w.heap.size w w')
    (hCa : ∀ w, Calls Try.prog 10 #[.agg #[.int .i64 an, .int .i64 ad]] w fun e w' => e = .returned (.bool true) ∧ Below w.heap.size w w')
    (hCb : ∀ w, Calls Try.prog 10 #[.agg #[.int .i64 bn, .int .i64 bd]] w fun e w' => e = .returned (.bool true) ∧ Below w.heap.size w w')
    (hC : ∀ w, Calls Try.prog 11 #[.agg #[.int .i64 an, .int .i64 ad], .agg #[.int .i64 bn, .int .i64 bd]] w fun e w' => e = .returned (.int .i64 n) ∧ Below w.heap.size w w')
    : Calls Try.prog 3 #[.agg #[.int .i64 an, .int .i64 ad], .agg #[.int .i64 bn, .int .i64 bd]] w fun e w' => e = .returned (.bool true) ∧ Below w.heap.size w w' := by
  have A0 : Fr ((w.alloc (.cells #[.int .i64 an, .int .i64 ad] 23)).alloc (.cells #[.int .i64 bn, .int .i64 bd] 23)) w.heap.size an ad := (Fr.new w an ad 23).tr (below1 _ (.cells #[.int .i64 bn, .int .i64 bd] 23))
  have B0 : Fr ((w.alloc (.cells #[.int .i64 an, .int .i64 ad] 23)).alloc (.cells #[.int .i64 bn, .int .i64 bd] 23)) (w.heap.size + 1) bn bd := by have := Fr.new (w.alloc (.cells #[.int .i64 an, .int .i64 ad] 23)) bn bd 23; simpa using this
  have D0 : Below w.heap.size w ((w.alloc (.cells #[.int .i64 an, .int .i64 ad] 23)).alloc (.cells #[.int .i64 bn, .int .i64 bd] 23)) := (below1 _ _).alloc (by simp) _
  go_enter Try.func3, Try.ntmps3
  obtain ⟨cA0, cA1, _, _⟩ := id A0
  obtain ⟨cB0, cB1, _, _⟩ := id B0
  go_wp2_with fail
  go_call (hK _) as e w1 ⟨rfl, hb⟩
  have A1 := A0.tr hb
  have B1 := B0.tr hb
  have D1 := tr D0 hb
  clear hb A0 B0 D0 cA0 cA1 cB0 cB1
  obtain ⟨cA0, cA1, _, _⟩ := id A1
  obtain ⟨cB0, cB1, _, _⟩ := id B1
  go_wp2_with fail
  go_call (hX _) as e w2 ⟨rfl, hb⟩
  have A2 := A1.tr hb
  have B2 := B1.tr hb
  have D2 := tr D1 hb
  clear hb A1 B1 D1 cA0 cA1 cB0 cB1
  have P := below1 w2 (.cells #[.int .i64 x0, .int .i64 x1] 23)
  have Ap := A2.tr P
  have Bp := B2.tr P
  have Xp := Fr.new w2 x0 x1 23
  have Dp := tr D2 P
  obtain ⟨cA0, cA1, _, _⟩ := id Ap
  obtain ⟨cB0, cB1, _, _⟩ := id Bp
  clear P A2 B2 D2
  go_wp2_with fail
  go_call (hY _) as e w3 ⟨rfl, hb⟩
  have A3 := Ap.tr hb
  have B3 := Bp.tr hb
  have X3 := Xp.tr hb
  have D3 := tr Dp hb
  clear hb Ap Bp Xp Dp cA0 cA1 cB0 cB1
  have P := below1 w3 (.cells #[.int .i64 y0, .int .i64 y1] 23)
  have Ap := A3.tr P
  have Bp := B3.tr P
  have Xp := X3.tr P
  have Yp := Fr.new w3 y0 y1 23
  have Dp := tr D3 P
  obtain ⟨cA0, cA1, _, _⟩ := id Ap
  obtain ⟨cB0, cB1, _, _⟩ := id Bp
  clear P A3 B3 X3 D3
  go_wp2_with fail
  go_call (hZ _) as e w4 ⟨rfl, hb⟩
  have A4 := Ap.tr hb
  have B4 := Bp.tr hb
  have X4 := Xp.tr hb
  have Y4 := Yp.tr hb
  have D4 := tr Dp hb
  clear hb Ap Bp Xp Yp Dp cA0 cA1 cB0 cB1
  have P := below1 w4 (.cells #[.int .i64 z0, .int .i64 z1] 23)
  have Ap := A4.tr P
  have Bp := B4.tr P
  have Xp := X4.tr P
  have Yp := Y4.tr P
  have Zp := Fr.new w4 z0 z1 23
  have Dp := tr D4 P
  obtain ⟨cA0, cA1, _, _⟩ := id Ap
  obtain ⟨cB0, cB1, _, _⟩ := id Bp
  clear P A4 B4 X4 Y4 D4
  go_wp2_with fail
  go_call (hCa _) as e w5 ⟨rfl, hb⟩
  have A5 := Ap.tr hb
  have B5 := Bp.tr hb
  have X5 := Xp.tr hb
  have Y5 := Yp.tr hb
  have Z5 := Zp.tr hb
  have D5 := tr Dp hb
  clear hb Ap Bp Xp Yp Zp Dp cA0 cA1 cB0 cB1
  obtain ⟨cA0, cA1, _, _⟩ := id A5
  obtain ⟨cB0, cB1, _, _⟩ := id B5
  go_wp2_with fail
  go_call (hCb _) as e w6 ⟨rfl, hb⟩
  have A6 := A5.tr hb
  have B6 := B5.tr hb
  have X6 := X5.tr hb
  have Y6 := Y5.tr hb
  have Z6 := Z5.tr hb
  have D6 := tr D5 hb
  clear hb A5 B5 X5 Y5 Z5 D5 cA0 cA1 cB0 cB1
  obtain ⟨cA0, cA1, _, _⟩ := id A6
  obtain ⟨cB0, cB1, _, _⟩ := id B6
  go_wp2_with fail
  go_call (hC _) as e w7 ⟨rfl, hb⟩
  have A7 := A6.tr hb
  have B7 := B6.tr hb
  have X7 := X6.tr hb
  have Y7 := Y6.tr hb
  have Z7 := Z6.tr hb
  have D7 := tr D6 hb
  clear hb A6 B6 X6 Y6 Z6 D6 cA0 cA1 cB0 cB1
  obtain ⟨cA0, cA1, _, _⟩ := id A7
  obtain ⟨cB0, cB1, _, _⟩ := id B7
  go_wp2_with fail
  go_call (hU _) as e w8 ⟨rfl, hb⟩
  have A8 := A7.tr hb
  have B8 := B7.tr hb
  have X8 := X7.tr hb
  have Y8 := Y7.tr hb
  have Z8 := Z7.tr hb
  have D8 := tr D7 hb
  clear hb A7 B7 X7 Y7 Z7 D7 cA0 cA1 cB0 cB1
  have P := below1 w8 (.cells #[.int .i64 x0, .int .i64 x1] 23)
  have Ap := A8.tr P
  have Bp := B8.tr P
  have Xp := X8.tr P
  have Yp := Y8.tr P
  have Zp := Z8.tr P
  have Up := Fr.new w8 x0 x1 23
  have Dp := tr D8 P
  obtain ⟨cA0, cA1, _, _⟩ := id Ap
  obtain ⟨cB0, cB1, _, _⟩ := id Bp
  clear P A8 B8 X8 Y8 Z8 D8
  go_wp2_with fail
  go_call (hV _) as e w9 ⟨rfl, hb⟩
  have A9 := Ap.tr hb
  have B9 := Bp.tr hb
  have X9 := Xp.tr hb
  have Y9 := Yp.tr hb
  have Z9 := Zp.tr hb
  have U9 := Up.tr hb
  have D9 := tr Dp hb
  clear hb Ap Bp Xp Yp Zp Up Dp cA0 cA1 cB0 cB1
  have P := below1 w9 (.cells #[.int .i64 y0, .int .i64 y1] 23)
  have Ap := A9.tr P
  have Bp := B9.tr P
  have Xp := X9.tr P
  have Yp := Y9.tr P
  have Zp := Z9.tr P
  have Up := U9.tr P
  have Vp := Fr.new w9 y0 y1 23
  have Dp := tr D9 P
  obtain ⟨cA0, cA1, _, _⟩ := id Ap
  obtain ⟨cB0, cB1, _, _⟩ := id Bp
  clear P A9 B9 X9 Y9 Z9 U9 D9
  go_wp2_with fail
  go_call (hW _) as e w10 ⟨rfl, hb⟩
  have A10 := Ap.tr hb
  have B10 := Bp.tr hb
  have X10 := Xp.tr hb
  have Y10 := Yp.tr hb
  have Z10 := Zp.tr hb
  have U10 := Up.tr hb
  have V10 := Vp.tr hb
  have D10 := tr Dp hb
  clear hb Ap Bp Xp Yp Zp Up Vp Dp cA0 cA1 cB0 cB1
  have P := below1 w10 (.cells #[.int .i64 z0, .int .i64 z1] 23)
  have Ap := A10.tr P
  have Bp := B10.tr P
  have Xp := X10.tr P
  have Yp := Y10.tr P
  have Zp := Z10.tr P
  have Up := U10.tr P
  have Vp := V10.tr P
  have Wp := Fr.new w10 z0 z1 23
  have Dp := tr D10 P
  obtain ⟨cA0, cA1, _, _⟩ := id Ap
  obtain ⟨cB0, cB1, _, _⟩ := id Bp
  obtain ⟨cX0, cX1, _, _⟩ := id Xp
  obtain ⟨cY0, cY1, _, _⟩ := id Yp
  obtain ⟨cZ0, cZ1, _, _⟩ := id Zp
  obtain ⟨cU0, cU1, _, _⟩ := id Up
  obtain ⟨cV0, cV1, _, _⟩ := id Vp
  obtain ⟨cW0, cW1, _, _⟩ := id Wp
  clear P A10 B10 X10 Y10 Z10 U10 V10 D10
  go_wp2_with fail
  go_call (known_any _) as e w11 ⟨rfl, hb⟩
  have D11 := tr Dp hb
  go_wp2
  go_ret
  exact ⟨rfl, D11⟩

end Go.Proofs.Ytnpnnfbmnlgioaa
