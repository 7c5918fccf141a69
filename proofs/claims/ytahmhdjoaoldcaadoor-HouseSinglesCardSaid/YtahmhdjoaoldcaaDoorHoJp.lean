/-
  The circle of houses: the region of Partner whose order is drawn.
-/
import Derived.Test.YtahmhdjoaoldcaaDoorHoJf
import Derived.Test.YtahmhdjoaoldcaaDoorHoG
namespace Go.Proofs.YtahmhdjoaoldcaaDoor
open Go Go.RowKit
set_option linter.unusedVariables false

def actP (a0 a1 a2 a3 a4 a5 a6 a7 a8 a9 a10 a11 a12 a13 a14 a15 a16 a17 a18 a19 a20 a21 a22 a23 a24 a25 a26 a27 a28 a29 a30 a31 a32 : Value) (b : Nat) (v25 v26 v27 v28 v29 v30 v31 v32 : Value) : Act := { tmps := #[a0, a1, a2, a3, if b.testBit 8 = true then v25 else a4, if b.testBit 9 = true then v32 else a5, if b.testBit 10 = true then .int .i64 0 else a6, a7, a8, a9, a10, a11, a12, a13, a14, a15, a16, a17, a18, a19, a20, a21, a22, a23, a24, if b.testBit 0 = true then v25 else a25, if b.testBit 1 = true then v26 else a26, if b.testBit 2 = true then v27 else a27, if b.testBit 3 = true then v28 else a28, if b.testBit 4 = true then v29 else a29, if b.testBit 5 = true then v30 else a30, if b.testBit 6 = true then v31 else a31, if b.testBit 7 = true then v32 else a32], defers := [] }
section
variable (a0 a1 a2 a3 a4 a5 a6 a7 a8 a9 a10 a11 a12 a13 a14 a15 a16 a17 a18 a19 a20 a21 a22 a23 a24 a25 a26 a27 a28 a29 a30 a31 a32 : Value) (b : Nat) (v25 v26 v27 v28 v29 v30 v31 v32 : Value)
theorem actP_0 : (actP a0 a1 a2 a3 a4 a5 a6 a7 a8 a9 a10 a11 a12 a13 a14 a15 a16 a17 a18 a19 a20 a21 a22 a23 a24 a25 a26 a27 a28 a29 a30 a31 a32 b v25 v26 v27 v28 v29 v30 v31 v32).put (some 25) v25 = actP a0 a1 a2 a3 a4 a5 a6 a7 a8 a9 a10 a11 a12 a13 a14 a15 a16 a17 a18 a19 a20 a21 a22 a23 a24 a25 a26 a27 a28 a29 a30 a31 a32 (b ||| 2 ^ 0) v25 v26 v27 v28 v29 v30 v31 v32 := by
  unfold actP
  simp only [tbJ]
  simp [Act.put]
theorem actP_1 : (actP a0 a1 a2 a3 a4 a5 a6 a7 a8 a9 a10 a11 a12 a13 a14 a15 a16 a17 a18 a19 a20 a21 a22 a23 a24 a25 a26 a27 a28 a29 a30 a31 a32 b v25 v26 v27 v28 v29 v30 v31 v32).put (some 26) v26 = actP a0 a1 a2 a3 a4 a5 a6 a7 a8 a9 a10 a11 a12 a13 a14 a15 a16 a17 a18 a19 a20 a21 a22 a23 a24 a25 a26 a27 a28 a29 a30 a31 a32 (b ||| 2 ^ 1) v25 v26 v27 v28 v29 v30 v31 v32 := by
  unfold actP
  simp only [tbJ]
  simp [Act.put]
theorem actP_2 : (actP a0 a1 a2 a3 a4 a5 a6 a7 a8 a9 a10 a11 a12 a13 a14 a15 a16 a17 a18 a19 a20 a21 a22 a23 a24 a25 a26 a27 a28 a29 a30 a31 a32 b v25 v26 v27 v28 v29 v30 v31 v32).put (some 27) v27 = actP a0 a1 a2 a3 a4 a5 a6 a7 a8 a9 a10 a11 a12 a13 a14 a15 a16 a17 a18 a19 a20 a21 a22 a23 a24 a25 a26 a27 a28 a29 a30 a31 a32 (b ||| 2 ^ 2) v25 v26 v27 v28 v29 v30 v31 v32 := by
  unfold actP
  simp only [tbJ]
  simp [Act.put]
theorem actP_3 : (actP a0 a1 a2 a3 a4 a5 a6 a7 a8 a9 a10 a11 a12 a13 a14 a15 a16 a17 a18 a19 a20 a21 a22 a23 a24 a25 a26 a27 a28 a29 a30 a31 a32 b v25 v26 v27 v28 v29 v30 v31 v32).put (some 28) v28 = actP a0 a1 a2 a3 a4 a5 a6 a7 a8 a9 a10 a11 a12 a13 a14 a15 a16 a17 a18 a19 a20 a21 a22 a23 a24 a25 a26 a27 a28 a29 a30 a31 a32 (b ||| 2 ^ 3) v25 v26 v27 v28 v29 v30 v31 v32 := by
  unfold actP
  simp only [tbJ]
  simp [Act.put]
theorem actP_4 : (actP a0 a1 a2 a3 a4 a5 a6 a7 a8 a9 a10 a11 a12 a13 a14 a15 a16 a17 a18 a19 a20 a21 a22 a23 a24 a25 a26 a27 a28 a29 a30 a31 a32 b v25 v26 v27 v28 v29 v30 v31 v32).put (some 29) v29 = actP a0 a1 a2 a3 a4 a5 a6 a7 a8 a9 a10 a11 a12 a13 a14 a15 a16 a17 a18 a19 a20 a21 a22 a23 a24 a25 a26 a27 a28 a29 a30 a31 a32 (b ||| 2 ^ 4) v25 v26 v27 v28 v29 v30 v31 v32 := by
  unfold actP
  simp only [tbJ]
  simp [Act.put]
theorem actP_5 : (actP a0 a1 a2 a3 a4 a5 a6 a7 a8 a9 a10 a11 a12 a13 a14 a15 a16 a17 a18 a19 a20 a21 a22 a23 a24 a25 a26 a27 a28 a29 a30 a31 a32 b v25 v26 v27 v28 v29 v30 v31 v32).put (some 30) v30 = actP a0 a1 a2 a3 a4 a5 a6 a7 a8 a9 a10 a11 a12 a13 a14 a15 a16 a17 a18 a19 a20 a21 a22 a23 a24 a25 a26 a27 a28 a29 a30 a31 a32 (b ||| 2 ^ 5) v25 v26 v27 v28 v29 v30 v31 v32 := by
  unfold actP
  simp only [tbJ]
  simp [Act.put]
theorem actP_6 : (actP a0 a1 a2 a3 a4 a5 a6 a7 a8 a9 a10 a11 a12 a13 a14 a15 a16 a17 a18 a19 a20 a21 a22 a23 a24 a25 a26 a27 a28 a29 a30 a31 a32 b v25 v26 v27 v28 v29 v30 v31 v32).put (some 31) v31 = actP a0 a1 a2 a3 a4 a5 a6 a7 a8 a9 a10 a11 a12 a13 a14 a15 a16 a17 a18 a19 a20 a21 a22 a23 a24 a25 a26 a27 a28 a29 a30 a31 a32 (b ||| 2 ^ 6) v25 v26 v27 v28 v29 v30 v31 v32 := by
  unfold actP
  simp only [tbJ]
  simp [Act.put]
theorem actP_7 : (actP a0 a1 a2 a3 a4 a5 a6 a7 a8 a9 a10 a11 a12 a13 a14 a15 a16 a17 a18 a19 a20 a21 a22 a23 a24 a25 a26 a27 a28 a29 a30 a31 a32 b v25 v26 v27 v28 v29 v30 v31 v32).put (some 32) v32 = actP a0 a1 a2 a3 a4 a5 a6 a7 a8 a9 a10 a11 a12 a13 a14 a15 a16 a17 a18 a19 a20 a21 a22 a23 a24 a25 a26 a27 a28 a29 a30 a31 a32 (b ||| 2 ^ 7) v25 v26 v27 v28 v29 v30 v31 v32 := by
  unfold actP
  simp only [tbJ]
  simp [Act.put]
theorem actP_8 : (actP a0 a1 a2 a3 a4 a5 a6 a7 a8 a9 a10 a11 a12 a13 a14 a15 a16 a17 a18 a19 a20 a21 a22 a23 a24 a25 a26 a27 a28 a29 a30 a31 a32 b v25 v26 v27 v28 v29 v30 v31 v32).put (some 4) v25 = actP a0 a1 a2 a3 a4 a5 a6 a7 a8 a9 a10 a11 a12 a13 a14 a15 a16 a17 a18 a19 a20 a21 a22 a23 a24 a25 a26 a27 a28 a29 a30 a31 a32 (b ||| 2 ^ 8) v25 v26 v27 v28 v29 v30 v31 v32 := by
  unfold actP
  simp only [tbJ]
  simp [Act.put]
theorem actP_9 : (actP a0 a1 a2 a3 a4 a5 a6 a7 a8 a9 a10 a11 a12 a13 a14 a15 a16 a17 a18 a19 a20 a21 a22 a23 a24 a25 a26 a27 a28 a29 a30 a31 a32 b v25 v26 v27 v28 v29 v30 v31 v32).put (some 5) v32 = actP a0 a1 a2 a3 a4 a5 a6 a7 a8 a9 a10 a11 a12 a13 a14 a15 a16 a17 a18 a19 a20 a21 a22 a23 a24 a25 a26 a27 a28 a29 a30 a31 a32 (b ||| 2 ^ 9) v25 v26 v27 v28 v29 v30 v31 v32 := by
  unfold actP
  simp only [tbJ]
  simp [Act.put]
theorem actP_10 : (actP a0 a1 a2 a3 a4 a5 a6 a7 a8 a9 a10 a11 a12 a13 a14 a15 a16 a17 a18 a19 a20 a21 a22 a23 a24 a25 a26 a27 a28 a29 a30 a31 a32 b v25 v26 v27 v28 v29 v30 v31 v32).put (some 6) (.int .i64 0) = actP a0 a1 a2 a3 a4 a5 a6 a7 a8 a9 a10 a11 a12 a13 a14 a15 a16 a17 a18 a19 a20 a21 a22 a23 a24 a25 a26 a27 a28 a29 a30 a31 a32 (b ||| 2 ^ 10) v25 v26 v27 v28 v29 v30 v31 v32 := by
  unfold actP
  simp only [tbJ]
  simp [Act.put]
end
def depsP (i : Nat) : List Nat := [[], [], [], [1, 2], [], [], [4, 5], [3, 6], [0], [7], []].getD i []
end Go.Proofs.YtahmhdjoaoldcaaDoor
