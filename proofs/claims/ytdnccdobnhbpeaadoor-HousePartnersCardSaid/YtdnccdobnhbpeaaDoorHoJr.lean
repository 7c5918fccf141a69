/-
  The circle of houses: the region of Partner whose order is drawn.
  The circle of houses: the region of Partner, proved.
-/
import Derived.Test.YtdnccdobnhbpeaaDoorHoJf
import Derived.Test.YtdnccdobnhbpeaaDoorHoG
namespace Go.Proofs.YtdnccdobnhbpeaaDoor
open Go Go.RowKit
set_option linter.unusedVariables false

def actP (a0 a1 a2 a3 a4 a5 a6 a7 a8 a9 a10 a11 a12 a13 a14 a15 a16 a17 a18 a19 a20 a21 a22 a23 a24 a25 a26 a27 a28 a29 a30 a31 a32 : Value) (b : Nat) (v25 v26 v27 v28 v29 v30 v31 v32 : Value) : Act := { tmps := #[a0, a1, a2, a3, if b.testBit 8 = true then v25 else a4, if b.testBit 9 = true then v32 else a5, if b.testBit 10 = true then .int .i64 0 else a6, a7, a8, a9, a10, a11, a12, a13, a14, a15, a16, a17, a18, a19, a20, a21, a22, a23, a24, if b.testBit 0 = true then v25 else a25, if b.testBit 1 = true then v26 else a26, if b.testBit 2 = true then v27 else a27, if b.testBit 3 = true then v28 else a28, if b.testBit 4 = true then v29 else a29, if b.testBit 5 = true then v30 else a30, if b.testBit 6 = true then v31 else a31, if b.testBit 7 = true then v32 else a32], defers := [] }
section
variable (a0 a1 a2 a3 a4 a5 a6 a7 a8 a9 a10 a11 a12 a13 a14 a15 a16 a17 a18 a19 a20 a21 a22 a23 a24 a25 a26 a27 a28 a29 a30 a31 a32 : Value) (b : Nat) (v25 v26 v27 v28 v29 v30 v31 v32 : Value)
theorem actP_0 : (actP a0 a1 a2 a3 a4 a5 a6 a7 a8 a9 a10 a11 a12 a13 a14 a15 a16 a17 a18 a19 a20 a21 a22 a23 a24 a25 a26 a27 a28 a29 a30 a31 a32 b v25 v26 v27 v28 v29 v30 v31 v32).put (some 25) v25 = actP a0 a1 a2 a3 a4 a5 a6 a7 a8 a9 a10 a11 a12 a13 a14 a15 a16 a17 a18 a19 a20 a21 a22 a23 a24 a25 a26 a27 a28 a29 a30 a31 a32 (b ||| 2 ^ 0) v25 v26 v27 v28 v29 v30 v31 v32 := by
  unfold actP
  simp only [tbJ]
  simp [Act.put]
theorem actP_1 : (actP a0 a1 a2 a3 a4 a5 a6 a7 a8 a9 a10 a11 a12 a13 a14 a15 a16 a17 a18 a19 a20 a21 a22 a23 a24 a25 a26 a27 a28 a29 a30 a31 a32 b v25 v26 v27 v28 v29 v30 v31 v32).put (some 26) v26 = actP a0 a1 a2 a3 a4 a5 a6 a7 a8 a9 a10 a11 a12 a13 a14 a15 a16 a17 a18 a19 a20 a21 a22 a23 a24 a25 a26 a27 a28 a29 a30 a31 a32 (b ||| 2 ^ 1) v25 v26 v27 v28 v29 v30 v31 v32 := by
  unfold actP
  simp only [tbJ]
  simp [Act.put]
theorem actP_2 : (actP a0 a1 a2 a3 a4 a5 a6 a7 a8 a9 a10 a11 a12 a13 a14 a15 a16 a17 a18 a19 a20 a21 a22 a23 a24 a25 a26 a27 a28 a29 a30 a31 a32 b v25 v26 v27 v28 v29 v30 v31 v32).put (some 27) v27 = actP a0 a1 a2 a3 a4 a5 a6 a7 a8 a9 a10 a11 a12 a13 a14 a15 a16 a17 a18 a19 a20 a21 a22 a23 a24 a25 a26 a27 a28 a29 a30 a31 a32 (b ||| 2 ^ 2) v25 v26 v27 v28 v29 v30 v31 v32 := by
  unfold actP
  simp only [tbJ]
  simp [Act.put]
theorem actP_3 : (actP a0 a1 a2 a3 a4 a5 a6 a7 a8 a9 a10 a11 a12 a13 a14 a15 a16 a17 a18 a19 a20 a21 a22 a23 a24 a25 a26 a27 a28 a29 a30 a31 a32 b v25 v26 v27 v28 v29 v30 v31 v32).put (some 28) v28 = actP a0 a1 a2 a3 a4 a5 a6 a7 a8 a9 a10 a11 a12 a13 a14 a15 a16 a17 a18 a19 a20 a21 a22 a23 a24 a25 a26 a27 a28 a29 a30 a31 a32 (b ||| 2 ^ 3) v25 v26 v27 v28 v29 v30 v31 v32 := by
  unfold actP
  simp only [tbJ]
  simp [Act.put]
theorem actP_4 : (actP a0 a1 a2 a3 a4 a5 a6 a7 a8 a9 a10 a11 a12 a13 a14 a15 a16 a17 a18 a19 a20 a21 a22 a23 a24 a25 a26 a27 a28 a29 a30 a31 a32 b v25 v26 v27 v28 v29 v30 v31 v32).put (some 29) v29 = actP a0 a1 a2 a3 a4 a5 a6 a7 a8 a9 a10 a11 a12 a13 a14 a15 a16 a17 a18 a19 a20 a21 a22 a23 a24 a25 a26 a27 a28 a29 a30 a31 a32 (b ||| 2 ^ 4) v25 v26 v27 v28 v29 v30 v31 v32 := by
  unfold actP
  simp only [tbJ]
  simp [Act.put]
theorem actP_5 : (actP a0 a1 a2 a3 a4 a5 a6 a7 a8 a9 a10 a11 a12 a13 a14 a15 a16 a17 a18 a19 a20 a21 a22 a23 a24 a25 a26 a27 a28 a29 a30 a31 a32 b v25 v26 v27 v28 v29 v30 v31 v32).put (some 30) v30 = actP a0 a1 a2 a3 a4 a5 a6 a7 a8 a9 a10 a11 a12 a13 a14 a15 a16 a17 a18 a19 a20 a21 a22 a23 a24 a25 a26 a27 a28 a29 a30 a31 a32 (b ||| 2 ^ 5) v25 v26 v27 v28 v29 v30 v31 v32 := by
  unfold actP
  simp only [tbJ]
  simp [Act.put]
theorem actP_6 : (actP a0 a1 a2 a3 a4 a5 a6 a7 a8 a9 a10 a11 a12 a13 a14 a15 a16 a17 a18 a19 a20 a21 a22 a23 a24 a25 a26 a27 a28 a29 a30 a31 a32 b v25 v26 v27 v28 v29 v30 v31 v32).put (some 31) v31 = actP a0 a1 a2 a3 a4 a5 a6 a7 a8 a9 a10 a11 a12 a13 a14 a15 a16 a17 a18 a19 a20 a21 a22 a23 a24 a25 a26 a27 a28 a29 a30 a31 a32 (b ||| 2 ^ 6) v25 v26 v27 v28 v29 v30 v31 v32 := by
  unfold actP
  simp only [tbJ]
  simp [Act.put]
theorem actP_7 : (actP a0 a1 a2 a3 a4 a5 a6 a7 a8 a9 a10 a11 a12 a13 a14 a15 a16 a17 a18 a19 a20 a21 a22 a23 a24 a25 a26 a27 a28 a29 a30 a31 a32 b v25 v26 v27 v28 v29 v30 v31 v32).put (some 32) v32 = actP a0 a1 a2 a3 a4 a5 a6 a7 a8 a9 a10 a11 a12 a13 a14 a15 a16 a17 a18 a19 a20 a21 a22 a23 a24 a25 a26 a27 a28 a29 a30 a31 a32 (b ||| 2 ^ 7) v25 v26 v27 v28 v29 v30 v31 v32 := by
  unfold actP
  simp only [tbJ]
  simp [Act.put]
theorem actP_8 : (actP a0 a1 a2 a3 a4 a5 a6 a7 a8 a9 a10 a11 a12 a13 a14 a15 a16 a17 a18 a19 a20 a21 a22 a23 a24 a25 a26 a27 a28 a29 a30 a31 a32 b v25 v26 v27 v28 v29 v30 v31 v32).put (some 4) v25 = actP a0 a1 a2 a3 a4 a5 a6 a7 a8 a9 a10 a11 a12 a13 a14 a15 a16 a17 a18 a19 a20 a21 a22 a23 a24 a25 a26 a27 a28 a29 a30 a31 a32 (b ||| 2 ^ 8) v25 v26 v27 v28 v29 v30 v31 v32 := by
  unfold actP
  simp only [tbJ]
  simp [Act.put]
theorem actP_9 : (actP a0 a1 a2 a3 a4 a5 a6 a7 a8 a9 a10 a11 a12 a13 a14 a15 a16 a17 a18 a19 a20 a21 a22 a23 a24 a25 a26 a27 a28 a29 a30 a31 a32 b v25 v26 v27 v28 v29 v30 v31 v32).put (some 5) v32 = actP a0 a1 a2 a3 a4 a5 a6 a7 a8 a9 a10 a11 a12 a13 a14 a15 a16 a17 a18 a19 a20 a21 a22 a23 a24 a25 a26 a27 a28 a29 a30 a31 a32 (b ||| 2 ^ 9) v25 v26 v27 v28 v29 v30 v31 v32 := by
  unfold actP
  simp only [tbJ]
  simp [Act.put]
theorem actP_10 : (actP a0 a1 a2 a3 a4 a5 a6 a7 a8 a9 a10 a11 a12 a13 a14 a15 a16 a17 a18 a19 a20 a21 a22 a23 a24 a25 a26 a27 a28 a29 a30 a31 a32 b v25 v26 v27 v28 v29 v30 v31 v32).put (some 6) (.int .i64 0) = actP a0 a1 a2 a3 a4 a5 a6 a7 a8 a9 a10 a11 a12 a13 a14 a15 a16 a17 a18 a19 a20 a21 a22 a23 a24 a25 a26 a27 a28 a29 a30 a31 a32 (b ||| 2 ^ 10) v25 v26 v27 v28 v29 v30 v31 v32 := by
  unfold actP
  simp only [tbJ]
  simp [Act.put]
end
def depsP (i : Nat) : List Nat := [[], [], [], [1, 2], [], [], [4, 5], [3, 6], [0], [7], []].getD i []
end Go.Proofs.YtdnccdobnhbpeaaDoor

namespace Go.Proofs.YtdnccdobnhbpeaaDoor
open Go Go.RowKit
set_option linter.unusedVariables false

def opsP : Array Oper := #[{ dst := some 25, op := Op.move (Operand.tmp 4), type := 3, pos := "verdict.go:23", after := #[], guard := none }, { dst := some 26, op := Op.load 84 (Operand.tmp 7), type := 84, pos := "verdict.go:23", after := #[], guard := none }, { dst := some 27, op := Op.move (Operand.tmp 1), type := 3, pos := "verdict.go:23", after := #[], guard := none }, { dst := some 28, op := Op.call { callee := Callee.value (Operand.func 34), args := #[Operand.tmp 26, Operand.tmp 27], argTypes := #[84, 3] }, type := 22, pos := "verdict.go:23", after := #[{ on := 1, ground := Ground.data }, { on := 2, ground := Ground.data }], guard := none }, { dst := some 29, op := Op.load 84 (Operand.tmp 7), type := 84, pos := "verdict.go:23", after := #[], guard := none }, { dst := some 30, op := Op.move (Operand.tmp 4), type := 3, pos := "verdict.go:23", after := #[], guard := none }, { dst := some 31, op := Op.call { callee := Callee.value (Operand.func 34), args := #[Operand.tmp 29, Operand.tmp 30], argTypes := #[84, 3] }, type := 22, pos := "verdict.go:23", after := #[{ on := 4, ground := Ground.data }, { on := 5, ground := Ground.data }, { on := 3, ground := Ground.chain }], guard := none }, { dst := some 32, op := Op.call { callee := Callee.value (Operand.func 35), args := #[Operand.tmp 28, Operand.tmp 31], argTypes := #[22, 22] }, type := 29, pos := "verdict.go:23", after := #[{ on := 3, ground := Ground.data }, { on := 6, ground := Ground.data }, { on := 6, ground := Ground.chain }], guard := none }, { dst := some 4, op := Op.assign (Operand.tmp 25), type := 3, pos := "verdict.go:23", after := #[{ on := 0, ground := Ground.data }, { on := 7, ground := Ground.chain }, { on := 0, ground := Ground.phase }, { on := 1, ground := Ground.textOnly Departure.lateStores }, { on := 2, ground := Ground.textOnly Departure.lateStores }, { on := 3, ground := Ground.textOnly Departure.lateStoresUnsure }, { on := 4, ground := Ground.textOnly Departure.lateStores }, { on := 5, ground := Ground.phase }, { on := 6, ground := Ground.textOnly Departure.lateStoresUnsure }, { on := 7, ground := Ground.textOnly Departure.lateStoresUnsure }], guard := none }, { dst := some 5, op := Op.assign (Operand.tmp 32), type := 29, pos := "verdict.go:23", after := #[{ on := 7, ground := Ground.data }, { on := 8, ground := Ground.chain }, { on := 0, ground := Ground.phase }, { on := 1, ground := Ground.phase }, { on := 2, ground := Ground.phase }, { on := 3, ground := Ground.phase }, { on := 4, ground := Ground.phase }, { on := 5, ground := Ground.phase }, { on := 6, ground := Ground.phase }, { on := 7, ground := Ground.phase }, { on := 8, ground := Ground.phase }], guard := none }, { dst := some 6, op := Op.assign (Operand.const (Value.int IntKind.i64 0)), type := 26, pos := "verdict.go:23", after := #[{ on := 9, ground := Ground.chain }, { on := 0, ground := Ground.phase }, { on := 1, ground := Ground.phase }, { on := 2, ground := Ground.phase }, { on := 3, ground := Ground.phase }, { on := 4, ground := Ground.phase }, { on := 5, ground := Ground.phase }, { on := 6, ground := Ground.phase }, { on := 7, ground := Ground.phase }, { on := 8, ground := Ground.phase }, { on := 9, ground := Ground.phase }], guard := none }]
def okP (b : Nat) : Bool := (Region.ready .any opsP (bitsA 11 b)).all (fun i => decide (i < 11) && !b.testBit i && (depsP i).all b.testBit) && ((Region.ready .any opsP (bitsA 11 b)).isEmpty == decide (b = 2 ^ 11 - 1))
theorem okP_0 : ((List.range 128).all fun d => okP (0 + d)) = true := by kernel_rfl
theorem okP_1 : ((List.range 128).all fun d => okP (128 + d)) = true := by kernel_rfl
theorem okP_2 : ((List.range 128).all fun d => okP (256 + d)) = true := by kernel_rfl
theorem okP_3 : ((List.range 128).all fun d => okP (384 + d)) = true := by kernel_rfl
theorem okP_4 : ((List.range 128).all fun d => okP (512 + d)) = true := by kernel_rfl
theorem okP_5 : ((List.range 128).all fun d => okP (640 + d)) = true := by kernel_rfl
theorem okP_6 : ((List.range 128).all fun d => okP (768 + d)) = true := by kernel_rfl
theorem okP_7 : ((List.range 128).all fun d => okP (896 + d)) = true := by kernel_rfl
theorem okP_8 : ((List.range 128).all fun d => okP (1024 + d)) = true := by kernel_rfl
theorem okP_9 : ((List.range 128).all fun d => okP (1152 + d)) = true := by kernel_rfl
theorem okP_10 : ((List.range 128).all fun d => okP (1280 + d)) = true := by kernel_rfl
theorem okP_11 : ((List.range 128).all fun d => okP (1408 + d)) = true := by kernel_rfl
theorem okP_12 : ((List.range 128).all fun d => okP (1536 + d)) = true := by kernel_rfl
theorem okP_13 : ((List.range 128).all fun d => okP (1664 + d)) = true := by kernel_rfl
theorem okP_14 : ((List.range 128).all fun d => okP (1792 + d)) = true := by kernel_rfl
theorem okP_15 : ((List.range 128).all fun d => okP (1920 + d)) = true := by kernel_rfl
theorem okP_all : ∀ b, b < 2048 → okP b = true := fun b hb => by
  have h : b / 128 = 0 ∨ b / 128 = 1 ∨ b / 128 = 2 ∨ b / 128 = 3 ∨ b / 128 = 4 ∨ b / 128 = 5 ∨ b / 128 = 6 ∨ b / 128 = 7 ∨ b / 128 = 8 ∨ b / 128 = 9 ∨ b / 128 = 10 ∨ b / 128 = 11 ∨ b / 128 = 12 ∨ b / 128 = 13 ∨ b / 128 = 14 ∨ b / 128 = 15 := by omega
  have e : b = b / 128 * 128 + b % 128 := by omega
  have hm : b % 128 ∈ List.range 128 := List.mem_range.2 (Nat.mod_lt _ (by decide))
  rcases h with h | h | h | h | h | h | h | h | h | h | h | h | h | h | h | h
  · have := List.all_eq_true.1 okP_0 _ hm
    rwa [show 0 + b % 128 = b by omega] at this
  · have := List.all_eq_true.1 okP_1 _ hm
    rwa [show 128 + b % 128 = b by omega] at this
  · have := List.all_eq_true.1 okP_2 _ hm
    rwa [show 256 + b % 128 = b by omega] at this
  · have := List.all_eq_true.1 okP_3 _ hm
    rwa [show 384 + b % 128 = b by omega] at this
  · have := List.all_eq_true.1 okP_4 _ hm
    rwa [show 512 + b % 128 = b by omega] at this
  · have := List.all_eq_true.1 okP_5 _ hm
    rwa [show 640 + b % 128 = b by omega] at this
  · have := List.all_eq_true.1 okP_6 _ hm
    rwa [show 768 + b % 128 = b by omega] at this
  · have := List.all_eq_true.1 okP_7 _ hm
    rwa [show 896 + b % 128 = b by omega] at this
  · have := List.all_eq_true.1 okP_8 _ hm
    rwa [show 1024 + b % 128 = b by omega] at this
  · have := List.all_eq_true.1 okP_9 _ hm
    rwa [show 1152 + b % 128 = b by omega] at this
  · have := List.all_eq_true.1 okP_10 _ hm
    rwa [show 1280 + b % 128 = b by omega] at this
  · have := List.all_eq_true.1 okP_11 _ hm
    rwa [show 1408 + b % 128 = b by omega] at this
  · have := List.all_eq_true.1 okP_12 _ hm
    rwa [show 1536 + b % 128 = b by omega] at this
  · have := List.all_eq_true.1 okP_13 _ hm
    rwa [show 1664 + b % 128 = b by omega] at this
  · have := List.all_eq_true.1 okP_14 _ hm
    rwa [show 1792 + b % 128 = b by omega] at this
  · have := List.all_eq_true.1 okP_15 _ hm
    rwa [show 1920 + b % 128 = b by omega] at this
theorem regionP_ok : RegionOk .any opsP opsP.size depsP := by
  have hs : opsP.size = 11 := rfl
  rw [hs]
  refine ⟨fun b hb => ?_, fun b hb => ?_⟩
  · have := okP_all b hb
    unfold okP at this
    exact (Bool.and_eq_true_iff.1 this).1
  · have := (Bool.and_eq_true_iff.1 (okP_all b hb)).2
    rw [beq_iff_eq] at this
    constructor
    · intro h
      rw [h] at this
      exact of_decide_eq_true this.symm
    · intro h
      rw [decide_eq_true h] at this
      exact List.isEmpty_iff.1 this
set_option maxRecDepth 100000 in
set_option maxHeartbeats 8000000 in
theorem partner_region {Q : Exit → Act → World → Prop} (a0 a2 a3 a5 a6 a8 a9 a10 a11 a12 a13 a14 a15 a16 a17 a18 a19 a20 a21 a22 a23 a24 a25 a26 a27 a28 a29 a30 a31 a32 : Value) (s0 s1 s2 s3 s4 s5 s6 s7 s8 s9 s10 s11 : Int) (m : Option Nat) (k pq S5 : Nat) (f g c : Int) (hk : k < 12) (hpq : pq < 12) (hef : nth [s0, s1, s2, s3, s4, s5, s6, s7, s8, s9, s10, s11] k = f) (heg : nth [s0, s1, s2, s3, s4, s5, s6, s7, s8, s9, s10, s11] pq = g) (hf : Fig f) (hg : Fig g) (hec : Int.ofNat (compN f.toNat g.toNat) = c)
    (W5 : World) (h7 : 6 ≤ W5.heap.size) (hr : Rul W5) (hst : Blk W5 S5 84 #[.int .i64 s0, .int .i64 s1, .int .i64 s2, .int .i64 s3, .int .i64 s4, .int .i64 s5, .int .i64 s6, .int .i64 s7, .int .i64 s8, .int .i64 s9, .int .i64 s10, .int .i64 s11, .map m])
    (hQ : ∀ V1, Below W5.heap.size W5 V1 → Q .normal (({ tmps := #[a0, (.int .i64 ((k : Int) + 1)), a2, a3, (.int .i64 ((pq : Int) + 1)), (.int .i64 c), (.int .i64 0), (.pointer (some ⟨S5, 0, none⟩)), a8, a9, a10, a11, a12, a13, a14, a15, a16, a17, a18, a19, a20, a21, a22, a23, a24, (.int .i64 ((pq : Int) + 1)), (.agg #[.int .i64 s0, .int .i64 s1, .int .i64 s2, .int .i64 s3, .int .i64 s4, .int .i64 s5, .int .i64 s6, .int .i64 s7, .int .i64 s8, .int .i64 s9, .int .i64 s10, .int .i64 s11, .map m]), (.int .i64 ((k : Int) + 1)), (.int .i64 f), (.agg #[.int .i64 s0, .int .i64 s1, .int .i64 s2, .int .i64 s3, .int .i64 s4, .int .i64 s5, .int .i64 s6, .int .i64 s7, .int .i64 s8, .int .i64 s9, .int .i64 s10, .int .i64 s11, .map m]), (.int .i64 ((pq : Int) + 1)), (.int .i64 g), (.int .i64 c)], defers := [] } : Act)) V1) :
    (Code.region 7 opsP true).wp Tryd.prog Q (({ tmps := #[a0, (.int .i64 ((k : Int) + 1)), a2, a3, (.int .i64 ((pq : Int) + 1)), a5, a6, (.pointer (some ⟨S5, 0, none⟩)), a8, a9, a10, a11, a12, a13, a14, a15, a16, a17, a18, a19, a20, a21, a22, a23, a24, a25, a26, a27, a28, a29, a30, a31, a32], defers := [] } : Act)) W5 := by
  refine wp_region_inv follows_mixed depsP regionP_ok (fun b a V1 => Blk V1 S5 84 #[.int .i64 s0, .int .i64 s1, .int .i64 s2, .int .i64 s3, .int .i64 s4, .int .i64 s5, .int .i64 s6, .int .i64 s7, .int .i64 s8, .int .i64 s9, .int .i64 s10, .int .i64 s11, .map m] ∧ Below W5.heap.size W5 V1 ∧ a = actP a0 (.int .i64 ((k : Int) + 1)) a2 a3 (.int .i64 ((pq : Int) + 1)) a5 a6 (.pointer (some ⟨S5, 0, none⟩)) a8 a9 a10 a11 a12 a13 a14 a15 a16 a17 a18 a19 a20 a21 a22 a23 a24 a25 a26 a27 a28 a29 a30 a31 a32 b (.int .i64 ((pq : Int) + 1)) (.agg #[.int .i64 s0, .int .i64 s1, .int .i64 s2, .int .i64 s3, .int .i64 s4, .int .i64 s5, .int .i64 s6, .int .i64 s7, .int .i64 s8, .int .i64 s9, .int .i64 s10, .int .i64 s11, .map m]) (.int .i64 ((k : Int) + 1)) (.int .i64 f) (.agg #[.int .i64 s0, .int .i64 s1, .int .i64 s2, .int .i64 s3, .int .i64 s4, .int .i64 s5, .int .i64 s6, .int .i64 s7, .int .i64 s8, .int .i64 s9, .int .i64 s10, .int .i64 s11, .map m]) (.int .i64 ((pq : Int) + 1)) (.int .i64 g) (.int .i64 c)) ?start ?step ?fin
  case start => exact ⟨hst, (Below.refl _ _).drew, by simp [actP]⟩
  case fin =>
    rintro a V1 ⟨_, H2, rfl⟩
    exact hQ V1 H2
  case step =>
  rintro b a V1 ⟨H1, H2, rfl⟩ i hi hb hd
  have hi11 : i < 11 := hi
  clear hi hQ
  have e : i = 0 ∨ i = 1 ∨ i = 2 ∨ i = 3 ∨ i = 4 ∨ i = 5 ∨ i = 6 ∨ i = 7 ∨ i = 8 ∨ i = 9 ∨ i = 10 := by omega
  rcases e with rfl | rfl | rfl | rfl | rfl | rfl | rfl | rfl | rfl | rfl | rfl
  · have _t : True := trivial
    have ev4 : (actP a0 (.int .i64 ((k : Int) + 1)) a2 a3 (.int .i64 ((pq : Int) + 1)) a5 a6 (.pointer (some ⟨S5, 0, none⟩)) a8 a9 a10 a11 a12 a13 a14 a15 a16 a17 a18 a19 a20 a21 a22 a23 a24 a25 a26 a27 a28 a29 a30 a31 a32 b (.int .i64 ((pq : Int) + 1)) (.agg #[.int .i64 s0, .int .i64 s1, .int .i64 s2, .int .i64 s3, .int .i64 s4, .int .i64 s5, .int .i64 s6, .int .i64 s7, .int .i64 s8, .int .i64 s9, .int .i64 s10, .int .i64 s11, .map m]) (.int .i64 ((k : Int) + 1)) (.int .i64 f) (.agg #[.int .i64 s0, .int .i64 s1, .int .i64 s2, .int .i64 s3, .int .i64 s4, .int .i64 s5, .int .i64 s6, .int .i64 s7, .int .i64 s8, .int .i64 s9, .int .i64 s10, .int .i64 s11, .map m]) (.int .i64 ((pq : Int) + 1)) (.int .i64 g) (.int .i64 c)).tmps[4]?.getD undef = (.int .i64 ((pq : Int) + 1)) := by
      show (if b.testBit 8 = true then _ else _) = _
      split <;> rfl
    refine wpOp_step (o := { dst := some 25, op := Op.move (Operand.tmp 4), type := 3, pos := "verdict.go:23", after := #[], guard := none }) rfl (fun K hK => ?_)
    refine Eq.mpr (if_pos (by rfl)) ?_
    generalize hact : actP a0 (.int .i64 ((k : Int) + 1)) a2 a3 (.int .i64 ((pq : Int) + 1)) a5 a6 (.pointer (some ⟨S5, 0, none⟩)) a8 a9 a10 a11 a12 a13 a14 a15 a16 a17 a18 a19 a20 a21 a22 a23 a24 a25 a26 a27 a28 a29 a30 a31 a32 b (.int .i64 ((pq : Int) + 1)) (.agg #[.int .i64 s0, .int .i64 s1, .int .i64 s2, .int .i64 s3, .int .i64 s4, .int .i64 s5, .int .i64 s6, .int .i64 s7, .int .i64 s8, .int .i64 s9, .int .i64 s10, .int .i64 s11, .map m]) (.int .i64 ((k : Int) + 1)) (.int .i64 f) (.agg #[.int .i64 s0, .int .i64 s1, .int .i64 s2, .int .i64 s3, .int .i64 s4, .int .i64 s5, .int .i64 s6, .int .i64 s7, .int .i64 s8, .int .i64 s9, .int .i64 s10, .int .i64 s11, .map m]) (.int .i64 ((pq : Int) + 1)) (.int .i64 g) (.int .i64 c) = act at ev4 ⊢
    go_simp
    refine hK _ _ ?_
    rw [← hact]
    exact ⟨H1, H2, actP_0 ..⟩
  · have _t : True := trivial
    refine wpOp_step (o := { dst := some 26, op := Op.load 84 (Operand.tmp 7), type := 84, pos := "verdict.go:23", after := #[], guard := none }) rfl (fun K hK => ?_)
    refine Eq.mpr (if_pos (by rfl)) ?_
    refine wp_load_row 84 (.tmp 7) rfl S5 rfl 84 #[.int .i64 s0, .int .i64 s1, .int .i64 s2, .int .i64 s3, .int .i64 s4, .int .i64 s5, .int .i64 s6, .int .i64 s7, .int .i64 s8, .int .i64 s9, .int .i64 s10, .int .i64 s11, .map m] (0, 0) _ H1 Tryd.underlying84 rfl info_circle (hK _ _ ?_)
    exact ⟨H1, H2, actP_1 ..⟩
  · have _t : True := trivial
    have ev1 : (actP a0 (.int .i64 ((k : Int) + 1)) a2 a3 (.int .i64 ((pq : Int) + 1)) a5 a6 (.pointer (some ⟨S5, 0, none⟩)) a8 a9 a10 a11 a12 a13 a14 a15 a16 a17 a18 a19 a20 a21 a22 a23 a24 a25 a26 a27 a28 a29 a30 a31 a32 b (.int .i64 ((pq : Int) + 1)) (.agg #[.int .i64 s0, .int .i64 s1, .int .i64 s2, .int .i64 s3, .int .i64 s4, .int .i64 s5, .int .i64 s6, .int .i64 s7, .int .i64 s8, .int .i64 s9, .int .i64 s10, .int .i64 s11, .map m]) (.int .i64 ((k : Int) + 1)) (.int .i64 f) (.agg #[.int .i64 s0, .int .i64 s1, .int .i64 s2, .int .i64 s3, .int .i64 s4, .int .i64 s5, .int .i64 s6, .int .i64 s7, .int .i64 s8, .int .i64 s9, .int .i64 s10, .int .i64 s11, .map m]) (.int .i64 ((pq : Int) + 1)) (.int .i64 g) (.int .i64 c)).tmps[1]?.getD undef = (.int .i64 ((k : Int) + 1)) := rfl
    refine wpOp_step (o := { dst := some 27, op := Op.move (Operand.tmp 1), type := 3, pos := "verdict.go:23", after := #[], guard := none }) rfl (fun K hK => ?_)
    refine Eq.mpr (if_pos (by rfl)) ?_
    generalize hact : actP a0 (.int .i64 ((k : Int) + 1)) a2 a3 (.int .i64 ((pq : Int) + 1)) a5 a6 (.pointer (some ⟨S5, 0, none⟩)) a8 a9 a10 a11 a12 a13 a14 a15 a16 a17 a18 a19 a20 a21 a22 a23 a24 a25 a26 a27 a28 a29 a30 a31 a32 b (.int .i64 ((pq : Int) + 1)) (.agg #[.int .i64 s0, .int .i64 s1, .int .i64 s2, .int .i64 s3, .int .i64 s4, .int .i64 s5, .int .i64 s6, .int .i64 s7, .int .i64 s8, .int .i64 s9, .int .i64 s10, .int .i64 s11, .map m]) (.int .i64 ((k : Int) + 1)) (.int .i64 f) (.agg #[.int .i64 s0, .int .i64 s1, .int .i64 s2, .int .i64 s3, .int .i64 s4, .int .i64 s5, .int .i64 s6, .int .i64 s7, .int .i64 s8, .int .i64 s9, .int .i64 s10, .int .i64 s11, .map m]) (.int .i64 ((pq : Int) + 1)) (.int .i64 g) (.int .i64 c) = act at ev1 ⊢
    go_simp
    refine hK _ _ ?_
    rw [← hact]
    exact ⟨H1, H2, actP_2 ..⟩
  · have _t : True := trivial
    have ev26 : (actP a0 (.int .i64 ((k : Int) + 1)) a2 a3 (.int .i64 ((pq : Int) + 1)) a5 a6 (.pointer (some ⟨S5, 0, none⟩)) a8 a9 a10 a11 a12 a13 a14 a15 a16 a17 a18 a19 a20 a21 a22 a23 a24 a25 a26 a27 a28 a29 a30 a31 a32 b (.int .i64 ((pq : Int) + 1)) (.agg #[.int .i64 s0, .int .i64 s1, .int .i64 s2, .int .i64 s3, .int .i64 s4, .int .i64 s5, .int .i64 s6, .int .i64 s7, .int .i64 s8, .int .i64 s9, .int .i64 s10, .int .i64 s11, .map m]) (.int .i64 ((k : Int) + 1)) (.int .i64 f) (.agg #[.int .i64 s0, .int .i64 s1, .int .i64 s2, .int .i64 s3, .int .i64 s4, .int .i64 s5, .int .i64 s6, .int .i64 s7, .int .i64 s8, .int .i64 s9, .int .i64 s10, .int .i64 s11, .map m]) (.int .i64 ((pq : Int) + 1)) (.int .i64 g) (.int .i64 c)).tmps[26]?.getD undef = (.agg #[.int .i64 s0, .int .i64 s1, .int .i64 s2, .int .i64 s3, .int .i64 s4, .int .i64 s5, .int .i64 s6, .int .i64 s7, .int .i64 s8, .int .i64 s9, .int .i64 s10, .int .i64 s11, .map m]) := by
      show (if b.testBit 1 = true then _ else _) = _
      rw [if_pos (hd 1 (by simp [depsP]))]
    have ev27 : (actP a0 (.int .i64 ((k : Int) + 1)) a2 a3 (.int .i64 ((pq : Int) + 1)) a5 a6 (.pointer (some ⟨S5, 0, none⟩)) a8 a9 a10 a11 a12 a13 a14 a15 a16 a17 a18 a19 a20 a21 a22 a23 a24 a25 a26 a27 a28 a29 a30 a31 a32 b (.int .i64 ((pq : Int) + 1)) (.agg #[.int .i64 s0, .int .i64 s1, .int .i64 s2, .int .i64 s3, .int .i64 s4, .int .i64 s5, .int .i64 s6, .int .i64 s7, .int .i64 s8, .int .i64 s9, .int .i64 s10, .int .i64 s11, .map m]) (.int .i64 ((k : Int) + 1)) (.int .i64 f) (.agg #[.int .i64 s0, .int .i64 s1, .int .i64 s2, .int .i64 s3, .int .i64 s4, .int .i64 s5, .int .i64 s6, .int .i64 s7, .int .i64 s8, .int .i64 s9, .int .i64 s10, .int .i64 s11, .map m]) (.int .i64 ((pq : Int) + 1)) (.int .i64 g) (.int .i64 c)).tmps[27]?.getD undef = (.int .i64 ((k : Int) + 1)) := by
      show (if b.testBit 2 = true then _ else _) = _
      rw [if_pos (hd 2 (by simp [depsP]))]
    refine wpOp_step (o := { dst := some 28, op := Op.call { callee := Callee.value (Operand.func 34), args := #[Operand.tmp 26, Operand.tmp 27], argTypes := #[84, 3] }, type := 22, pos := "verdict.go:23", after := #[{ on := 1, ground := Ground.data }, { on := 2, ground := Ground.data }], guard := none }) rfl (fun K hK => ?_)
    refine Eq.mpr (if_pos (by rfl)) ?_
    generalize hact : actP a0 (.int .i64 ((k : Int) + 1)) a2 a3 (.int .i64 ((pq : Int) + 1)) a5 a6 (.pointer (some ⟨S5, 0, none⟩)) a8 a9 a10 a11 a12 a13 a14 a15 a16 a17 a18 a19 a20 a21 a22 a23 a24 a25 a26 a27 a28 a29 a30 a31 a32 b (.int .i64 ((pq : Int) + 1)) (.agg #[.int .i64 s0, .int .i64 s1, .int .i64 s2, .int .i64 s3, .int .i64 s4, .int .i64 s5, .int .i64 s6, .int .i64 s7, .int .i64 s8, .int .i64 s9, .int .i64 s10, .int .i64 s11, .map m]) (.int .i64 ((k : Int) + 1)) (.int .i64 f) (.agg #[.int .i64 s0, .int .i64 s1, .int .i64 s2, .int .i64 s3, .int .i64 s4, .int .i64 s5, .int .i64 s6, .int .i64 s7, .int .i64 s8, .int .i64 s9, .int .i64 s10, .int .i64 s11, .map m]) (.int .i64 ((pq : Int) + 1)) (.int .i64 g) (.int .i64 c) = act at ev26 ev27 ⊢
    go_simp
    go_wp2_with fail
    refine (figure_any s0 s1 s2 s3 s4 s5 s6 s7 s8 s9 s10 s11 m k hk _).mono ?_
    rintro e V2 ⟨rfl, hb2⟩
    rw [hef]
    refine hK _ _ ?_
    rw [← hact]
    exact ⟨H1.below hb2 H1.lt, tr H2 hb2, actP_3 ..⟩
  · have _t : True := trivial
    refine wpOp_step (o := { dst := some 29, op := Op.load 84 (Operand.tmp 7), type := 84, pos := "verdict.go:23", after := #[], guard := none }) rfl (fun K hK => ?_)
    refine Eq.mpr (if_pos (by rfl)) ?_
    refine wp_load_row 84 (.tmp 7) rfl S5 rfl 84 #[.int .i64 s0, .int .i64 s1, .int .i64 s2, .int .i64 s3, .int .i64 s4, .int .i64 s5, .int .i64 s6, .int .i64 s7, .int .i64 s8, .int .i64 s9, .int .i64 s10, .int .i64 s11, .map m] (0, 0) _ H1 Tryd.underlying84 rfl info_circle (hK _ _ ?_)
    exact ⟨H1, H2, actP_4 ..⟩
  · have _t : True := trivial
    have ev4 : (actP a0 (.int .i64 ((k : Int) + 1)) a2 a3 (.int .i64 ((pq : Int) + 1)) a5 a6 (.pointer (some ⟨S5, 0, none⟩)) a8 a9 a10 a11 a12 a13 a14 a15 a16 a17 a18 a19 a20 a21 a22 a23 a24 a25 a26 a27 a28 a29 a30 a31 a32 b (.int .i64 ((pq : Int) + 1)) (.agg #[.int .i64 s0, .int .i64 s1, .int .i64 s2, .int .i64 s3, .int .i64 s4, .int .i64 s5, .int .i64 s6, .int .i64 s7, .int .i64 s8, .int .i64 s9, .int .i64 s10, .int .i64 s11, .map m]) (.int .i64 ((k : Int) + 1)) (.int .i64 f) (.agg #[.int .i64 s0, .int .i64 s1, .int .i64 s2, .int .i64 s3, .int .i64 s4, .int .i64 s5, .int .i64 s6, .int .i64 s7, .int .i64 s8, .int .i64 s9, .int .i64 s10, .int .i64 s11, .map m]) (.int .i64 ((pq : Int) + 1)) (.int .i64 g) (.int .i64 c)).tmps[4]?.getD undef = (.int .i64 ((pq : Int) + 1)) := by
      show (if b.testBit 8 = true then _ else _) = _
      split <;> rfl
    refine wpOp_step (o := { dst := some 30, op := Op.move (Operand.tmp 4), type := 3, pos := "verdict.go:23", after := #[], guard := none }) rfl (fun K hK => ?_)
    refine Eq.mpr (if_pos (by rfl)) ?_
    generalize hact : actP a0 (.int .i64 ((k : Int) + 1)) a2 a3 (.int .i64 ((pq : Int) + 1)) a5 a6 (.pointer (some ⟨S5, 0, none⟩)) a8 a9 a10 a11 a12 a13 a14 a15 a16 a17 a18 a19 a20 a21 a22 a23 a24 a25 a26 a27 a28 a29 a30 a31 a32 b (.int .i64 ((pq : Int) + 1)) (.agg #[.int .i64 s0, .int .i64 s1, .int .i64 s2, .int .i64 s3, .int .i64 s4, .int .i64 s5, .int .i64 s6, .int .i64 s7, .int .i64 s8, .int .i64 s9, .int .i64 s10, .int .i64 s11, .map m]) (.int .i64 ((k : Int) + 1)) (.int .i64 f) (.agg #[.int .i64 s0, .int .i64 s1, .int .i64 s2, .int .i64 s3, .int .i64 s4, .int .i64 s5, .int .i64 s6, .int .i64 s7, .int .i64 s8, .int .i64 s9, .int .i64 s10, .int .i64 s11, .map m]) (.int .i64 ((pq : Int) + 1)) (.int .i64 g) (.int .i64 c) = act at ev4 ⊢
    go_simp
    refine hK _ _ ?_
    rw [← hact]
    exact ⟨H1, H2, actP_5 ..⟩
  · have _t : True := trivial
    have ev29 : (actP a0 (.int .i64 ((k : Int) + 1)) a2 a3 (.int .i64 ((pq : Int) + 1)) a5 a6 (.pointer (some ⟨S5, 0, none⟩)) a8 a9 a10 a11 a12 a13 a14 a15 a16 a17 a18 a19 a20 a21 a22 a23 a24 a25 a26 a27 a28 a29 a30 a31 a32 b (.int .i64 ((pq : Int) + 1)) (.agg #[.int .i64 s0, .int .i64 s1, .int .i64 s2, .int .i64 s3, .int .i64 s4, .int .i64 s5, .int .i64 s6, .int .i64 s7, .int .i64 s8, .int .i64 s9, .int .i64 s10, .int .i64 s11, .map m]) (.int .i64 ((k : Int) + 1)) (.int .i64 f) (.agg #[.int .i64 s0, .int .i64 s1, .int .i64 s2, .int .i64 s3, .int .i64 s4, .int .i64 s5, .int .i64 s6, .int .i64 s7, .int .i64 s8, .int .i64 s9, .int .i64 s10, .int .i64 s11, .map m]) (.int .i64 ((pq : Int) + 1)) (.int .i64 g) (.int .i64 c)).tmps[29]?.getD undef = (.agg #[.int .i64 s0, .int .i64 s1, .int .i64 s2, .int .i64 s3, .int .i64 s4, .int .i64 s5, .int .i64 s6, .int .i64 s7, .int .i64 s8, .int .i64 s9, .int .i64 s10, .int .i64 s11, .map m]) := by
      show (if b.testBit 4 = true then _ else _) = _
      rw [if_pos (hd 4 (by simp [depsP]))]
    have ev30 : (actP a0 (.int .i64 ((k : Int) + 1)) a2 a3 (.int .i64 ((pq : Int) + 1)) a5 a6 (.pointer (some ⟨S5, 0, none⟩)) a8 a9 a10 a11 a12 a13 a14 a15 a16 a17 a18 a19 a20 a21 a22 a23 a24 a25 a26 a27 a28 a29 a30 a31 a32 b (.int .i64 ((pq : Int) + 1)) (.agg #[.int .i64 s0, .int .i64 s1, .int .i64 s2, .int .i64 s3, .int .i64 s4, .int .i64 s5, .int .i64 s6, .int .i64 s7, .int .i64 s8, .int .i64 s9, .int .i64 s10, .int .i64 s11, .map m]) (.int .i64 ((k : Int) + 1)) (.int .i64 f) (.agg #[.int .i64 s0, .int .i64 s1, .int .i64 s2, .int .i64 s3, .int .i64 s4, .int .i64 s5, .int .i64 s6, .int .i64 s7, .int .i64 s8, .int .i64 s9, .int .i64 s10, .int .i64 s11, .map m]) (.int .i64 ((pq : Int) + 1)) (.int .i64 g) (.int .i64 c)).tmps[30]?.getD undef = (.int .i64 ((pq : Int) + 1)) := by
      show (if b.testBit 5 = true then _ else _) = _
      rw [if_pos (hd 5 (by simp [depsP]))]
    refine wpOp_step (o := { dst := some 31, op := Op.call { callee := Callee.value (Operand.func 34), args := #[Operand.tmp 29, Operand.tmp 30], argTypes := #[84, 3] }, type := 22, pos := "verdict.go:23", after := #[{ on := 4, ground := Ground.data }, { on := 5, ground := Ground.data }, { on := 3, ground := Ground.chain }], guard := none }) rfl (fun K hK => ?_)
    refine Eq.mpr (if_pos (by rfl)) ?_
    generalize hact : actP a0 (.int .i64 ((k : Int) + 1)) a2 a3 (.int .i64 ((pq : Int) + 1)) a5 a6 (.pointer (some ⟨S5, 0, none⟩)) a8 a9 a10 a11 a12 a13 a14 a15 a16 a17 a18 a19 a20 a21 a22 a23 a24 a25 a26 a27 a28 a29 a30 a31 a32 b (.int .i64 ((pq : Int) + 1)) (.agg #[.int .i64 s0, .int .i64 s1, .int .i64 s2, .int .i64 s3, .int .i64 s4, .int .i64 s5, .int .i64 s6, .int .i64 s7, .int .i64 s8, .int .i64 s9, .int .i64 s10, .int .i64 s11, .map m]) (.int .i64 ((k : Int) + 1)) (.int .i64 f) (.agg #[.int .i64 s0, .int .i64 s1, .int .i64 s2, .int .i64 s3, .int .i64 s4, .int .i64 s5, .int .i64 s6, .int .i64 s7, .int .i64 s8, .int .i64 s9, .int .i64 s10, .int .i64 s11, .map m]) (.int .i64 ((pq : Int) + 1)) (.int .i64 g) (.int .i64 c) = act at ev29 ev30 ⊢
    go_simp
    go_wp2_with fail
    refine (figure_any s0 s1 s2 s3 s4 s5 s6 s7 s8 s9 s10 s11 m pq hpq _).mono ?_
    rintro e V2 ⟨rfl, hb2⟩
    rw [heg]
    refine hK _ _ ?_
    rw [← hact]
    exact ⟨H1.below hb2 H1.lt, tr H2 hb2, actP_6 ..⟩
  · have _t : True := trivial
    have ev28 : (actP a0 (.int .i64 ((k : Int) + 1)) a2 a3 (.int .i64 ((pq : Int) + 1)) a5 a6 (.pointer (some ⟨S5, 0, none⟩)) a8 a9 a10 a11 a12 a13 a14 a15 a16 a17 a18 a19 a20 a21 a22 a23 a24 a25 a26 a27 a28 a29 a30 a31 a32 b (.int .i64 ((pq : Int) + 1)) (.agg #[.int .i64 s0, .int .i64 s1, .int .i64 s2, .int .i64 s3, .int .i64 s4, .int .i64 s5, .int .i64 s6, .int .i64 s7, .int .i64 s8, .int .i64 s9, .int .i64 s10, .int .i64 s11, .map m]) (.int .i64 ((k : Int) + 1)) (.int .i64 f) (.agg #[.int .i64 s0, .int .i64 s1, .int .i64 s2, .int .i64 s3, .int .i64 s4, .int .i64 s5, .int .i64 s6, .int .i64 s7, .int .i64 s8, .int .i64 s9, .int .i64 s10, .int .i64 s11, .map m]) (.int .i64 ((pq : Int) + 1)) (.int .i64 g) (.int .i64 c)).tmps[28]?.getD undef = (.int .i64 f) := by
      show (if b.testBit 3 = true then _ else _) = _
      rw [if_pos (hd 3 (by simp [depsP]))]
    have ev31 : (actP a0 (.int .i64 ((k : Int) + 1)) a2 a3 (.int .i64 ((pq : Int) + 1)) a5 a6 (.pointer (some ⟨S5, 0, none⟩)) a8 a9 a10 a11 a12 a13 a14 a15 a16 a17 a18 a19 a20 a21 a22 a23 a24 a25 a26 a27 a28 a29 a30 a31 a32 b (.int .i64 ((pq : Int) + 1)) (.agg #[.int .i64 s0, .int .i64 s1, .int .i64 s2, .int .i64 s3, .int .i64 s4, .int .i64 s5, .int .i64 s6, .int .i64 s7, .int .i64 s8, .int .i64 s9, .int .i64 s10, .int .i64 s11, .map m]) (.int .i64 ((k : Int) + 1)) (.int .i64 f) (.agg #[.int .i64 s0, .int .i64 s1, .int .i64 s2, .int .i64 s3, .int .i64 s4, .int .i64 s5, .int .i64 s6, .int .i64 s7, .int .i64 s8, .int .i64 s9, .int .i64 s10, .int .i64 s11, .map m]) (.int .i64 ((pq : Int) + 1)) (.int .i64 g) (.int .i64 c)).tmps[31]?.getD undef = (.int .i64 g) := by
      show (if b.testBit 6 = true then _ else _) = _
      rw [if_pos (hd 6 (by simp [depsP]))]
    refine wpOp_step (o := { dst := some 32, op := Op.call { callee := Callee.value (Operand.func 35), args := #[Operand.tmp 28, Operand.tmp 31], argTypes := #[22, 22] }, type := 29, pos := "verdict.go:23", after := #[{ on := 3, ground := Ground.data }, { on := 6, ground := Ground.data }, { on := 6, ground := Ground.chain }], guard := none }) rfl (fun K hK => ?_)
    refine Eq.mpr (if_pos (by rfl)) ?_
    generalize hact : actP a0 (.int .i64 ((k : Int) + 1)) a2 a3 (.int .i64 ((pq : Int) + 1)) a5 a6 (.pointer (some ⟨S5, 0, none⟩)) a8 a9 a10 a11 a12 a13 a14 a15 a16 a17 a18 a19 a20 a21 a22 a23 a24 a25 a26 a27 a28 a29 a30 a31 a32 b (.int .i64 ((pq : Int) + 1)) (.agg #[.int .i64 s0, .int .i64 s1, .int .i64 s2, .int .i64 s3, .int .i64 s4, .int .i64 s5, .int .i64 s6, .int .i64 s7, .int .i64 s8, .int .i64 s9, .int .i64 s10, .int .i64 s11, .map m]) (.int .i64 ((k : Int) + 1)) (.int .i64 f) (.agg #[.int .i64 s0, .int .i64 s1, .int .i64 s2, .int .i64 s3, .int .i64 s4, .int .i64 s5, .int .i64 s6, .int .i64 s7, .int .i64 s8, .int .i64 s9, .int .i64 s10, .int .i64 s11, .map m]) (.int .i64 ((pq : Int) + 1)) (.int .i64 g) (.int .i64 c) = act at ev28 ev31 ⊢
    go_simp
    go_wp2_with fail
    refine (company_any f g hf hg _ (Nat.le_trans h7 H2.size) (hr.below H2 (Nat.le_refl _))).mono ?_
    rintro e V2 ⟨rfl, hb2⟩
    rw [hec]
    refine hK _ _ ?_
    rw [← hact]
    exact ⟨H1.below hb2 H1.lt, tr H2 hb2, actP_7 ..⟩
  · have _t : True := trivial
    have ev25 : (actP a0 (.int .i64 ((k : Int) + 1)) a2 a3 (.int .i64 ((pq : Int) + 1)) a5 a6 (.pointer (some ⟨S5, 0, none⟩)) a8 a9 a10 a11 a12 a13 a14 a15 a16 a17 a18 a19 a20 a21 a22 a23 a24 a25 a26 a27 a28 a29 a30 a31 a32 b (.int .i64 ((pq : Int) + 1)) (.agg #[.int .i64 s0, .int .i64 s1, .int .i64 s2, .int .i64 s3, .int .i64 s4, .int .i64 s5, .int .i64 s6, .int .i64 s7, .int .i64 s8, .int .i64 s9, .int .i64 s10, .int .i64 s11, .map m]) (.int .i64 ((k : Int) + 1)) (.int .i64 f) (.agg #[.int .i64 s0, .int .i64 s1, .int .i64 s2, .int .i64 s3, .int .i64 s4, .int .i64 s5, .int .i64 s6, .int .i64 s7, .int .i64 s8, .int .i64 s9, .int .i64 s10, .int .i64 s11, .map m]) (.int .i64 ((pq : Int) + 1)) (.int .i64 g) (.int .i64 c)).tmps[25]?.getD undef = (.int .i64 ((pq : Int) + 1)) := by
      show (if b.testBit 0 = true then _ else _) = _
      rw [if_pos (hd 0 (by simp [depsP]))]
    refine wpOp_step (o := { dst := some 4, op := Op.assign (Operand.tmp 25), type := 3, pos := "verdict.go:23", after := #[{ on := 0, ground := Ground.data }, { on := 7, ground := Ground.chain }, { on := 0, ground := Ground.phase }, { on := 1, ground := Ground.textOnly Departure.lateStores }, { on := 2, ground := Ground.textOnly Departure.lateStores }, { on := 3, ground := Ground.textOnly Departure.lateStoresUnsure }, { on := 4, ground := Ground.textOnly Departure.lateStores }, { on := 5, ground := Ground.phase }, { on := 6, ground := Ground.textOnly Departure.lateStoresUnsure }, { on := 7, ground := Ground.textOnly Departure.lateStoresUnsure }], guard := none }) rfl (fun K hK => ?_)
    refine Eq.mpr (if_pos (by rfl)) ?_
    generalize hact : actP a0 (.int .i64 ((k : Int) + 1)) a2 a3 (.int .i64 ((pq : Int) + 1)) a5 a6 (.pointer (some ⟨S5, 0, none⟩)) a8 a9 a10 a11 a12 a13 a14 a15 a16 a17 a18 a19 a20 a21 a22 a23 a24 a25 a26 a27 a28 a29 a30 a31 a32 b (.int .i64 ((pq : Int) + 1)) (.agg #[.int .i64 s0, .int .i64 s1, .int .i64 s2, .int .i64 s3, .int .i64 s4, .int .i64 s5, .int .i64 s6, .int .i64 s7, .int .i64 s8, .int .i64 s9, .int .i64 s10, .int .i64 s11, .map m]) (.int .i64 ((k : Int) + 1)) (.int .i64 f) (.agg #[.int .i64 s0, .int .i64 s1, .int .i64 s2, .int .i64 s3, .int .i64 s4, .int .i64 s5, .int .i64 s6, .int .i64 s7, .int .i64 s8, .int .i64 s9, .int .i64 s10, .int .i64 s11, .map m]) (.int .i64 ((pq : Int) + 1)) (.int .i64 g) (.int .i64 c) = act at ev25 ⊢
    go_simp
    refine hK _ _ ?_
    rw [← hact]
    exact ⟨H1, H2, actP_8 ..⟩
  · have _t : True := trivial
    have ev32 : (actP a0 (.int .i64 ((k : Int) + 1)) a2 a3 (.int .i64 ((pq : Int) + 1)) a5 a6 (.pointer (some ⟨S5, 0, none⟩)) a8 a9 a10 a11 a12 a13 a14 a15 a16 a17 a18 a19 a20 a21 a22 a23 a24 a25 a26 a27 a28 a29 a30 a31 a32 b (.int .i64 ((pq : Int) + 1)) (.agg #[.int .i64 s0, .int .i64 s1, .int .i64 s2, .int .i64 s3, .int .i64 s4, .int .i64 s5, .int .i64 s6, .int .i64 s7, .int .i64 s8, .int .i64 s9, .int .i64 s10, .int .i64 s11, .map m]) (.int .i64 ((k : Int) + 1)) (.int .i64 f) (.agg #[.int .i64 s0, .int .i64 s1, .int .i64 s2, .int .i64 s3, .int .i64 s4, .int .i64 s5, .int .i64 s6, .int .i64 s7, .int .i64 s8, .int .i64 s9, .int .i64 s10, .int .i64 s11, .map m]) (.int .i64 ((pq : Int) + 1)) (.int .i64 g) (.int .i64 c)).tmps[32]?.getD undef = (.int .i64 c) := by
      show (if b.testBit 7 = true then _ else _) = _
      rw [if_pos (hd 7 (by simp [depsP]))]
    refine wpOp_step (o := { dst := some 5, op := Op.assign (Operand.tmp 32), type := 29, pos := "verdict.go:23", after := #[{ on := 7, ground := Ground.data }, { on := 8, ground := Ground.chain }, { on := 0, ground := Ground.phase }, { on := 1, ground := Ground.phase }, { on := 2, ground := Ground.phase }, { on := 3, ground := Ground.phase }, { on := 4, ground := Ground.phase }, { on := 5, ground := Ground.phase }, { on := 6, ground := Ground.phase }, { on := 7, ground := Ground.phase }, { on := 8, ground := Ground.phase }], guard := none }) rfl (fun K hK => ?_)
    refine Eq.mpr (if_pos (by rfl)) ?_
    generalize hact : actP a0 (.int .i64 ((k : Int) + 1)) a2 a3 (.int .i64 ((pq : Int) + 1)) a5 a6 (.pointer (some ⟨S5, 0, none⟩)) a8 a9 a10 a11 a12 a13 a14 a15 a16 a17 a18 a19 a20 a21 a22 a23 a24 a25 a26 a27 a28 a29 a30 a31 a32 b (.int .i64 ((pq : Int) + 1)) (.agg #[.int .i64 s0, .int .i64 s1, .int .i64 s2, .int .i64 s3, .int .i64 s4, .int .i64 s5, .int .i64 s6, .int .i64 s7, .int .i64 s8, .int .i64 s9, .int .i64 s10, .int .i64 s11, .map m]) (.int .i64 ((k : Int) + 1)) (.int .i64 f) (.agg #[.int .i64 s0, .int .i64 s1, .int .i64 s2, .int .i64 s3, .int .i64 s4, .int .i64 s5, .int .i64 s6, .int .i64 s7, .int .i64 s8, .int .i64 s9, .int .i64 s10, .int .i64 s11, .map m]) (.int .i64 ((pq : Int) + 1)) (.int .i64 g) (.int .i64 c) = act at ev32 ⊢
    go_simp
    refine hK _ _ ?_
    rw [← hact]
    exact ⟨H1, H2, actP_9 ..⟩
  · have _t : True := trivial
    refine wpOp_step (o := { dst := some 6, op := Op.assign (Operand.const (Value.int IntKind.i64 0)), type := 26, pos := "verdict.go:23", after := #[{ on := 9, ground := Ground.chain }, { on := 0, ground := Ground.phase }, { on := 1, ground := Ground.phase }, { on := 2, ground := Ground.phase }, { on := 3, ground := Ground.phase }, { on := 4, ground := Ground.phase }, { on := 5, ground := Ground.phase }, { on := 6, ground := Ground.phase }, { on := 7, ground := Ground.phase }, { on := 8, ground := Ground.phase }, { on := 9, ground := Ground.phase }], guard := none }) rfl (fun K hK => ?_)
    refine Eq.mpr (if_pos (by rfl)) ?_
    generalize hact : actP a0 (.int .i64 ((k : Int) + 1)) a2 a3 (.int .i64 ((pq : Int) + 1)) a5 a6 (.pointer (some ⟨S5, 0, none⟩)) a8 a9 a10 a11 a12 a13 a14 a15 a16 a17 a18 a19 a20 a21 a22 a23 a24 a25 a26 a27 a28 a29 a30 a31 a32 b (.int .i64 ((pq : Int) + 1)) (.agg #[.int .i64 s0, .int .i64 s1, .int .i64 s2, .int .i64 s3, .int .i64 s4, .int .i64 s5, .int .i64 s6, .int .i64 s7, .int .i64 s8, .int .i64 s9, .int .i64 s10, .int .i64 s11, .map m]) (.int .i64 ((k : Int) + 1)) (.int .i64 f) (.agg #[.int .i64 s0, .int .i64 s1, .int .i64 s2, .int .i64 s3, .int .i64 s4, .int .i64 s5, .int .i64 s6, .int .i64 s7, .int .i64 s8, .int .i64 s9, .int .i64 s10, .int .i64 s11, .map m]) (.int .i64 ((pq : Int) + 1)) (.int .i64 g) (.int .i64 c) = act
    go_simp
    refine hK _ _ ?_
    rw [← hact]
    exact ⟨H1, H2, actP_10 ..⟩
end Go.Proofs.YtdnccdobnhbpeaaDoor

