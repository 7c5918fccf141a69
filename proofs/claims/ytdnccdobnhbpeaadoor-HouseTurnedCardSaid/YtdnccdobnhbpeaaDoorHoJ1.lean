/-
  The circle of houses: the text of the region whose order is drawn.
-/
import Derived.Test.YtdnccdobnhbpeaaDoorHoJ
namespace Go.Proofs.YtdnccdobnhbpeaaDoor
open Go
set_option linter.unusedVariables false

def opsJ : Array Oper := #[{ dst := some 14, op := Op.fieldAddr 84 (Operand.tmp 3) 1, type := 0, pos := "circle.go:35", after := #[], guard := none }, { dst := some 15, op := Op.load 82 (Operand.tmp 14), type := 82, pos := "circle.go:35", after := #[{ on := 0, ground := Ground.data }], guard := none }, { dst := some 16, op := Op.move (Operand.tmp 5), type := 22, pos := "circle.go:35", after := #[], guard := none }, { dst := some 17, op := Op.fieldAddr 84 (Operand.tmp 3) 1, type := 0, pos := "circle.go:35", after := #[], guard := none }, { dst := some 18, op := Op.load 82 (Operand.tmp 17), type := 82, pos := "circle.go:35", after := #[{ on := 3, ground := Ground.data }], guard := none }, { dst := some 19, op := Op.move (Operand.tmp 5), type := 22, pos := "circle.go:35", after := #[], guard := none }, { dst := some 20, op := Op.lookup 82 (Operand.tmp 18) (Operand.tmp 19) false, type := 25, pos := "circle.go:35", after := #[{ on := 4, ground := Ground.data }, { on := 5, ground := Ground.data }], guard := none }, { dst := some 21, op := Op.move (Operand.tmp 4), type := 3, pos := "circle.go:35", after := #[], guard := none }, { dst := some 22, op := Op.binOp BinOp.add 3 (Operand.tmp 21) (Operand.const (Value.int IntKind.i64 1)) 3, type := 3, pos := "circle.go:35", after := #[{ on := 7, ground := Ground.data }], guard := none }, { dst := some 23, op := Op.buildSlice 25 1 #[(0, Operand.tmp 22)], type := 25, pos := "circle.go:35", after := #[{ on := 8, ground := Ground.data }], guard := none }, { dst := some 24, op := Op.call { callee := Callee.builtin Builtin.append, args := #[Operand.tmp 20, Operand.tmp 23], argTypes := #[25, 25] }, type := 25, pos := "circle.go:35", after := #[{ on := 6, ground := Ground.data }, { on := 9, ground := Ground.data }], guard := none }, { dst := none, op := Op.mapUpdate 82 (Operand.tmp 15) (Operand.tmp 16) (Operand.tmp 24), type := 0, pos := "circle.go:35", after := #[{ on := 1, ground := Ground.data }, { on := 2, ground := Ground.data }, { on := 10, ground := Ground.data }, { on := 10, ground := Ground.chain }, { on := 0, ground := Ground.phase }, { on := 1, ground := Ground.phase }, { on := 2, ground := Ground.phase }, { on := 3, ground := Ground.phase }, { on := 4, ground := Ground.phase }, { on := 5, ground := Ground.phase }, { on := 6, ground := Ground.phase }, { on := 7, ground := Ground.phase }, { on := 8, ground := Ground.phase }, { on := 9, ground := Ground.phase }, { on := 10, ground := Ground.phase }], guard := none }]
def okJ (b : Nat) : Bool := (Region.ready .any opsJ (bitsA 12 b)).all (fun i => decide (i < 12) && !b.testBit i && (depsJ i).all b.testBit) && ((Region.ready .any opsJ (bitsA 12 b)).isEmpty == decide (b = 2 ^ 12 - 1))
theorem okJ_0 : ((List.range 128).all fun d => okJ (0 + d)) = true := by kernel_rfl
theorem okJ_1 : ((List.range 128).all fun d => okJ (128 + d)) = true := by kernel_rfl
theorem okJ_2 : ((List.range 128).all fun d => okJ (256 + d)) = true := by kernel_rfl
theorem okJ_3 : ((List.range 128).all fun d => okJ (384 + d)) = true := by kernel_rfl
theorem okJ_4 : ((List.range 128).all fun d => okJ (512 + d)) = true := by kernel_rfl
theorem okJ_5 : ((List.range 128).all fun d => okJ (640 + d)) = true := by kernel_rfl
theorem okJ_6 : ((List.range 128).all fun d => okJ (768 + d)) = true := by kernel_rfl
theorem okJ_7 : ((List.range 128).all fun d => okJ (896 + d)) = true := by kernel_rfl
theorem okJ_8 : ((List.range 128).all fun d => okJ (1024 + d)) = true := by kernel_rfl
theorem okJ_9 : ((List.range 128).all fun d => okJ (1152 + d)) = true := by kernel_rfl
theorem okJ_10 : ((List.range 128).all fun d => okJ (1280 + d)) = true := by kernel_rfl
theorem okJ_11 : ((List.range 128).all fun d => okJ (1408 + d)) = true := by kernel_rfl
theorem okJ_12 : ((List.range 128).all fun d => okJ (1536 + d)) = true := by kernel_rfl
theorem okJ_13 : ((List.range 128).all fun d => okJ (1664 + d)) = true := by kernel_rfl
theorem okJ_14 : ((List.range 128).all fun d => okJ (1792 + d)) = true := by kernel_rfl
theorem okJ_15 : ((List.range 128).all fun d => okJ (1920 + d)) = true := by kernel_rfl
theorem okJ_16 : ((List.range 128).all fun d => okJ (2048 + d)) = true := by kernel_rfl
theorem okJ_17 : ((List.range 128).all fun d => okJ (2176 + d)) = true := by kernel_rfl
theorem okJ_18 : ((List.range 128).all fun d => okJ (2304 + d)) = true := by kernel_rfl
theorem okJ_19 : ((List.range 128).all fun d => okJ (2432 + d)) = true := by kernel_rfl
theorem okJ_20 : ((List.range 128).all fun d => okJ (2560 + d)) = true := by kernel_rfl
theorem okJ_21 : ((List.range 128).all fun d => okJ (2688 + d)) = true := by kernel_rfl
theorem okJ_22 : ((List.range 128).all fun d => okJ (2816 + d)) = true := by kernel_rfl
theorem okJ_23 : ((List.range 128).all fun d => okJ (2944 + d)) = true := by kernel_rfl
theorem okJ_24 : ((List.range 128).all fun d => okJ (3072 + d)) = true := by kernel_rfl
theorem okJ_25 : ((List.range 128).all fun d => okJ (3200 + d)) = true := by kernel_rfl
theorem okJ_26 : ((List.range 128).all fun d => okJ (3328 + d)) = true := by kernel_rfl
theorem okJ_27 : ((List.range 128).all fun d => okJ (3456 + d)) = true := by kernel_rfl
theorem okJ_28 : ((List.range 128).all fun d => okJ (3584 + d)) = true := by kernel_rfl
theorem okJ_29 : ((List.range 128).all fun d => okJ (3712 + d)) = true := by kernel_rfl
theorem okJ_30 : ((List.range 128).all fun d => okJ (3840 + d)) = true := by kernel_rfl
theorem okJ_31 : ((List.range 128).all fun d => okJ (3968 + d)) = true := by kernel_rfl
theorem okJ_all : ∀ b, b < 4096 → okJ b = true := fun b hb => by
  have h : b / 128 = 0 ∨ b / 128 = 1 ∨ b / 128 = 2 ∨ b / 128 = 3 ∨ b / 128 = 4 ∨ b / 128 = 5 ∨ b / 128 = 6 ∨ b / 128 = 7 ∨ b / 128 = 8 ∨ b / 128 = 9 ∨ b / 128 = 10 ∨ b / 128 = 11 ∨ b / 128 = 12 ∨ b / 128 = 13 ∨ b / 128 = 14 ∨ b / 128 = 15 ∨ b / 128 = 16 ∨ b / 128 = 17 ∨ b / 128 = 18 ∨ b / 128 = 19 ∨ b / 128 = 20 ∨ b / 128 = 21 ∨ b / 128 = 22 ∨ b / 128 = 23 ∨ b / 128 = 24 ∨ b / 128 = 25 ∨ b / 128 = 26 ∨ b / 128 = 27 ∨ b / 128 = 28 ∨ b / 128 = 29 ∨ b / 128 = 30 ∨ b / 128 = 31 := by omega
  have e : b = b / 128 * 128 + b % 128 := by omega
  have hm : b % 128 ∈ List.range 128 := List.mem_range.2 (Nat.mod_lt _ (by decide))
  rcases h with h | h | h | h | h | h | h | h | h | h | h | h | h | h | h | h | h | h | h | h | h | h | h | h | h | h | h | h | h | h | h | h
  · have := List.all_eq_true.1 okJ_0 _ hm
    rwa [show 0 + b % 128 = b by omega] at this
  · have := List.all_eq_true.1 okJ_1 _ hm
    rwa [show 128 + b % 128 = b by omega] at this
  · have := List.all_eq_true.1 okJ_2 _ hm
    rwa [show 256 + b % 128 = b by omega] at this
  · have := List.all_eq_true.1 okJ_3 _ hm
    rwa [show 384 + b % 128 = b by omega] at this
  · have := List.all_eq_true.1 okJ_4 _ hm
    rwa [show 512 + b % 128 = b by omega] at this
  · have := List.all_eq_true.1 okJ_5 _ hm
    rwa [show 640 + b % 128 = b by omega] at this
  · have := List.all_eq_true.1 okJ_6 _ hm
    rwa [show 768 + b % 128 = b by omega] at this
  · have := List.all_eq_true.1 okJ_7 _ hm
    rwa [show 896 + b % 128 = b by omega] at this
  · have := List.all_eq_true.1 okJ_8 _ hm
    rwa [show 1024 + b % 128 = b by omega] at this
  · have := List.all_eq_true.1 okJ_9 _ hm
    rwa [show 1152 + b % 128 = b by omega] at this
  · have := List.all_eq_true.1 okJ_10 _ hm
    rwa [show 1280 + b % 128 = b by omega] at this
  · have := List.all_eq_true.1 okJ_11 _ hm
    rwa [show 1408 + b % 128 = b by omega] at this
  · have := List.all_eq_true.1 okJ_12 _ hm
    rwa [show 1536 + b % 128 = b by omega] at this
  · have := List.all_eq_true.1 okJ_13 _ hm
    rwa [show 1664 + b % 128 = b by omega] at this
  · have := List.all_eq_true.1 okJ_14 _ hm
    rwa [show 1792 + b % 128 = b by omega] at this
  · have := List.all_eq_true.1 okJ_15 _ hm
    rwa [show 1920 + b % 128 = b by omega] at this
  · have := List.all_eq_true.1 okJ_16 _ hm
    rwa [show 2048 + b % 128 = b by omega] at this
  · have := List.all_eq_true.1 okJ_17 _ hm
    rwa [show 2176 + b % 128 = b by omega] at this
  · have := List.all_eq_true.1 okJ_18 _ hm
    rwa [show 2304 + b % 128 = b by omega] at this
  · have := List.all_eq_true.1 okJ_19 _ hm
    rwa [show 2432 + b % 128 = b by omega] at this
  · have := List.all_eq_true.1 okJ_20 _ hm
    rwa [show 2560 + b % 128 = b by omega] at this
  · have := List.all_eq_true.1 okJ_21 _ hm
    rwa [show 2688 + b % 128 = b by omega] at this
  · have := List.all_eq_true.1 okJ_22 _ hm
    rwa [show 2816 + b % 128 = b by omega] at this
  · have := List.all_eq_true.1 okJ_23 _ hm
    rwa [show 2944 + b % 128 = b by omega] at this
  · have := List.all_eq_true.1 okJ_24 _ hm
    rwa [show 3072 + b % 128 = b by omega] at this
  · have := List.all_eq_true.1 okJ_25 _ hm
    rwa [show 3200 + b % 128 = b by omega] at this
  · have := List.all_eq_true.1 okJ_26 _ hm
    rwa [show 3328 + b % 128 = b by omega] at this
  · have := List.all_eq_true.1 okJ_27 _ hm
    rwa [show 3456 + b % 128 = b by omega] at this
  · have := List.all_eq_true.1 okJ_28 _ hm
    rwa [show 3584 + b % 128 = b by omega] at this
  · have := List.all_eq_true.1 okJ_29 _ hm
    rwa [show 3712 + b % 128 = b by omega] at this
  · have := List.all_eq_true.1 okJ_30 _ hm
    rwa [show 3840 + b % 128 = b by omega] at this
  · have := List.all_eq_true.1 okJ_31 _ hm
    rwa [show 3968 + b % 128 = b by omega] at this
theorem regionJ_ok : RegionOk .any opsJ opsJ.size depsJ := by
  have hs : opsJ.size = 12 := rfl
  rw [hs]
  refine ⟨fun b hb => ?_, fun b hb => ?_⟩
  · have := okJ_all b hb
    unfold okJ at this
    exact (Bool.and_eq_true_iff.1 this).1
  · have := (Bool.and_eq_true_iff.1 (okJ_all b hb)).2
    rw [beq_iff_eq] at this
    constructor
    · intro h
      rw [h] at this
      exact of_decide_eq_true this.symm
    · intro h
      rw [decide_eq_true h] at this
      exact List.isEmpty_iff.1 this
end Go.Proofs.YtdnccdobnhbpeaaDoor
