/-
  Package hexagram: the weights of pairs of hexagrams, by places.
-/
import Derived.Test.YtojlopfjhhiilaaGreatDoorHxH
namespace Go.Proofs.YtojlopfjhhiilaaGreatDoor
open Go Go.RowKit
set_option linter.unusedVariables false

/-- Weights of 6 to 9 that can be cast. -/
structure Fit (W : List Int) : Prop where
  len : 10 ≤ W.length
  lo : ∀ k, 0 ≤ nth W k
  hi : ∀ k, 6 ≤ k → k ≤ 9 → nth W k ≤ 316
/-- The weight of a pair, by its first k lines. -/
def weightTo (W : List Int) (x y : Int) : Nat → Int
  | 0 => 1
  | k + 1 => weightTo W x y k * nth W (castV x y k).toNat
def weightV (W : List Int) (x y : Int) : Int := weightTo W x y 6
theorem castV_bd (x y i : Int) : 6 ≤ castV x y i ∧ castV x y i ≤ 9 := by unfold castV; split <;> split <;> omega
def powS : Nat → Int
  | 0 => 1
  | k + 1 => powS k * 316
theorem weightTo_bd {W : List Int} (hW : Fit W) (x y : Int) (k : Nat) : 0 ≤ weightTo W x y k ∧ weightTo W x y k ≤ powS k := by
  induction k with
  | zero => exact ⟨show (0 : Int) ≤ 1 by omega, show (1 : Int) ≤ 1 by omega⟩
  | succ k ih =>
    obtain ⟨a, b⟩ := castV_bd x y k
    have h0 := hW.lo (castV x y k).toNat
    have h1 := hW.hi (castV x y k).toNat (by omega) (by omega)
    exact ⟨Int.mul_nonneg ih.1 h0, Int.mul_le_mul ih.2 h1 h0 (by omega)⟩
theorem powS_le {k : Nat} (h : k ≤ 6) : powS k ≤ 995686217814016 := by
  have : k = 0 ∨ k = 1 ∨ k = 2 ∨ k = 3 ∨ k = 4 ∨ k = 5 ∨ k = 6 := by omega
  rcases this with rfl | rfl | rfl | rfl | rfl | rfl | rfl <;> decide
theorem weightV_bd {W : List Int} (hW : Fit W) (x y : Int) : 0 ≤ weightV W x y ∧ weightV W x y ≤ 995686217814016 := by
  have := weightTo_bd hW x y 6
  have := powS_le (Nat.le_refl 6)
  unfold weightV
  omega

set_option maxHeartbeats 1000000 in
theorem weight_any (p : Option Addr) (W : List Int) (n c : Nat) (x y : Int) (hx : Hex x) (hy : Hex y) (w : World) (hn : Hid (W.length = n)) (hl : n ≤ 1000000) (hW : Fit W) (hR : Reads w p W) :
    Calls Tryz.prog 72 #[.slice p n c, .int .i64 x, .int .i64 y] w fun e w' => e = .returned (.int .i64 (weightV W x y)) ∧ w = w' := by
  obtain ⟨x0, x1⟩ := hx
  obtain ⟨y0, y1⟩ := hy
  have h10 : 10 ≤ n := by have := hW.len; have := hn.out; omega
  have HW := Lib.hid hW
  clear hW
  go_enter Tryz.func72, Tryz.ntmps72
  go_wp2
  go_loop [7, 9] (fun v i => ∃ k : Nat, k ≤ 6 ∧ i = .int .i64 k ∧ v = .int .i64 (weightTo W x y k)) (fun _ i => 6 - (intOf i).toNat)
  case atStart => exact ⟨0, by omega, rfl, rfl⟩
  case round =>
    obtain ⟨k, hk, rfl, rfl⟩ := hrel
    by_cases hlt : k < 6
    · obtain ⟨c0, c1⟩ := castV_bd x y k
      obtain ⟨j, hj⟩ := Int.eq_ofNat_of_zero_le (show 0 ≤ castV x y k by omega)
      rw [hj] at c0 c1
      obtain ⟨q, o, rfl, hcell⟩ := hR j (by have := hn.out; omega)
      obtain ⟨m0, m1⟩ := weightTo_bd HW.out x y (k + 1)
      have m2 := powS_le (show k + 1 ≤ 6 by omega)
      have e : weightTo W x y (k + 1) = weightTo W x y k * nth W j := by rw [weightTo, hj]; rfl
      rw [e] at m0 m1
      have hw : wrap64 (weightTo W x y k * nth W j) = weightTo W x y k * nth W j := IntWalk.wrap64_in _ (by omega)
      have hw2 : IntKind.i64.wrap (weightTo W x y k * nth W j) = weightTo W x y k * nth W j := IntWalk.i64_in _ (by omega)
      have E := Lib.hid e
      have HJ := Lib.hid hj
      clear e hj m0 m1 m2
      go_wp2_with fail
      refine (cast_any x y k x0 x1 y0 y1 (by omega) (by omega) _).mono ?_
      rintro e w' ⟨rfl, rfl⟩
      rw [HJ.out]
      go_wp2
      go_round
      case rel => exact ⟨k + 1, by omega, by go_num, by rw [E.out]⟩
      case measure => simp [intOf]; omega
    · obtain rfl : k = 6 := by omega
      go_wp2
      go_ret
      exact ⟨rfl, rfl⟩

/-- The weights of n places, by the first m pairs. -/
def weighTo (W : List Int) (place : Int → Int → Int) (n : Nat) : Nat → List Int
  | 0 => List.replicate n 0
  | m + 1 => (weighTo W place n m).set (place (m / 64 : Nat) (m % 64 : Nat)).toNat (nth (weighTo W place n m) (place (m / 64 : Nat) (m % 64 : Nat)).toNat + weightV W (m / 64 : Nat) (m % 64 : Nat))
theorem weighTo_length (W : List Int) (place : Int → Int → Int) (n m : Nat) : (weighTo W place n m).length = n := by
  induction m with
  | zero => simp [weighTo]
  | succ m ih => simp [weighTo, ih]
theorem weighTo_bd {W : List Int} (hW : Fit W) (place : Int → Int → Int) (n m : Nat) (j : Nat) : 0 ≤ nth (weighTo W place n m) j ∧ nth (weighTo W place n m) j ≤ m * 995686217814016 := by
  induction m generalizing j with
  | zero => simp only [weighTo, nth_replicate]; split <;> omega
  | succ m ih =>
    rw [weighTo]
    have h1 := ih j
    have h2 := weightV_bd hW (m / 64 : Nat) (m % 64 : Nat)
    by_cases hk : (place (m / 64 : Nat) (m % 64 : Nat)).toNat < (weighTo W place n m).length
    · rw [nth_set hk]
      split
      · have h3 := ih (place (m / 64 : Nat) (m % 64 : Nat)).toNat
        omega
      · omega
    · rw [List.set_eq_of_length_le (by omega)]
      omega
/-- The places, by the program's functions. -/
def figuresP (x y : Int) : Int := x
def changesP (x y : Int) : Int := 64 * x + y
def movingP (x y : Int) : Int := onesH (bits BinOp.xor IntKind.i64 x y)
theorem figuresP_bd {x y : Int} (hx : Hex x) (hy : Hex y) : 0 ≤ figuresP x y ∧ figuresP x y < 64 := by obtain ⟨a, b⟩ := hx; unfold figuresP; omega
theorem changesP_bd {x y : Int} (hx : Hex x) (hy : Hex y) : 0 ≤ changesP x y ∧ changesP x y < 4096 := by obtain ⟨a, b⟩ := hx; obtain ⟨c, d⟩ := hy; unfold changesP; omega
theorem onesH_bd (x : Int) : 0 ≤ onesH x ∧ onesH x < 7 := by unfold onesH; repeat' (first | split | omega)
theorem movingP_bd {x y : Int} (hx : Hex x) (hy : Hex y) : 0 ≤ movingP x y ∧ movingP x y < 7 := onesH_bd _
theorem hex2 {P : Int → Int → Prop} (h : ∀ i j : Fin 64, P (i.val : Int) (j.val : Int)) {x y : Int} (hx : Hex x) (hy : Hex y) : P x y := by
  obtain ⟨a, b⟩ := hx
  obtain ⟨c, d⟩ := hy
  obtain ⟨n, rfl⟩ := Int.eq_ofNat_of_zero_le a
  obtain ⟨m, rfl⟩ := Int.eq_ofNat_of_zero_le c
  exact h ⟨n, by omega⟩ ⟨m, by omega⟩
theorem xor_hex {x y : Int} (hx : Hex x) (hy : Hex y) : Hex (bits BinOp.xor IntKind.i64 x y) :=
  hex2 (P := fun x y => 0 ≤ bits BinOp.xor IntKind.i64 x y ∧ bits BinOp.xor IntKind.i64 x y ≤ 63) (by decide +kernel) hx hy
theorem shl_or {x y : Int} (hx : Hex x) (hy : Hex y) : bits BinOp.or IntKind.i64 ((x * 64)) y = changesP x y :=
  hex2 (P := fun x y => bits BinOp.or IntKind.i64 ((x * 64)) y = changesP x y) (by decide +kernel) hx hy
theorem wrap_u64 {z : Int} (hz : Hex z) : IntKind.u64.wrap z = z := hex_all (P := fun z => IntKind.u64.wrap z = z) (by decide +kernel) hz
set_option maxHeartbeats 400000 in
theorem moving_any (x y : Int) (hx : Hex x) (hy : Hex y) (w : World) :
    Calls Tryz.prog 44 #[.int .i64 x, .int .i64 y] w fun e w' => e = .returned (.int .i64 (movingP x y)) ∧ w' = w := by
  have hz := xor_hex hx hy
  obtain ⟨x0, x1⟩ := hx
  obtain ⟨y0, y1⟩ := hy
  unfold movingP
  generalize hq : bits BinOp.xor IntKind.i64 x y = z at hz
  have HQ := Lib.hid hq
  clear hq
  have hz2 := hz
  obtain ⟨z0, z1⟩ := hz2
  go_enter Tryz.func44, Tryz.ntmps44
  go_wp2_with fail
  rw [HQ.out]
  rw [wrap_u64 hz]
  refine (ones_any z hz _).mono ?_
  rintro e w' ⟨rfl, rfl⟩
  go_wp2
  go_ret
  exact ⟨rfl, rfl⟩

theorem fit_of {W : List Int} (h : linesE W = 0) : Fit W := by
  unfold linesE at h
  split at h
  · simp at h
  · rename_i h1
    split at h
    · simp at h
    · rename_i h2
      split at h
      · simp at h
      · split at h
        · simp at h
        · rename_i h3 h4
          have hl : 10 ≤ W.length := by
            have : outB 10 20 (W.length : Int) = false := by simpa using h1
            simp [outB] at this
            omega
          have h0 : ∀ k, 0 ≤ nth W k := negB_all (by simpa using h2)
          refine ⟨hl, h0, fun k hk6 hk9 => ?_⟩
          have e : castL W = [nth W 6, nth W 7, nth W 8, nth W 9] := by
            unfold castL
            apply List.ext_getElem
            · simp; omega
            · intro i h1 h2
              simp at h1 h2
              have : i = 0 ∨ i = 1 ∨ i = 2 ∨ i = 3 := by omega
              rcases this with rfl | rfl | rfl | rfl <;> simp [nth] <;> rw [List.getElem?_eq_getElem (by omega)] <;> rfl
          rw [e] at h4
          simp [lsum] at h4
          have a := h0 6
          have b := h0 7
          have c := h0 8
          have d := h0 9
          have : k = 6 ∨ k = 7 ∨ k = 8 ∨ k = 9 := by omega
          rcases this with rfl | rfl | rfl | rfl <;> omega
theorem weighTo_mid {W : List Int} (hW : Fit W) (place : Int → Int → Int) (n m : Nat) (hm : m ≤ 4096) : Mid (weighTo W place n m) := fun k _ => by
  have := weighTo_bd hW place n m k
  constructor
  · exact this.1
  · have : (m : Int) * 995686217814016 ≤ 4096 * 995686217814016 := by omega
    omega
/-- Numbers without a common divisor. -/
def low (xs : List Int) : List Int := xs.map (· / gcdl xs)
theorem lowest_n (p : Option Addr) (xs : List Int) (n c : Nat) (w : World) (hn : Hid (xs.length = n)) (hl : n ≤ 4096) (hs : Mid xs) (hg : 1 ≤ gcdl xs) (hR : Reads w p xs) :
    Calls Tryz.prog 73 #[.slice p n c] w fun e w' => ∃ g, e = .returned (.slice (some ⟨g, 0, none⟩) n n) ∧ Row w' w.heap.size g n (low xs) ∧ Below w.heap.size w w' := by
  obtain rfl := hn.out
  exact lowest_any p xs c w hl hs hg hR
theorem row_drew {w : World} {B g n : Nat} {xs : List Int} (h : Row w B g n xs) : Row w.drew B g n xs := h
theorem row_base {w : World} {B B' g n : Nat} {xs : List Int} (h : Row w B g n xs) (hB : B' ≤ B) : Row w B' g n xs := by
  refine ⟨h.1, h.2.1, ?_⟩
  rcases h.2.2 with h | ⟨g', cap, cur, e, h1, h2⟩
  · exact .inl h
  · exact .inr ⟨g', cap, cur, e, by omega, h2⟩

end Go.Proofs.YtojlopfjhhiilaaGreatDoor
