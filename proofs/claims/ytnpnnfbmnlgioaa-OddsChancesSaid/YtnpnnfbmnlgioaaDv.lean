/-
  The arithmetic of a long division of two words by one (two digits of half a word each): plain facts on Nat.
-/
namespace Go.Proofs.Ytnpnnfbmnlgioaa.Dv

/-- One digit of a long division: y = a * B + b with a large; u < y; the digit is (u * B + d) / y. -/
structure Dig (B a b u d q r : Nat) : Prop where
  up : (u * B + d) / (a * B + b) ≤ q
  eq : q * a + r = u

section
variable {B a b u d q r : Nat}
theorem first (ha : 0 < a) (hd : d < B) : Dig B a b u d (u / a) (u % a) := by
  refine ⟨?_, by rw [Nat.mul_comm]; exact Nat.div_add_mod u a⟩
  have hB : 0 < B := by omega
  have hy : 0 < a * B + b := by have := Nat.mul_pos ha hB; omega
  rw [Nat.le_div_iff_mul_le ha]
  have h1 : (u * B + d) / (a * B + b) * (a * B + b) ≤ u * B + d := Nat.div_mul_le_self _ _
  generalize (u * B + d) / (a * B + b) = z at *
  rw [Nat.mul_add, ← Nat.mul_assoc] at h1
  have h2 : z * a * B < (u + 1) * B := by rw [Nat.add_mul]; omega
  have h3 := Nat.lt_of_mul_lt_mul_right h2
  omega
/-- The digit is below B. -/
theorem small (hu : u < a * B + b) (hd : d < B) : (u * B + d) / (a * B + b) < B := by
  rw [Nat.div_lt_iff_lt_mul (by omega)]
  have : (u + 1) * B ≤ (a * B + b) * B := Nat.mul_le_mul_right B hu
  rw [Nat.add_mul] at this
  rw [Nat.mul_comm B]
  omega
theorem down (h : Dig B a b u d q r) (hu : u < a * B + b) (hd : d < B) (hc : B ≤ q ∨ B * r + d < q * b) : 0 < q ∧ Dig B a b u d (q - 1) (r + a) := by
  have key : (u * B + d) / (a * B + b) < q := by
    rcases hc with hc | hc
    · exact Nat.lt_of_lt_of_le (small hu hd) hc
    · rw [Nat.div_lt_iff_lt_mul (by omega), ← h.eq, Nat.mul_add, Nat.add_mul, ← Nat.mul_assoc, Nat.mul_comm r B]
      omega
  have hq : 0 < q := Nat.lt_of_le_of_lt (Nat.zero_le _) key
  refine ⟨hq, Nat.le_sub_one_of_lt key, ?_⟩
  have := h.eq
  obtain ⟨p, rfl⟩ : ∃ p, q = p + 1 := ⟨q - 1, by omega⟩
  rw [Nat.add_mul] at this
  simp only [Nat.add_sub_cancel]
  omega
theorem stop (h : Dig B a b u d q r) (hu : u < a * B + b) (hc : q * b ≤ B * r + d) : q = (u * B + d) / (a * B + b) := by
  refine Nat.le_antisymm ?_ h.up
  rw [Nat.le_div_iff_mul_le (by omega), ← h.eq, Nat.mul_add, Nat.add_mul, ← Nat.mul_assoc, Nat.mul_comm r B]
  omega
/-- Where the rest has outgrown B, the digit is found. -/
theorem over (h : Dig B a b u d q r) (hu : u < a * B + b) (hb : b < B) (hq : q ≤ B) (hr : B ≤ r) : q = (u * B + d) / (a * B + b) := by
  refine stop h hu ?_
  have h1 : q * b ≤ B * b := Nat.mul_le_mul_right b hq
  have h2 : B * b ≤ B * r := Nat.mul_le_mul_left B (by omega)
  omega
/-- The first guess is not above B + 1. -/
theorem guess (hu : u < a * B + b) (hb : b < B) (ha : B ≤ 2 * a) : u / a ≤ B + 1 := by
  have ha0 : 0 < a := by omega
  rw [← Nat.lt_succ_iff, Nat.div_lt_iff_lt_mul ha0]
  show u < (B + 1 + 1) * a
  rw [Nat.add_mul, Nat.add_mul, Nat.mul_comm B a]
  omega
/-- What is left behind the digit. -/
theorem left : u * B + d = (u * B + d) / (a * B + b) * (a * B + b) + (u * B + d) % (a * B + b) := by
  have := Nat.div_add_mod (u * B + d) (a * B + b)
  rw [Nat.mul_comm (a * B + b)] at this
  exact this.symm
end

/-- Two digits one behind the other. -/
theorem two {B y u d0 d1 : Nat} (hy : 0 < y) :
    (u * (B * B) + d1 * B + d0) / y = (u * B + d1) / y * B + ((u * B + d1) % y * B + d0) / y ∧
    (u * (B * B) + d1 * B + d0) % y = ((u * B + d1) % y * B + d0) % y := by
  have e : u * (B * B) + d1 * B + d0 = y * ((u * B + d1) / y * B) + ((u * B + d1) % y * B + d0) := by
    have := Nat.div_add_mod (u * B + d1) y
    have e2 : u * (B * B) + d1 * B = (u * B + d1) * B := by rw [Nat.add_mul, Nat.mul_assoc]
    rw [e2, ← this, Nat.add_mul, this, Nat.mul_assoc]
    omega
  rw [e]
  exact ⟨by rw [Nat.mul_add_div hy], by rw [Nat.mul_add_mod]⟩
/-- The shift to a divisor with its highest bit set changes the quotient not at all, and the rest by the shift alone. -/
theorem shifted (N y k : Nat) (hk : 0 < k) : (N * k) / (y * k) = N / y ∧ (N * k) % (y * k) / k = N % y := by
  refine ⟨Nat.mul_div_mul_right N y hk, ?_⟩
  rw [Nat.mul_mod_mul_right, Nat.mul_div_cancel _ hk]
/-- The words behind the shift: the high one, below the divisor, and the low one. -/
theorem words {hi lo y s : Nat} (h : hi < y) (hl : lo < 2 ^ 64) (hs : s ≤ 64) :
    (hi * 2 ^ 64 + lo) * 2 ^ s = (hi * 2 ^ s + lo / 2 ^ (64 - s)) * 2 ^ 64 + lo * 2 ^ s % 2 ^ 64 ∧ hi * 2 ^ s + lo / 2 ^ (64 - s) < y * 2 ^ s ∧ lo / 2 ^ (64 - s) < 2 ^ s := by
  have e : (2 : Nat) ^ 64 = 2 ^ (64 - s) * 2 ^ s := by rw [← Nat.pow_add]; congr 1; omega
  have hp : 0 < (2 : Nat) ^ s := Nat.pow_pos (by omega)
  have hd : lo * 2 ^ s / 2 ^ 64 = lo / 2 ^ (64 - s) := by rw [e, Nat.mul_div_mul_right _ _ hp]
  have hlt : lo / 2 ^ (64 - s) < 2 ^ s := by
    rw [Nat.div_lt_iff_lt_mul (Nat.pow_pos (by omega)), Nat.mul_comm, ← e]
    exact hl
  refine ⟨?_, ?_, hlt⟩
  · have := Nat.div_add_mod (lo * 2 ^ s) (2 ^ 64)
    rw [hd] at this
    rw [Nat.add_mul, Nat.add_mul, Nat.mul_right_comm hi (2 ^ s) (2 ^ 64), Nat.mul_comm (lo / 2 ^ (64 - s)) (2 ^ 64)]
    omega
  · have : (hi + 1) * 2 ^ s ≤ y * 2 ^ s := Nat.mul_le_mul_right _ h
    rw [Nat.add_mul] at this
    omega
/-- The whole division: two digits of the shifted words, and the rest shifted back. -/
theorem whole {hi lo y s : Nat} (h : hi < y) (hl : lo < 2 ^ 64) (hs : s ≤ 64) {U L Y q1 r1 : Nat} (hU : U = hi * 2 ^ s + lo / 2 ^ (64 - s)) (hL : L = lo * 2 ^ s % 2 ^ 64) (hY : Y = y * 2 ^ s)
    (hq : q1 = (U * 4294967296 + L / 4294967296) / Y) (hr : r1 = (U * 4294967296 + L / 4294967296) % Y) :
    (hi * 2 ^ 64 + lo) / y = q1 * 4294967296 + (r1 * 4294967296 + L % 4294967296) / Y ∧ (hi * 2 ^ 64 + lo) % y = (r1 * 4294967296 + L % 4294967296) % Y / 2 ^ s := by
  have hp : 0 < (2 : Nat) ^ s := Nat.pow_pos (by omega)
  obtain ⟨w1, w2, w3⟩ := words (s := s) h hl hs
  rw [← hU, ← hL] at w1
  have hy : 0 < Y := by rw [hY]; exact Nat.mul_pos (by omega) hp
  have sh := shifted (hi * 2 ^ 64 + lo) y (2 ^ s) hp
  rw [w1, ← hY] at sh
  have t := two (B := 4294967296) (y := Y) (u := U) (d0 := L % 4294967296) (d1 := L / 4294967296) hy
  have e : U * (4294967296 * 4294967296) + L / 4294967296 * 4294967296 + L % 4294967296 = U * 2 ^ 64 + L := by
    have := Nat.div_add_mod L 4294967296
    have e2 : (4294967296 * 4294967296 : Nat) = 2 ^ 64 := by decide
    rw [e2]
    omega
  rw [e, ← hq, ← hr] at t
  exact ⟨by rw [← sh.1, t.1], by rw [← sh.2, t.2]⟩
/-- What wraps of a word at a digit's end: the rest, whatever was cut off before. -/
theorem wrapped {U d Z R : Int} (h : U * 4294967296 + d = Z + R) (h0 : 0 ≤ R) (h1 : R < 18446744073709551616) :
    ((U * 4294967296 % 18446744073709551616 + d) % 18446744073709551616 - Z % 18446744073709551616) % 18446744073709551616 = R := by omega
/-- A digit as the machine keeps it: words as Int. -/
structure DigI (a b u d Q R : Int) : Prop where
  q0 : 0 ≤ Q
  r0 : 0 ≤ R
  dig : Dig 4294967296 a.toNat b.toNat u.toNat d.toNat Q.toNat R.toNat
  q1 : Q ≤ 4294967297
section
variable {a b u d Q R : Int} (a0 : 2147483648 ≤ a) (a1 : a < 4294967296) (b0 : 0 ≤ b) (b1 : b < 4294967296) (d0 : 0 ≤ d) (d1 : d < 4294967296) (u0 : 0 ≤ u) (hu : u < a * 4294967296 + b)
include a0 b0 b1 d0 d1 u0 hu
theorem DigI.first : DigI a b u d (u / a) (u % a) := by
  obtain ⟨A, rfl⟩ := Int.eq_ofNat_of_zero_le (show 0 ≤ a by omega)
  obtain ⟨V, rfl⟩ := Int.eq_ofNat_of_zero_le u0
  obtain ⟨E, rfl⟩ := Int.eq_ofNat_of_zero_le b0
  obtain ⟨D, rfl⟩ := Int.eq_ofNat_of_zero_le d0
  have g := guess (B := 4294967296) (a := A) (b := E) (u := V) (by omega) (by omega) (by omega)
  have f := Dv.first (B := 4294967296) (a := A) (b := E) (u := V) (d := D) (by omega) (by omega)
  refine ⟨Int.ediv_nonneg (by omega) (by omega), Int.emod_nonneg _ (by omega), ?_, by rw [← Int.natCast_ediv]; exact Int.ofNat_le.2 g⟩
  rw [← Int.natCast_ediv, ← Int.natCast_emod]
  exact f
theorem DigI.down (h : DigI a b u d Q R) (hc : 4294967296 ≤ Q ∨ 4294967296 * R + d < Q * b) : 1 ≤ Q ∧ DigI a b u d (Q - 1) (R + a) := by
  obtain ⟨A, rfl⟩ := Int.eq_ofNat_of_zero_le (show 0 ≤ a by omega)
  obtain ⟨V, rfl⟩ := Int.eq_ofNat_of_zero_le u0
  obtain ⟨E, rfl⟩ := Int.eq_ofNat_of_zero_le b0
  obtain ⟨D, rfl⟩ := Int.eq_ofNat_of_zero_le d0
  obtain ⟨q, rfl⟩ := Int.eq_ofNat_of_zero_le h.q0
  obtain ⟨r, rfl⟩ := Int.eq_ofNat_of_zero_le h.r0
  have f := Dv.down (B := 4294967296) (a := A) (b := E) (u := V) (d := D) (q := q) (r := r) h.dig (by omega) (by omega) (by
    rcases hc with hc | hc
    · exact .inl (by omega)
    · right
      have : ((4294967296 * r + D : Nat) : Int) < ((q * E : Nat) : Int) := by rw [Int.natCast_mul]; omega
      omega)
  have := h.q1
  refine ⟨by omega, by omega, by omega, ?_, by omega⟩
  have e1 : ((q : Int) - 1).toNat = q - 1 := by omega
  have e2 : ((r : Int) + (A : Int)).toNat = r + A := by omega
  rw [e1, e2]
  exact f.2
theorem DigI.stop (h : DigI a b u d Q R) (hc : Q * b ≤ 4294967296 * R + d) : Q = (u * 4294967296 + d) / (a * 4294967296 + b) := by
  obtain ⟨A, rfl⟩ := Int.eq_ofNat_of_zero_le (show 0 ≤ a by omega)
  obtain ⟨V, rfl⟩ := Int.eq_ofNat_of_zero_le u0
  obtain ⟨E, rfl⟩ := Int.eq_ofNat_of_zero_le b0
  obtain ⟨D, rfl⟩ := Int.eq_ofNat_of_zero_le d0
  obtain ⟨q, rfl⟩ := Int.eq_ofNat_of_zero_le h.q0
  obtain ⟨r, rfl⟩ := Int.eq_ofNat_of_zero_le h.r0
  have f := Dv.stop (B := 4294967296) (a := A) (b := E) (u := V) (d := D) (q := q) (r := r) h.dig (by omega) (by
    have : ((q * E : Nat) : Int) ≤ ((4294967296 * r + D : Nat) : Int) := by rw [Int.natCast_mul]; omega
    omega)
  rw [f, Int.natCast_ediv]
  congr 1
theorem DigI.over (h : DigI a b u d Q R) (hq : Q ≤ 4294967296) (hr : 4294967296 ≤ R) : Q = (u * 4294967296 + d) / (a * 4294967296 + b) := by
  refine DigI.stop a0 b0 b1 d0 d1 u0 hu h ?_
  have h0 := h.q0
  have h1 : Q * b ≤ 4294967296 * b := Int.mul_le_mul_of_nonneg_right hq b0
  omega
end
end Go.Proofs.Ytnpnnfbmnlgioaa.Dv
