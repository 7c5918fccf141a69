/-
  That values made of throws occur equally often, among all lists of so many throws: plain arithmetic, no code.
-/
import Derived.Test.YtagodfaclohkmaaF
namespace Go.Proofs.Ytagodfaclohkmaa

/-- The sum of the first n values. -/
def ns (F : Nat → Nat) : Nat → Nat
  | 0 => 0
  | n + 1 => ns F n + F n
theorem ns_congr {F G : Nat → Nat} {n : Nat} (h : ∀ k, k < n → F k = G k) : ns F n = ns G n := by
  induction n with
  | zero => rfl
  | succ n ih => simp only [ns]; rw [ih fun k hk => h k (by omega), h n (by omega)]
theorem ns_add (F : Nat → Nat) (n m : Nat) : ns F (n + m) = ns F n + ns (fun k => F (n + k)) m := by
  induction m with
  | zero => simp [ns]
  | succ m ih =>
    have e : ns F (n + (m + 1)) = ns F (n + m) + F (n + m) := rfl
    rw [e, ih]
    simp only [ns]
    omega
theorem ns_plus (F G : Nat → Nat) (n : Nat) : ns (fun k => F k + G k) n = ns F n + ns G n := by
  induction n with
  | zero => rfl
  | succ n ih => simp only [ns]; rw [ih]; omega
theorem ns_const (c n : Nat) : ns (fun _ => c) n = n * c := by
  induction n with
  | zero => simp [ns]
  | succ n ih => simp only [ns]; rw [ih, Nat.add_mul]; omega
theorem ns_mul (F : Nat → Nat) (s m : Nat) : ns F (m * s) = ns (fun x => ns (fun t => F (x * s + t)) s) m := by
  induction m with
  | zero => simp [ns]
  | succ m ih => rw [Nat.add_mul, Nat.one_mul, ns_add, ih]; rfl
theorem ns_swap (F : Nat → Nat → Nat) (n m : Nat) : ns (fun x => ns (fun y => F x y) m) n = ns (fun y => ns (fun x => F x y) n) m := by
  induction n with
  | zero =>
    have : ns (fun _ : Nat => 0) m = 0 := by rw [ns_const]; omega
    exact this.symm
  | succ n ih =>
    simp only [ns]
    rw [ih, ← ns_plus]

/-- A digit, the lowest one first. -/
def dg (s x i : Nat) : Nat := x / s ^ i % s
theorem dg_zero (s x : Nat) : dg s x 0 = x % s := by simp [dg]
theorem dg_succ (s x i : Nat) : dg s x (i + 1) = dg s (x / s) i := by
  unfold dg
  rw [Nat.pow_succ, Nat.mul_comm, ← Nat.div_div_eq_div_mul]
/-- What is decided, if anything. -/
def decN (s b : Nat) : (Nat → Nat) → Nat → Nat → Nat → Option Nat
  | _, 0, size, value => if value < size - size % b then some (value % b) else none
  | d, left + 1, size, value => if value < size - size % b then some (value % b) else decN s b (fun i => d (i + 1)) left ((size % b) * s) ((value - (size - size % b)) * s + d 0)
theorem decN_yes {s b : Nat} {d : Nat → Nat} {left size value : Nat} (h : value < size - size % b) : decN s b d left size value = some (value % b) := by
  cases left <;> simp [decN, h]
theorem decN_none {s b : Nat} {d : Nat → Nat} {size value : Nat} (h : ¬ value < size - size % b) : decN s b d 0 size value = none := by simp [decN, h]
theorem decN_no {s b : Nat} {d : Nat → Nat} {left size value : Nat} (h : ¬ value < size - size % b) : decN s b d (left + 1) size value = decN s b (fun i => d (i + 1)) left ((size % b) * s) ((value - (size - size % b)) * s + d 0) := by simp [decN, h]
/-- 1 if they are the same, else 0. -/
def iv (x v : Nat) : Nat := if x = v then 1 else 0
def hit (o : Option Nat) (v : Nat) : Nat := match o with
  | some x => iv x v
  | none => 0
/-- How often v is decided: over all values below a size, and all lists of throws. -/
def tot (s b v left size : Nat) : Nat := ns (fun value => ns (fun x => hit (decN s b (dg s x) left size value) v) (s ^ left)) size

theorem ns_one {v b : Nat} (hv : v < b) : ns (fun t => iv t v) b = 1 := by
  obtain ⟨m, rfl⟩ : ∃ m, b = v + (1 + m) := ⟨b - v - 1, by omega⟩
  rw [ns_add, ns_add]
  have e1 : ns (fun t => iv t v) v = ns (fun _ => 0) v := ns_congr fun k hk => by simp only [iv]; rw [if_neg (by omega)]
  have e2 : ns (fun k => iv (v + (1 + k)) v) m = ns (fun _ => 0) m := ns_congr fun k hk => by simp only [iv]; rw [if_neg (by omega)]
  rw [e1, e2, ns_const, ns_const]
  simp [ns, iv]
/-- The values that are decided at once. -/
theorem tot_now {b v : Nat} (hv : v < b) (size c : Nat) : ns (fun value => c * iv (value % b) v) (size - size % b) = size / b * c := by
  have hq : size - size % b = size / b * b := by have := Nat.div_add_mod size b; rw [Nat.mul_comm] at this; omega
  rw [hq, ns_mul]
  have e : ∀ x, ns (fun t => c * iv ((x * b + t) % b) v) b = c := fun x => by
    have e1 : ns (fun t => c * iv ((x * b + t) % b) v) b = ns (fun t => c * iv t v) b := ns_congr fun t ht => by rw [show (x * b + t) % b = t by rw [Nat.mul_comm, Nat.mul_add_mod, Nat.mod_eq_of_lt ht]]
    have e2 : ∀ n, ns (fun t => c * iv t v) n = c * ns (fun t => iv t v) n := fun n => by
      induction n with
      | zero => rfl
      | succ n ih => simp only [ns]; rw [ih, Nat.mul_add]
    rw [e1, e2, ns_one hv, Nat.mul_one]
  rw [ns_congr fun x _ => e x, ns_const]

theorem tot_zero {s b v size : Nat} (hv : v < b) : tot s b v 0 size = size / b := by
  unfold tot
  have hle : size % b ≤ size := Nat.mod_le _ _
  obtain ⟨r, hr⟩ : ∃ r, size % b = r := ⟨_, rfl⟩
  have hsp : size = (size - size % b) + r := by omega
  have e : ∀ value, ns (fun x => hit (decN s b (dg s x) 0 size value) v) (s ^ 0) = if value < size - size % b then 1 * iv (value % b) v else 0 := fun value => by
    simp only [Nat.pow_zero, ns]
    by_cases h : value < size - size % b
    · rw [if_pos h, decN_yes h]; simp [hit]
    · rw [if_neg h, decN_none h]; simp [hit]
  rw [ns_congr fun value _ => e value]
  have hs2 : ns (fun value => if value < size - size % b then 1 * iv (value % b) v else 0) size = ns (fun value => if value < size - size % b then 1 * iv (value % b) v else 0) ((size - size % b) + r) := by rw [← hsp]
  rw [hs2, ns_add]
  have e1 : ns (fun value => if value < size - size % b then 1 * iv (value % b) v else 0) (size - size % b) = ns (fun value => 1 * iv (value % b) v) (size - size % b) := ns_congr fun k hk => by rw [if_pos hk]
  have e2 : ns (fun k => if (size - size % b) + k < size - size % b then 1 * iv (((size - size % b) + k) % b) v else 0) r = ns (fun _ => 0) r := ns_congr fun k hk => by rw [if_neg (by omega)]
  rw [e1, e2, tot_now hv, ns_const]
  omega

theorem tot_succ {s b v left size : Nat} (hs : 0 < s) (hv : v < b) : tot s b v (left + 1) size = size / b * s ^ (left + 1) + tot s b v left (size % b * s) := by
  have hle : size % b ≤ size := Nat.mod_le _ _
  obtain ⟨r, hr⟩ : ∃ r, size % b = r := ⟨_, rfl⟩
  obtain ⟨W, hW⟩ : ∃ W, size - size % b = W := ⟨_, rfl⟩
  have hsp : size = W + r := by omega
  have hnow : ∀ value, value < W → ns (fun x => hit (decN s b (dg s x) (left + 1) size value) v) (s ^ (left + 1)) = s ^ (left + 1) * iv (value % b) v := fun value h => by
    have e : ns (fun x => hit (decN s b (dg s x) (left + 1) size value) v) (s ^ (left + 1)) = ns (fun _ => iv (value % b) v) (s ^ (left + 1)) := ns_congr fun x _ => by
      rw [decN_yes (by omega)]
      rfl
    rw [e, ns_const]
  have hlater : ∀ u, u < r → ns (fun x => hit (decN s b (dg s x) (left + 1) size (W + u)) v) (s ^ (left + 1)) = ns (fun x => ns (fun t => hit (decN s b (dg s x) left (r * s) (u * s + t)) v) s) (s ^ left) := fun u hu => by
    rw [Nat.pow_succ, ns_mul]
    refine ns_congr fun x _ => ns_congr fun t ht => ?_
    rw [decN_no (by omega), hW, hr, show W + u - W = u by omega, dg_zero]
    have e1 : (x * s + t) % s = t := by rw [Nat.mul_comm, Nat.mul_add_mod, Nat.mod_eq_of_lt ht]
    have e2 : (x * s + t) / s = x := by rw [Nat.mul_comm, Nat.mul_add_div hs, Nat.div_eq_of_lt ht, Nat.add_zero]
    have e3 : (fun i => dg s (x * s + t) (i + 1)) = dg s x := funext fun i => by rw [dg_succ, e2]
    rw [e1, e3]
  have hall : tot s b v (left + 1) size = ns (fun value => ns (fun x => hit (decN s b (dg s x) (left + 1) size value) v) (s ^ (left + 1))) (W + r) := by unfold tot; rw [← hsp]
  rw [hall, ns_add, ns_congr fun value hval => hnow value hval, ns_congr fun u hu => hlater u hu]
  have h1 := tot_now hv size (s ^ (left + 1))
  rw [hW] at h1
  rw [h1, hr]
  unfold tot
  refine congrArg (size / b * s ^ (left + 1) + ·) ?_
  rw [ns_mul, ns_swap (fun u x => ns (fun t => hit (decN s b (dg s x) left (r * s) (u * s + t)) v) s) r (s ^ left)]
  rw [ns_congr (F := fun x => ns (fun t => ns (fun x_1 => hit (decN s b (dg s x_1) left (r * s) (x * s + t)) v) (s ^ left)) s)
    (G := fun x => ns (fun x_1 => ns (fun t => hit (decN s b (dg s x_1) left (r * s) (x * s + t)) v) s) (s ^ left)) fun x _ => ns_swap (fun t x_1 => hit (decN s b (dg s x_1) left (r * s) (x * s + t)) v) s (s ^ left)]
  rw [ns_swap (fun u x => ns (fun t => hit (decN s b (dg s x) left (r * s) (u * s + t)) v) s) r (s ^ left)]
theorem tot_even {s b : Nat} (hs : 0 < s) {v u : Nat} (hv : v < b) (hu : u < b) (left size : Nat) : tot s b v left size = tot s b u left size := by
  induction left generalizing size with
  | zero => rw [tot_zero hv, tot_zero hu]
  | succ left ih => rw [tot_succ hs hv, tot_succ hs hu, ih]
/-- How many of the first k lists of n throws decide v. -/
def cntE (s b n v k : Nat) : Nat := ns (fun x => hit (decN s b (dg s x) n 1 0) v) k
theorem cntE_even {s b n v u : Nat} (hs : 0 < s) (hv : v < b) (hu : u < b) : cntE s b n v (s ^ n) = cntE s b n u (s ^ n) := by
  have h := tot_even hs hv hu n 1
  have e : ∀ z, tot s b z n 1 = cntE s b n z (s ^ n) := fun z => by simp [tot, ns, cntE]
  rwa [e, e] at h

/-! ### The same in the code's numbers -/
theorem dec_N {s b : Nat} (hb : 0 < b) {ts : List Int} {d : Nat → Nat} {left used size value : Nat} (hd : ∀ i, i < left → nth ts (used + i) = (d i : Int)) :
    (decN s b d left size value = none ∧ dec s b ts left used size value = (0, 0, 7)) ∨ ∃ v u : Nat, decN s b d left size value = some v ∧ v < b ∧ used ≤ u ∧ u ≤ used + left ∧ dec s b ts left used size value = ((v : Int), (u : Int), 0) := by
  induction left generalizing d used size value with
  | zero =>
    have hle : size % b ≤ size := Nat.mod_le _ _
    have hc : ((size : Int) - (size : Int) % (b : Int)) = ((size - size % b : Nat) : Int) := by rw [Int.ofNat_sub hle]; rfl
    simp only [decN, dec]
    rw [hc]
    by_cases h : value < size - size % b
    · right
      refine ⟨value % b, used, by rw [if_pos h], Nat.mod_lt _ hb, Nat.le_refl _, by omega, ?_⟩
      rw [if_pos (by omega)]
      rfl
    · left
      exact ⟨by rw [if_neg h], by rw [if_neg (by omega)]⟩
  | succ left ih =>
    have hle : size % b ≤ size := Nat.mod_le _ _
    have hc : ((size : Int) - (size : Int) % (b : Int)) = ((size - size % b : Nat) : Int) := by rw [Int.ofNat_sub hle]; rfl
    by_cases h : value < size - size % b
    · right
      refine ⟨value % b, used, by simp only [decN]; rw [if_pos h], Nat.mod_lt _ hb, Nat.le_refl _, by omega, ?_⟩
      rw [dec_yes (by rw [hc]; omega)]
      rfl
    · have h0 := hd 0 (by omega)
      rw [Nat.add_zero] at h0
      have e1 : decN s b d (left + 1) size value = decN s b (fun i => d (i + 1)) left (size % b * s) ((value - (size - size % b)) * s + d 0) := by simp only [decN]; rw [if_neg h]
      have e2 : dec s b ts (left + 1) used size value = dec s b ts left (used + 1) ((size % b * s : Nat) : Int) (((value - (size - size % b)) * s + d 0 : Nat) : Int) := by
        rw [dec_no (by rw [hc]; omega), hc, h0]
        congr 1
        · rw [Int.natCast_mul]
          congr 1
          omega
        · rw [Int.natCast_add, Int.natCast_mul]
          congr 2
          omega
      rw [e1, e2]
      rcases ih (d := fun i => d (i + 1)) (used := used + 1) (size := size % b * s) (value := (value - (size - size % b)) * s + d 0) (fun i hi => by
        have := hd (i + 1) (by omega)
        rw [show used + 1 + i = used + (i + 1) by omega]; exact this) with h | ⟨v, u, h1, h2, h3, h4, h5⟩
      · exact .inl h
      · exact .inr ⟨v, u, h1, h2, by omega, by omega, h5⟩

theorem dec_prefix {s b : Int} {ts ts' : List Int} {left left' used u : Nat} {size value v : Int} (h : dec s b ts left used size value = (v, (u : Int), 0)) (hu : used ≤ u → used + left' = u) (hb : ∀ (l k : Nat) (sz vl : Int), (dec s b ts l k sz vl).2.2 = 0 → (k : Int) ≤ (dec s b ts l k sz vl).2.1) (hn : ∀ i, i < u → nth ts' i = nth ts i) :
    dec s b ts' left' used size value = (v, (u : Int), 0) := by
  induction left generalizing used left' size value with
  | zero =>
    simp only [dec] at h
    by_cases hlt : value < size - size % b
    · rw [if_pos hlt] at h
      rw [dec_yes hlt]; exact h
    · rw [if_neg hlt] at h; simp at h
  | succ left ih =>
    by_cases hlt : value < size - size % b
    · rw [dec_yes hlt] at h ⊢; exact h
    · rw [dec_no hlt] at h
      have h1 := hb left (used + 1) ((size - (size - size % b)) * s) ((value - (size - size % b)) * s + nth ts used)
      rw [h] at h1
      have h2 : used + 1 ≤ u := by have := h1 rfl; simp at this; omega
      obtain ⟨k, rfl⟩ : ∃ k, left' = k + 1 := ⟨left' - 1, by have := hu (by omega); omega⟩
      rw [dec_no hlt, hn used (by omega)]
      exact ih h (fun _ => by have := hu (by omega); omega)
theorem dec_ge {s b : Int} {ts : List Int} (l k : Nat) (sz vl : Int) (h : (dec s b ts l k sz vl).2.2 = 0) : (k : Int) ≤ (dec s b ts l k sz vl).2.1 := by
  induction l generalizing k sz vl with
  | zero =>
    simp only [dec] at h ⊢
    by_cases hlt : vl < sz - sz % b
    · rw [if_pos hlt]; exact Int.le_refl _
    · rw [if_neg hlt] at h; simp at h
  | succ l ih =>
    by_cases hlt : vl < sz - sz % b
    · rw [dec_yes hlt]; exact Int.le_refl _
    · rw [dec_no hlt] at h ⊢
      have := ih _ _ _ h
      omega

/-- All throws of a list by its number. -/
def digs (s x n : Nat) : List Int := upto (fun i => ((dg s x i : Nat) : Int)) n
theorem digs_length (s x n : Nat) : (digs s x n).length = n := upto_length _ _
theorem nth_digs {s x n i : Nat} (h : i < n) : nth (digs s x n) i = (dg s x i : Int) := by
  unfold digs upto nth
  simp [h]
theorem nth_take {xs : List Int} {u i : Nat} (h : i < u) : nth (xs.take u) i = nth xs i := by
  unfold nth
  simp [h]
theorem digs_in {s x n : Nat} (hs : 0 < s) {i : Nat} (h : i < n) : 0 ≤ nth (digs s x n) i ∧ nth (digs s x n) i < s := by
  rw [nth_digs h]
  have : dg s x i < s := Nat.mod_lt _ hs
  omega
theorem sFair_of {s b : Nat} {ts : List Int} (h1 : 2 ≤ s) (h2 : s ≤ 1000000) (h3 : 1 ≤ b) (h4 : b ≤ 1000000) (h5 : ts.length ≤ 10000) (h6 : ∀ i, i < ts.length → 0 ≤ nth ts i ∧ nth ts i < s) : sFair s b ts = dec s b ts ts.length 0 1 0 := by
  unfold sFair
  rw [if_neg (by simp [outB]; omega), if_neg (by omega), if_neg]
  have : anyB (outB 0 ((s : Int) - 1)) ts = false := anyB_false fun i hi => by
    have := h6 i hi
    simp [outB]; omega
  rw [this]; simp
/-- What Fair returns for a list by its number: nothing is decided, or a value, which the throws that are used decide, too. -/
theorem fair_digs {s b n : Nat} (x : Nat) (h1 : 2 ≤ s) (h2 : s ≤ 1000000) (h3 : 1 ≤ b) (h4 : b ≤ 1000000) (h5 : n ≤ 10000) :
    (decN s b (dg s x) n 1 0 = none ∧ sFair s b (digs s x n) = (0, 0, 7)) ∨ ∃ v u : Nat, decN s b (dg s x) n 1 0 = some v ∧ v < b ∧ u ≤ n ∧ sFair s b (digs s x n) = ((v : Int), (u : Int), 0) ∧ sFair s b ((digs s x n).take u) = ((v : Int), (u : Int), 0) := by
  have hl := digs_length s x n
  have e := sFair_of (ts := digs s x n) h1 h2 h3 h4 (by omega) (fun i hi => digs_in (by omega) (by omega))
  rw [hl] at e
  rcases dec_N (s := s) (b := b) (by omega) (ts := digs s x n) (d := dg s x) (left := n) (used := 0) (size := 1) (value := 0) (fun i hi => by rw [Nat.zero_add]; exact nth_digs hi) with ⟨k1, k2⟩ | ⟨v, u, k1, k2, k3, k4, k5⟩
  · left
    exact ⟨k1, by rw [e]; exact k2⟩
  · right
    refine ⟨v, u, k1, k2, by omega, by rw [e]; exact k5, ?_⟩
    have hlt : ((digs s x n).take u).length = u := by rw [List.length_take]; omega
    rw [sFair_of h1 h2 h3 h4 (by omega) (fun i hi => by rw [hlt] at hi; rw [nth_take hi]; exact digs_in (by omega) (by omega)), hlt]
    exact dec_prefix k5 (fun _ => by omega) dec_ge (fun i hi => nth_take hi)
end Go.Proofs.Ytagodfaclohkmaa
