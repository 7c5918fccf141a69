/-
  That a sum of lists is the same both ways round, and in whatever order: plain arithmetic of lists, no code.
-/
import Derived.Test.YtnpnnfbmnlgioaaE
namespace Go.Proofs.Ytnpnnfbmnlgioaa

/-- The sum of the first n values. -/
def rs (F : Nat → Int) : Nat → Int
  | 0 => 0
  | n + 1 => rs F n + F n
theorem rs_congr {F G : Nat → Int} {n : Nat} (h : ∀ k, k < n → F k = G k) : rs F n = rs G n := by
  induction n with
  | zero => rfl
  | succ n ih => simp only [rs]; rw [ih fun k hk => h k (by omega), h n (by omega)]
theorem rs_front (F : Nat → Int) (n : Nat) : rs F (n + 1) = F 0 + rs (fun t => F (t + 1)) n := by
  induction n with
  | zero => simp [rs]
  | succ n ih =>
    have h : rs F (n + 1 + 1) = rs F (n + 1) + F (n + 1) := rfl
    rw [h, ih]
    simp only [rs]
    omega
theorem rs_zero {F : Nat → Int} {n : Nat} (h : ∀ k, k < n → F k = 0) : rs F n = 0 := by
  induction n with
  | zero => rfl
  | succ n ih => simp only [rs]; rw [ih fun k hk => h k (by omega), h n (by omega)]; rfl
theorem rs_more {F : Nat → Int} {n : Nat} (m : Nat) (h : ∀ k, n ≤ k → F k = 0) : rs F (n + m) = rs F n := by
  induction m with
  | zero => rfl
  | succ m ih =>
    have e : rs F (n + (m + 1)) = rs F (n + m) + F (n + m) := rfl
    rw [e, ih, h (n + m) (by omega), Int.add_zero]

/-- The product of two sequences, as coefficients. -/
def cv : (Nat → Int) → (Nat → Int) → Nat → Int
  | f, g, 0 => f 0 * g 0
  | f, g, k + 1 => f 0 * g (k + 1) + cv (fun n => f (n + 1)) g k
theorem cv_rs (f g : Nat → Int) (k : Nat) : cv f g k = rs (fun t => f t * g (k - t)) (k + 1) := by
  induction k generalizing f with
  | zero => simp [cv, rs]
  | succ k ih =>
    rw [rs_front, Nat.sub_zero]
    simp only [cv]
    rw [ih]
    refine congrArg (f 0 * g (k + 1) + ·) (rs_congr fun t ht => ?_)
    rw [show k + 1 - (t + 1) = k - t by omega]
theorem cv_last (f g : Nat → Int) (k : Nat) : cv f g (k + 1) = cv f (fun n => g (n + 1)) k + f (k + 1) * g 0 := by
  induction k generalizing f with
  | zero => simp [cv]
  | succ k ih =>
    have e : cv f g (k + 1 + 1) = f 0 * g (k + 1 + 1) + cv (fun n => f (n + 1)) g (k + 1) := rfl
    rw [e, ih]
    simp only [cv]
    omega
theorem cv_comm (f g : Nat → Int) (k : Nat) : cv f g k = cv g f k := by
  induction k generalizing f g with
  | zero => simp only [cv]; exact Int.mul_comm ..
  | succ k ih =>
    rw [cv_last g f]
    simp only [cv]
    rw [ih, Int.mul_comm (f 0)]
    omega
theorem cv_add (f f' g : Nat → Int) (k : Nat) : cv (fun n => f n + f' n) g k = cv f g k + cv f' g k := by
  induction k generalizing f f' with
  | zero => simp only [cv]; exact Int.add_mul ..
  | succ k ih =>
    simp only [cv]
    rw [ih (fun n => f (n + 1)) (fun n => f' (n + 1)), Int.add_mul]
    omega
theorem cv_smul (c : Int) (f g : Nat → Int) (k : Nat) : cv (fun n => c * f n) g k = c * cv f g k := by
  induction k generalizing f with
  | zero => simp only [cv]; rw [Int.mul_assoc]
  | succ k ih =>
    simp only [cv]
    rw [ih (fun n => f (n + 1)), Int.mul_assoc, Int.mul_add]
theorem cv_assoc (f g h : Nat → Int) (k : Nat) : cv (cv f g) h k = cv f (cv g h) k := by
  induction k generalizing f g with
  | zero => simp only [cv]; rw [Int.mul_assoc]
  | succ k ih =>
    have e1 : cv (cv f g) h (k + 1) = f 0 * g 0 * h (k + 1) + cv (fun n => f 0 * g (n + 1) + cv (fun m => f (m + 1)) g n) h k := rfl
    have e2 : cv f (cv g h) (k + 1) = f 0 * (g 0 * h (k + 1) + cv (fun m => g (m + 1)) h k) + cv (fun m => f (m + 1)) (cv g h) k := rfl
    rw [e1, e2, cv_add (fun n => f 0 * g (n + 1)) (fun n => cv (fun m => f (m + 1)) g n), cv_smul (f 0) (fun n => g (n + 1)), ← ih (fun m => f (m + 1)) g, Int.mul_add, Int.mul_assoc]
    have ee : cv (fun n => cv (fun m => f (m + 1)) g n) h k = cv (cv (fun m => f (m + 1)) g) h k := rfl
    rw [ee]
    omega
theorem cv_congr {f f' g g' : Nat → Int} (h : ∀ n, f n = f' n) (h2 : ∀ n, g n = g' n) (k : Nat) : cv f g k = cv f' g' k := by
  rw [show f = f' from funext h, show g = g' from funext h2]

/-! ### Lists -/
theorem list_ext {a b : List Int} (hl : a.length = b.length) (h : ∀ k, nth a k = nth b k) : a = b := by
  refine List.ext_getElem hl fun k h1 h2 => ?_
  have := h k
  rwa [nth_eq h1, nth_eq h2] at this
theorem nth_addRow {l : List Int} {i : Nat} {x : Int} {b : List Int} {j : Nat} (hj : j ≤ b.length) (hin : i + b.length ≤ l.length) (k : Nat) :
    nth (addRow l i x b j) k = nth l k + if i ≤ k ∧ k < i + j then x * nth b (k - i) else 0 := by
  induction j with
  | zero => simp only [addRow]; rw [if_neg (by omega)]; omega
  | succ j ih =>
    simp only [addRow]
    rw [nth_set (by rw [addRow_length]; omega)]
    have ih := ih (by omega)
    by_cases e : i + j = k
    · subst e
      rw [if_pos rfl, if_pos (by omega)]
      rw [if_neg (by omega)] at ih
      rw [ih, show i + j - i = j by omega]
      omega
    · rw [if_neg e, ih]
      by_cases h : i ≤ k ∧ k < i + j
      · rw [if_pos h, if_pos (by omega)]
      · rw [if_neg h, if_neg (by omega)]
theorem nth_sumTo {n : Nat} {a b : List Int} (hn : a.length + b.length ≤ n + 1) {i : Nat} (hi : i ≤ a.length) (k : Nat) :
    nth (sumTo n a b i) k = rs (fun t => if t ≤ k then nth a t * nth b (k - t) else 0) i := by
  induction i with
  | zero => simp only [sumTo, rs]; rw [nth_replicate]; split <;> rfl
  | succ i ih =>
    simp only [sumTo, rs]
    rw [nth_addRow (Nat.le_refl _) (by rw [sumTo_length]; omega), ih (by omega)]
    refine congrArg (_ + ·) ?_
    by_cases h : i ≤ k
    · by_cases h2 : k < i + b.length
      · rw [if_pos ⟨h, h2⟩, if_pos h]
      · rw [if_neg (by omega), if_pos h, nth_out (xs := b) (by omega), Int.mul_zero]
    · rw [if_neg (by omega), if_neg h]
theorem nth_conv {a b : List Int} (ha : 1 ≤ a.length) (hb : 1 ≤ b.length) (k : Nat) : nth (conv a b) k = cv (nth a) (nth b) k := by
  unfold conv
  rw [nth_sumTo (by omega) (Nat.le_refl _), cv_rs]
  have e : rs (fun t => nth a t * nth b (k - t)) (k + 1) = rs (fun t => if t ≤ k then nth a t * nth b (k - t) else 0) (k + 1) := rs_congr fun t ht => by rw [if_pos (by omega)]
  rw [e]
  rcases Nat.le_total a.length (k + 1) with h | h
  · obtain ⟨m, hm⟩ : ∃ m, k + 1 = a.length + m := ⟨k + 1 - a.length, by omega⟩
    rw [hm, rs_more m fun t ht => by rw [nth_out (xs := a) (by omega), Int.zero_mul]; split <;> rfl]
  · obtain ⟨m, hm⟩ : ∃ m, a.length = k + 1 + m := ⟨a.length - (k + 1), by omega⟩
    rw [hm, rs_more m fun t ht => by rw [if_neg (by omega)]]
theorem conv_length {a b : List Int} : (conv a b).length = a.length + b.length - 1 := sumTo_length ..
theorem conv_comm {a b : List Int} (ha : 1 ≤ a.length) (hb : 1 ≤ b.length) : conv a b = conv b a := by
  refine list_ext (by rw [conv_length, conv_length]; omega) fun k => ?_
  rw [nth_conv ha hb, nth_conv hb ha, cv_comm]
theorem conv_assoc {a b c : List Int} (ha : 1 ≤ a.length) (hb : 1 ≤ b.length) (hc : 1 ≤ c.length) : conv (conv a b) c = conv a (conv b c) := by
  have h1 := conv_length (a := a) (b := b)
  have h2 := conv_length (a := b) (b := c)
  refine list_ext (by rw [conv_length, h1, conv_length, h2]; omega) fun k => ?_
  rw [nth_conv (by omega) hc, nth_conv ha (by omega), cv_congr (fun n => nth_conv ha hb n) (fun _ => rfl), cv_assoc]
  exact cv_congr (fun _ => rfl) (fun n => (nth_conv hb hc n).symm) k
theorem conv_one {a : List Int} (ha : 1 ≤ a.length) : conv [1] a = a := by
  refine list_ext (by rw [conv_length]; simp) fun k => ?_
  rw [nth_conv (by simp) ha]
  cases k with
  | zero => simp [cv, nth]
  | succ k =>
    simp only [cv]
    have : cv (fun n => nth [1] (n + 1)) (nth a) k = 0 := by
      rw [cv_rs]
      exact rs_zero fun t _ => by simp [nth]
    rw [this]
    simp [nth]
theorem conv_facts {a b : List Int} (ha : Pos a) (hb : Pos b) : Pos (conv a b) ∧ lsum (conv a b) = lsum a * lsum b := by
  have := sumTo_facts (n := a.length + b.length - 1) ha hb (Nat.le_refl _) (by omega)
  rwa [psum_all] at this
theorem chk1_of {xs : List Int} (h1 : xs.length ≤ 4096) (h2 : Pos xs) (h3 : 1 ≤ lsum xs) (h4 : lsum xs ≤ 1000000000000000) : chk1 xs = 0 := by
  unfold chk1
  rw [if_neg (by omega), if_neg]
  rintro (h | h)
  · exact not_small_of_anyB h fun k hk => ⟨h2 k, Int.le_trans (nth_le_lsum h2 k) h4⟩
  · simp [outB] at h; omega
theorem len_pos {xs : List Int} (h : 1 ≤ lsum xs) : 1 ≤ xs.length := by
  rcases xs with _ | ⟨x, r⟩
  · simp [lsum] at h
  · simp
end Go.Proofs.Ytnpnnfbmnlgioaa
