/-
  Sets of hexagrams: what is near to a set; each hexagram of a set lies in a greatest pattern; patterns in order.
-/
import Derived.Test.YtdfdgeaohneeaaaGreatDoorHxYa
import Derived.Test.YtdfdgeaohneeaaaGreatDoorHxN
import Derived.Test.YtdfdgeaohneeaaaGreatDoorHxRa
namespace Go.Proofs.YtdfdgeaohneeaaaGreatDoor
open Go Go.RowKit
set_option linter.unusedVariables false

/-- In how many of the first k lines two hexagrams differ. -/
def dstTo (h g : Nat) : Nat → Nat
  | 0 => 0
  | k + 1 => dstTo h g k + if h.testBit k = g.testBit k then 0 else 1
def popTo (x : Nat) : Nat → Nat
  | 0 => 0
  | k + 1 => popTo x k + if x.testBit k = true then 1 else 0
theorem dst_pop (h g k : Nat) : dstTo h g k = popTo (h ^^^ g) k := by
  induction k with
  | zero => rfl
  | succ k ih =>
    unfold dstTo popTo
    rw [ih, Nat.testBit_xor]
    cases h.testBit k <;> cases g.testBit k <;> rfl
theorem dst_le (h g k : Nat) : dstTo h g k ≤ k := by
  induction k with
  | zero => exact Nat.le_refl _
  | succ k ih => unfold dstTo; split <;> omega
theorem all_pop : ∀ x, x < 64 → (popTo x 6 = 0 → x = 0) ∧ (x ≠ 0 → ∃ l, l < 6 ∧ popTo (x ^^^ 2 ^ l) 6 + 1 = popTo x 6) ∧ ∀ l, l < 6 → popTo x 6 ≤ popTo (x ^^^ 2 ^ l) 6 + 1 := by
  have h : ∀ x, x < 64 → (popTo x 6 = 0 → x = 0) ∧ (x = 0 ∨ (List.range 6).any (fun l => popTo (x ^^^ 2 ^ l) 6 + 1 == popTo x 6) = true) ∧ ∀ l, l < 6 → popTo x 6 ≤ popTo (x ^^^ 2 ^ l) 6 + 1 := by decide +kernel
  intro x hx
  obtain ⟨a, b, c⟩ := h x hx
  refine ⟨a, fun h0 => ?_, c⟩
  rcases b with b | b
  · exact absurd b h0
  · rw [List.any_eq_true] at b
    obtain ⟨l, hl, e⟩ := b
    exact ⟨l, by simpa using hl, by simpa using e⟩
theorem flip_xor : ∀ l, l < 6 → ∀ h, h < 64 → flip h l = h ^^^ 2 ^ l := by decide +kernel
theorem xor_lt {h g : Nat} (hh : h < 64) (hg : g < 64) : h ^^^ g < 64 := Nat.xor_lt_two_pow (n := 6) hh hg
theorem dst_step {h g : Nat} (hh : h < 64) (hg : g < 64) (n : Nat) : dstTo h g 6 ≤ n + 1 ↔ dstTo h g 6 ≤ n ∨ ∃ l, l < 6 ∧ dstTo h (flip g l) 6 ≤ n := by
  obtain ⟨a, b, c⟩ := all_pop _ (xor_lt hh hg)
  have e : ∀ l, l < 6 → dstTo h (flip g l) 6 = popTo ((h ^^^ g) ^^^ 2 ^ l) 6 := fun l hl => by rw [dst_pop, flip_xor l hl g hg, Nat.xor_assoc]
  rw [dst_pop]
  constructor
  · intro h1
    by_cases h0 : popTo (h ^^^ g) 6 ≤ n
    · exact .inl h0
    · obtain ⟨l, hl, e1⟩ := b (fun e0 => h0 (by rw [e0]; exact Nat.zero_le _))
      exact .inr ⟨l, hl, by rw [e l hl]; omega⟩
  · rintro (h1 | ⟨l, hl, h1⟩)
    · omega
    · have := c l hl
      rw [e l hl] at h1
      omega
theorem dst_zero {h g : Nat} (hh : h < 64) (hg : g < 64) : dstTo h g 6 ≤ 0 ↔ h = g := by
  rw [dst_pop]
  constructor
  · intro h0
    have := (all_pop _ (xor_lt hh hg)).1 (by omega)
    apply Nat.eq_of_testBit_eq
    intro i
    have h2 : (h ^^^ g).testBit i = false := by rw [this]; exact Nat.zero_testBit i
    rw [Nat.testBit_xor] at h2
    revert h2
    cases h.testBit i <;> cases g.testBit i <;> simp
  · rintro rfl
    rw [Nat.xor_self]
    exact Nat.le_refl _

/-- A set, and with the first lines turned. -/
def nearL (s : Int) : Nat → Int
  | 0 => s
  | l + 1 => bits BinOp.or IntKind.u64 (nearL s l) (turnedV s l)
/-- What is near to a set, by some lines. -/
def nearV (s : Int) : Nat → Int
  | 0 => s
  | n + 1 => nearL (nearV s n) 6
def nearP (q : Nat → Bool) (n g : Nat) : Bool := (List.range 64).any fun h => q h && decide (dstTo h g 6 ≤ n)
theorem nearP_iff {q : Nat → Bool} {n g : Nat} : nearP q n g = true ↔ ∃ h, h < 64 ∧ q h = true ∧ dstTo h g 6 ≤ n := by simp [nearP]
theorem isSet_nearL {s : Int} {p : Nat → Bool} (h : IsSet s p) (k : Nat) (hk : k ≤ 6) : IsSet (nearL s k) (fun i => p i || (List.range k).any fun l => p (flip i l)) := by
  induction k with
  | zero => exact h.congr fun i _ => by simp
  | succ k ih =>
    refine ((ih (by omega)).or (isSet_turned h (l := k) (by omega))).congr fun i hi => ?_
    rw [List.range_succ, List.any_append]
    simp [Bool.or_assoc]
theorem isSet_near {s : Int} {q : Nat → Bool} (h : IsSet s q) (n : Nat) : IsSet (nearV s n) (nearP q n) := by
  induction n with
  | zero =>
    refine h.congr fun g hg => ?_
    rw [Bool.eq_iff_iff, nearP_iff]
    constructor
    · intro hq; exact ⟨g, hg, hq, (dst_zero hg hg).2 rfl⟩
    · rintro ⟨x, hx, hq, hd⟩
      rw [(dst_zero hx hg).1 hd] at hq
      exact hq
  | succ n ih =>
    refine (isSet_nearL ih 6 (Nat.le_refl _)).congr fun g hg => ?_
    rw [Bool.eq_iff_iff, Bool.or_eq_true, List.any_eq_true, nearP_iff, nearP_iff]
    constructor
    · rintro (⟨x, hx, hq, hd⟩ | ⟨l, hl, h2⟩)
      · exact ⟨x, hx, hq, by omega⟩
      · obtain ⟨x, hx, hq, hd⟩ := nearP_iff.1 h2
        exact ⟨x, hx, hq, (dst_step hx hg n).2 (.inr ⟨l, by simpa using hl, hd⟩)⟩
    · rintro ⟨x, hx, hq, hd⟩
      rcases (dst_step hx hg n).1 hd with h1 | ⟨l, hl, h1⟩
      · exact .inl ⟨x, hx, hq, h1⟩
      · exact .inr ⟨l, by simpa using hl, nearP_iff.2 ⟨x, hx, hq, h1⟩⟩
theorem near_add (s : Int) (m n : Nat) : nearV (nearV s m) n = nearV s (m + n) := by
  induction n with
  | zero => rfl
  | succ n ih =>
    show nearL (nearV (nearV s m) n) 6 = nearL (nearV s (m + n)) 6
    rw [ih]
theorem near_within {s : Int} {q : Nat → Bool} (h : IsSet s q) (n : Nat) : withinB s (nearV s n) = true := by
  rw [within_iff h (isSet_near h n)]
  intro g hg hq
  exact nearP_iff.2 ⟨g, hg, hq, by have := (dst_zero hg hg).2 rfl; omega⟩

/-- The reference's two loops: the sets of the first hexagrams, of the first that are near to one. -/
def refIn (c : Nat → Nat → Bool) (h : Nat) (acc : Int) : Nat → Int
  | 0 => acc
  | g + 1 => if c h g = true then bits BinOp.or IntKind.u64 (refIn c h acc g) (2 ^ g) else refIn c h acc g
def refOut (c : Nat → Nat → Bool) : Nat → Int
  | 0 => 0
  | h + 1 => refIn c h (refOut c h) 64
theorem isSet_refIn {acc : Int} {p : Nat → Bool} (ha : IsSet acc p) (c : Nat → Nat → Bool) (h k : Nat) (hk : k ≤ 64) : IsSet (refIn c h acc k) (fun g => p g || (decide (g < k) && c h g)) := by
  induction k with
  | zero => exact ha.congr fun g _ => by simp
  | succ k ih =>
    have ih := ih (by omega)
    unfold refIn
    by_cases hc : c h k = true
    · rw [if_pos hc]
      refine (ih.or (isSet_one (by omega))).congr fun g hg => ?_
      by_cases e : k = g
      · subst e; simp [hc]
      · have : g < k + 1 ↔ g < k := by omega
        simp [e, this]
    · rw [if_neg hc]
      refine ih.congr fun g hg => ?_
      by_cases e : g = k
      · subst e; simp [hc]
      · have : g < k + 1 ↔ g < k := by omega
        simp [this]
theorem isSet_refOut (c : Nat → Nat → Bool) (k : Nat) : IsSet (refOut c k) (fun g => (List.range k).any fun h => c h g) := by
  induction k with
  | zero => exact isSet_zero.congr fun g _ => by simp
  | succ k ih =>
    refine (isSet_refIn ih c k 64 (Nat.le_refl _)).congr fun g hg => ?_
    rw [List.range_succ, List.any_append]
    simp [hg]
def nearC (s n : Nat) (h g : Nat) : Bool := decide (dstTo h g 6 ≤ n) && s.testBit h
theorem ref_near {s : Nat} (hs : s < 2 ^ 64) (n : Nat) : refOut (nearC s n) 64 = nearV (s : Int) n :=
  (isSet_refOut _ 64).ext (isSet_near (isSet_nat hs) n) fun g hg => by
    unfold nearP nearC
    congr 1
    funext h
    rw [Bool.and_comm]
theorem six_bit : ∀ k, k < 6 → ∀ h, h < 64 → nth (sixL (h : Nat)) k = if h.testBit k = true then 1 else 0 := by decide +kernel

/-- The digits of a pattern's number; the number with a digit that may be any. -/
def dig (k j : Nat) : Nat := k / 3 ^ (5 - j) % 3
def openK (k i : Nat) : Nat := k + (2 - dig k i) * 3 ^ (5 - i)
theorem byte_pat (k : Nat) {j : Nat} (hj : j < 6) : byteAt (patS k) j = (signU (dig k j)).toNat := by
  unfold byteAt patS patL dig
  simp [List.getD_eq_getElem?_getD, hj]
theorem sign_nat (d : Nat) : (signU d).toNat = if d = 0 then 48 else if d = 1 then 49 else 63 := by unfold signU; split; rfl; split <;> rfl
theorem dig_bd (k j : Nat) : dig k j < 3 := Nat.mod_lt _ (by decide)
set_option maxRecDepth 100000 in
theorem all_dig0 : ∀ k, k < 729 → ∀ i, i < 6 → dig k i = 2 ∨ (openK k i < 729 ∧ k < openK k i ∧ dig (openK k i) i = 2 ∧ ∀ j, j < 6 → j = i ∨ dig (openK k i) j = dig k j) := by decide +kernel
theorem all_dig (k : Nat) (hk : k < 729) (i : Nat) (hi : i < 6) (h : dig k i ≠ 2) : openK k i < 729 ∧ k < openK k i ∧ dig (openK k i) i = 2 ∧ ∀ j, j < 6 → j ≠ i → dig (openK k i) j = dig k j := by
  rcases all_dig0 k hk i hi with e | ⟨a, b, c, d⟩
  · exact absurd e h
  · exact ⟨a, b, c, fun j hj e => (d j hj).resolve_left e⟩
theorem open_pat {k i : Nat} (hk : k < 729) (hi : i < 6) (h : byteAt (patS k) i ≠ 63) : OpenAt (patS k) (patS (openK k i)) i ∧ (byteAt (patS k) i = 48 ∨ byteAt (patS k) i = 49) ∧ openK k i < 729 ∧ k < openK k i := by
  rw [byte_pat k hi, sign_nat] at h
  have hd : dig k i ≠ 2 := fun e => h (by rw [e]; rfl)
  obtain ⟨a, b, c, d⟩ := all_dig k hk i hi hd
  refine ⟨⟨by rw [byte_pat _ hi, c]; rfl, fun j hj e => by rw [byte_pat _ hj, byte_pat _ hj, d j hj e]⟩, ?_, a, b⟩
  rw [byte_pat k hi, sign_nat]
  have := dig_bd k i
  by_cases h0 : dig k i = 0
  · rw [h0]; exact .inl rfl
  · rw [show dig k i = 1 by omega]; exact .inr rfl
/-- The pattern of one hexagram. -/
def patOf (h : Nat) : Nat := (List.range 6).foldl (fun v l => 3 * v + if h.testBit l = true then 1 else 0) 0
theorem all_patOf : ∀ h, h < 64 → patOf h < 729 ∧ ∀ l, l < 6 → dig (patOf h) l = if h.testBit l = true then 1 else 0 := by decide +kernel
theorem patOf_ok {h g : Nat} (hh : h < 64) (hg : g < 64) : okTo (patS (patOf h)) 6 g = true ↔ g = h := by
  obtain ⟨_, hd⟩ := all_patOf h hh
  have key : ∀ l, l < 6 → (okL (patS (patOf h)) g l = true ↔ g.testBit l = h.testBit l) := fun l hl => by
    unfold okL
    rw [byte_pat _ hl, sign_nat, hd l hl]
    cases h.testBit l <;> cases g.testBit l <;> simp
  rw [okTo_iff]
  constructor
  · intro H
    have : dstTo g h 6 ≤ 0 := by
      have e := fun l hl => (key l hl).1 (H l hl)
      simp [dstTo, e]
    exact (dst_zero hg hh).1 this
  · rintro rfl l hl
    exact (key l hl).2 rfl

/-- Each hexagram of a set lies in a greatest pattern of it. -/
theorem cover_up {set : Int} {q : Nat → Bool} (hq : IsSet set q) {h : Nat} (hh : h < 64) (f : Nat) : ∀ k, k < 729 → 729 - k ≤ f → withinB (matchTo (patS k) 6) set = true → okTo (patS k) 6 h = true → ∃ k', k' < 729 ∧ greatB set k' = true ∧ okTo (patS k') 6 h = true := by
  induction f with
  | zero => intro k hk hf; omega
  | succ f ih =>
    intro k hk hf hw ho
    cases hg : growsB (patS k) (matchTo (patS k) 6) set
    · exact ⟨k, hk, by unfold greatB; rw [hw, hg]; rfl, ho⟩
    · unfold growsB at hg
      rw [List.any_eq_true] at hg
      obtain ⟨l, hl, hb⟩ := hg
      have hl : l < 6 := by simpa using hl
      unfold growB at hb
      rw [Bool.and_eq_true] at hb
      obtain ⟨o1, o2, o3, o4⟩ := open_pat hk hl (by simpa using hb.1)
      refine ih (openK k l) o3 (by omega) ?_ ?_
      · rw [open_within hl o1 o2 hq, hw, hb.2]; rfl
      · rw [open_ok hl o1 o2 hh, ho]; rfl
theorem cover {set : Int} {q : Nat → Bool} (hq : IsSet set q) {h : Nat} (hh : h < 64) (hs : q h = true) : ∃ k, k < 729 ∧ greatB set k = true ∧ okTo (patS k) 6 h = true :=
  cover_up hq hh 729 (patOf h) (all_patOf h hh).1 (by omega) (by
    rw [within_iff (isSet_match _ 6 (Nat.le_refl _)) hq]
    intro g hg hp
    rw [(patOf_ok hh hg).1 hp]
    exact hs) ((patOf_ok hh hh).2 rfl)
theorem great_within {set : Int} {k : Nat} (h : greatB set k = true) : withinB (matchTo (patS k) 6) set = true ∧ growsB (patS k) (matchTo (patS k) 6) set = false := by
  unfold greatB at h
  rw [Bool.and_eq_true] at h
  exact ⟨h.1, by simpa using h.2⟩
/-- A greatest pattern that has one place more does not lie in the set. -/
theorem great_open {set : Int} {q : Nat → Bool} (hq : IsSet set q) {k i : Nat} (hk : k < 729) (hi : i < 6) (h : greatB set k = true) (hb : byteAt (patS k) i ≠ 63) {s' : ByteArray} (ho : OpenAt (patS k) s' i) : withinB (matchTo s' 6) set = false := by
  obtain ⟨g1, g2⟩ := great_within h
  obtain ⟨-, o2, -, -⟩ := open_pat hk hi hb
  rw [open_within hi ho o2 hq]
  unfold growsB at g2
  rw [List.any_eq_false] at g2
  have := g2 i (by simpa using hi)
  unfold growB at this
  have e : (byteAt (patS k) i != 63) = true := by simpa using hb
  rw [e, Bool.true_and] at this
  rw [g1, Bool.true_and]
  simpa using this

/-- The reference looks whether a pattern is widest. -/
def widB (s : ByteArray) (set : Int) (op : Nat → ByteArray) (i : Nat) : Bool := byteAt s i != 63 && withinB (matchTo (op i) 6) set
theorem wid_grow {set : Int} {q : Nat → Bool} (hq : IsSet set q) {k : Nat} (hk : k < 729) (hw : withinB (matchTo (patS k) 6) set = true) {op : Nat → ByteArray} (ho : ∀ i, i < 6 → OpenAt (patS k) (op i) i) {i : Nat} (hi : i < 6) : widB (patS k) set op i = growB (patS k) (matchTo (patS k) 6) set i := by
  unfold widB growB
  by_cases e : byteAt (patS k) i = 63
  · rw [e]; rfl
  · have e1 : (byteAt (patS k) i != 63) = true := by simpa using e
    obtain ⟨-, o2, -, -⟩ := open_pat hk hi e
    rw [e1, open_within hi (ho i hi) o2 hq, hw]
    simp
end Go.Proofs.YtdfdgeaohneeaaaGreatDoor
