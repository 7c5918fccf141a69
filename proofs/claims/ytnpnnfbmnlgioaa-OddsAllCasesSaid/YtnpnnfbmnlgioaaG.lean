/-
  What only, checkSome and Of of package odds return, for every two lists.
-/
import Derived.Test.YtnpnnfbmnlgioaaE
namespace Go.Proofs.Ytnpnnfbmnlgioaa
open Go.RowKit

/-- The outcome before the outcome k, -1 before the first. -/
def prevO (os : List Int) (k : Nat) : Int := if k = 0 then -1 else nth os (k - 1)
theorem prevO_succ (os : List Int) (k : Nat) : prevO os (k + 1) = nth os k := by simp [prevO]
/-- The outcome k is none above the one before and below n. -/
def badO (n : Nat) (os : List Int) (k : Nat) : Bool := decide (nth os k ≤ prevO os k ∨ (n : Int) ≤ nth os k)
/-- Outcomes below n in strictly ascending order. -/
def asc (n : Nat) (os : List Int) : Bool := (List.range os.length).all fun k => !badO n os k
theorem asc_true {n : Nat} {os : List Int} (h : ∀ k, k < os.length → badO n os k = false) : asc n os = true := by
  unfold asc; rw [List.all_eq_true]; intro k hk; simp at hk; simp [h k hk]
theorem asc_false {n : Nat} {os : List Int} {k : Nat} (hk : k < os.length) (h : badO n os k = true) : asc n os = false := by
  unfold asc; rw [List.all_eq_false]; exact ⟨k, by simpa using hk, by simp [h]⟩
theorem asc_at {n : Nat} {os : List Int} (h : asc n os = true) {k : Nat} (hk : k < os.length) : prevO os k < nth os k ∧ nth os k < n := by
  unfold asc at h
  rw [List.all_eq_true] at h
  have := h k (by simpa using hk)
  simp [badO] at this
  omega
theorem asc_nonneg {n : Nat} {os : List Int} (h : asc n os = true) {k : Nat} (hk : k < os.length) : 0 ≤ nth os k := by
  induction k with
  | zero => have := (asc_at h hk).1; simp [prevO] at this; omega
  | succ k ih => have := (asc_at h hk).1; rw [prevO_succ] at this; have := ih (by omega); omega

/-- A list with the weights of the first k outcomes of os alone. -/
def onlyTo (xs os : List Int) : Nat → List Int
  | 0 => List.replicate xs.length 0
  | k + 1 => (onlyTo xs os k).set (nth os k).toNat (nth xs (nth os k).toNat)
theorem onlyTo_length (xs os : List Int) (k : Nat) : (onlyTo xs os k).length = xs.length := by
  induction k with
  | zero => simp [onlyTo]
  | succ k ih => simp [onlyTo, ih]

set_option maxHeartbeats 1000000 in
theorem only_any (p : Option Addr) (xs : List Int) (c : Nat) (po : Option Addr) (os : List Int) (co : Nat) (w : World) (hl : xs.length ≤ 4096) (hlo : os.length ≤ 1000000000000000) (ha : asc xs.length os = true) (hR : Reads w p xs) (hRo : Reads w po os) :
    Calls Try.prog 46 #[.slice p xs.length c, .slice po os.length co] w fun e w' => ∃ g, e = .returned (.slice (some ⟨g, 0, none⟩) xs.length xs.length) ∧ Row w' w.heap.size g xs.length (onlyTo xs os os.length) ∧ Below w.heap.size w w' := by
  obtain ⟨i0, hi, hz0, hz1, hz2⟩ := info_parts (show (Try.prog.info? 3).map (fun i => (i.zero, i.size, i.bytes)) = some (some (.int .i64 0), 1, 8) by kernel_rfl)
  have Ha := Lib.hid ha
  clear ha
  go_enter Try.func46, Try.ntmps46
  go_wp2_with (at_make; refine wpList_make_full _ rfl _ _ 34 rfl w.heap.size 3 i0 (.int .i64 0) 1 Try.underlying34 hi hz0 hz1 .i64 .i64 _ _ xs.length rfl rfl rfl rfl ?c1 ?c2 ?c3 ?_)
  case c1 => rw [hz2]; omega
  case c2 => unfold maxLen; omega
  case c3 => exact Nat.le_refl _
  intro w2 hown hgr
  have hrow := Row.made hown
  have hb2 : Below w.heap.size w w2 := (Below.refl _ w).grown hgr (Nat.le_refl _) (fun k e => by cases e)
  clear hown hgr
  go_wp2
  go_loopw [13] (fun i wr => ∃ k : Nat, k ≤ os.length ∧ i = .int .i64 k ∧ Row wr w.heap.size w.heap.size xs.length (onlyTo xs os k) ∧ Below w.heap.size w wr) (fun i _ => os.length - (intOf i).toNat)
  case atStart => exact ⟨0, Nat.zero_le _, rfl, hrow, hb2⟩
  case round =>
    obtain ⟨k, hk, rfl, hrw, hb⟩ := hrel
    by_cases hlt : k < os.length
    · obtain ⟨q, o, rfl, hcell⟩ := hRo.below hb (Nat.le_refl _) k hlt
      obtain ⟨j, hj⟩ := Int.eq_ofNat_of_zero_le (asc_nonneg Ha.out hlt)
      have hjl : j < xs.length := by have := (asc_at Ha.out hlt).2; omega
      rw [hj] at hcell
      have Hset := Lib.hid (hrw.set j (nth xs j))
      have Hj : Hid (onlyTo xs os (k + 1) = (onlyTo xs os k).set j (nth xs j)) := by show _ = _; simp [onlyTo, hj]
      clear hj
      obtain ⟨q2, o2, rfl, hcell2⟩ := hR.below hb (Nat.le_refl _) j hjl
      have hc3 := hrw.cell hjl
      have hf3 := hrw.frozen j
      have hj1 : (j : Int) < (xs.length : Int) := by omega
      go_wp2
      go_roundw
      case rel => exact ⟨k + 1, by omega, by go_num, by rw [Hj.out]; exact Hset.out, hb.setCell (p := ⟨w.heap.size, j, none⟩) (Nat.le_refl _) _⟩
      case measure => simp [intOf]; omega
    · obtain rfl : k = os.length := by omega
      go_wp2
      go_ret
      exact ⟨_, rfl, hrw, hb⟩

set_option maxHeartbeats 400000 in
theorem some1_any (x last : Int) (a b : Addr) (p : Option Addr) (n c : Nat) (w : World) (_hn : n ≤ 9223372036854775807) (ha : w.cell? a = some (.int .i64 last)) (hf : w.frozen? a = false) (hb : w.cell? b = some (.slice p n c)) (hab : a.block ≠ b.block) :
    Calls Try.prog 65 #[.int .i64 x, .pointer (some a), .pointer (some b)] w fun e w' => e = .returned (.bool (decide (x ≤ last ∨ (n : Int) ≤ x))) ∧ w.setCell a (.int .i64 x) = w' := by
  have hb2 : (w.setCell a (.int .i64 x)).cell? b = some (.slice p n c) := by
    rw [World.cell?_of_block (w := w)]
    · exact hb
    · exact Below.heap_setCell _ _ _ _ (fun h => hab h.symm)
  by_cases h1 : x ≤ last
  · go_enter Try.func65, Try.ntmps65
    go_wp2
    go_ret
    exact ⟨by simp [h1], rfl⟩
  · go_enter Try.func65, Try.ntmps65
    go_wp2
    go_ret
    refine ⟨?_, rfl⟩
    simp; omega

set_option maxHeartbeats 1000000 in
theorem indexFunc_some (B : Nat) (a b : Addr) (w : World) (pw : Option Addr) (n cw : Nat) (hn : n ≤ 9223372036854775807) (ha : w.cell? a = some (.int .i64 (-1))) (hf : w.frozen? a = false) (hb : w.cell? b = some (.slice pw n cw)) (haB : B ≤ a.block) (hbB : b.block < B) (_hBs : B ≤ w.heap.size)
    (p : Option Addr) (os : List Int) (c : Nat) (hl : os.length ≤ 1000000000000000) (hc : ∀ k, k < os.length → ∃ q o, p = some ⟨q, o, none⟩ ∧ q < B ∧ w.cell? ⟨q, o + k, none⟩ = some (.int .i64 (nth os k))) :
    Calls Try.prog 67 #[.slice p os.length c, .func (.func 65) #[] #[.pointer (some a), .pointer (some b)]] w fun e w' =>
      (∃ m : Int, e = .returned (.int .i64 m) ∧ -1 ≤ m ∧ (decide (0 ≤ m) = !asc n os)) ∧ Below B w w' := by
  have Hc := Lib.hid hc
  clear hc
  go_enter Try.func67, Try.ntmps67
  go_wp2
  go_loopw [8] (fun i wr => ∃ k : Nat, k ≤ os.length ∧ i = .int .i64 k ∧ (∀ j, j < k → badO n os j = false) ∧ wr.cell? a = some (.int .i64 (prevO os k)) ∧ wr.frozen? a = false ∧ Below B w wr) (fun i _ => os.length - (intOf i).toNat)
  case atStart => exact ⟨0, Nat.zero_le _, rfl, fun i hi => by omega, by rw [ha]; rfl, hf, Below.refl _ _⟩
  case round =>
    obtain ⟨k, hk, rfl, hz, hca, hfa, hB⟩ := hrel
    have Hz := Lib.hid hz
    clear hz
    by_cases hlt : k < os.length
    · obtain ⟨q, o, rfl, hq, hcell⟩ := Hc.out k hlt
      have hcx := (hB.cell (p := ⟨q, o + k, none⟩) hq).trans hcell
      have hbx := (hB.cell (p := b) hbB).trans hb
      clear hcell
      go_wp2_with fail
      go_call (some1_any (nth os k) (prevO os k) a b pw n cw wr hn hca hfa hbx (by omega)) as e w' ⟨rfl, rfl⟩
      rw [show decide (nth os k ≤ prevO os k ∨ (n : Int) ≤ nth os k) = badO n os k from rfl]
      cases hbad : badO n os k with
      | false =>
        have Hbad := Lib.hid hbad
        clear hbad
        go_wp2
        go_roundw
        case rel => exact ⟨k + 1, by omega, by go_num, fun j hj => by
          by_cases e : j = k
          · subst e; exact Hbad.out
          · exact Hz.out j (by omega), by rw [prevO_succ]; exact World.cell?_setCell_same' _ _ _ (by rw [hca]; rfl), by rw [World.frozen?_setCell]; exact hfa, hB.setCell haB _⟩
        case measure => simp [intOf]; omega
      | true =>
        have Hbad := Lib.hid hbad
        clear hbad
        go_wp2
        go_ret
        exact ⟨⟨k, rfl, by omega, by rw [asc_false hlt Hbad.out]; simp⟩, hB.setCell haB _⟩
    · go_wp2
      go_ret
      exact ⟨⟨-1, rfl, by omega, by rw [asc_true (fun j hj => Hz.out j (by omega))]; rfl⟩, hB⟩

set_option maxHeartbeats 400000 in
theorem containsFunc_some (B : Nat) (a b : Addr) (w : World) (pw : Option Addr) (n cw : Nat) (hn : n ≤ 9223372036854775807) (ha : w.cell? a = some (.int .i64 (-1))) (hf : w.frozen? a = false) (hb : w.cell? b = some (.slice pw n cw)) (haB : B ≤ a.block) (hbB : b.block < B) (_hBs : B ≤ w.heap.size)
    (p : Option Addr) (os : List Int) (c : Nat) (hl : os.length ≤ 1000000000000000) (hc : ∀ k, k < os.length → ∃ q o, p = some ⟨q, o, none⟩ ∧ q < B ∧ w.cell? ⟨q, o + k, none⟩ = some (.int .i64 (nth os k))) :
    Calls Try.prog 49 #[.slice p os.length c, .func (.func 65) #[] #[.pointer (some a), .pointer (some b)]] w fun e w' =>
      e = .returned (.bool (!asc n os)) ∧ Below B w w' := by
  have Hc := Lib.hid hc
  clear hc
  go_enter Try.func49, Try.ntmps49
  go_wp2_with fail
  refine (indexFunc_some B a b w pw n cw hn ha hf hb haB hbB _hBs p os c hl Hc.out).mono ?_
  rintro e w' ⟨⟨m, rfl, hm, hq⟩, hB⟩
  have Hq := Lib.hid hq
  clear hq
  go_wp2
  go_ret
  exact ⟨by rw [← Hq.out]; rfl, hB⟩

/-- The error of a list and of some of its outcomes. -/
def chkS (xs os : List Int) : Int := if chk1 xs ≠ 0 then chk1 xs else if asc xs.length os = true then 0 else 2

set_option maxHeartbeats 1000000 in
theorem checkSome_any (p : Option Addr) (xs : List Int) (c : Nat) (po : Option Addr) (os : List Int) (co : Nat) (w : World) (hl : xs.length ≤ 1000000000000000) (hlo : os.length ≤ 1000000000000000) (hR : Reads w p xs) (hRo : Reads w po os) :
    Calls Try.prog 45 #[.slice p xs.length c, .slice po os.length co] w fun e w' => e = .returned (.int .i64 (chkS xs os)) ∧ Below w.heap.size w w' := by
  have hB0 : Below w.heap.size w ((w.alloc (.cells #[.slice p xs.length c] 34)).alloc (.cells #[.slice p xs.length c] 34)) := (below1 _ _).alloc (by simp) _
  by_cases h0 : chk1 xs = 0
  · obtain ⟨a1, a2, a3, a4⟩ := chk1_ok h0
    have Hs : Hid (chkS xs os = if asc xs.length os = true then 0 else 2) := by show _ = _; simp [chkS, h0]
    have He := Lib.hid h0
    clear h0
    go_enter Try.func45, Try.ntmps45
    go_wp2_with fail
    go_call (check1 p xs c (w.heap.size + 1) _ (by omega) (by go_simp) (hR.below hB0 (Nat.le_refl _))) as e w1 ⟨rfl, hb1⟩
    rw [He.out]
    have hB1 : Below w.heap.size w w1 := hB0.trans (hb1.mono (by simp; omega))
    have hcb : w1.cell? ⟨w.heap.size, 0, none⟩ = some (.slice p xs.length c) := (hb1.cell (p := ⟨w.heap.size, 0, none⟩) (by simp; omega)).trans (by go_simp)
    have hsz : w.heap.size < w1.heap.size := by have := hb1.size; simp at this; omega
    clear hb1
    have hal : (w1.alloc (.cells #[.int .i64 (-1)] 3)).cell? ⟨w1.heap.size, 0, none⟩ = some (.int .i64 (-1)) := by rw [World.cell?_alloc_at _ _ _ _ rfl]; rfl
    have hfl : (w1.alloc (.cells #[.int .i64 (-1)] 3)).frozen? ⟨w1.heap.size, 0, none⟩ = false := World.frozen?_alloc_at _ _ _ _ rfl
    have hbl : (w1.alloc (.cells #[.int .i64 (-1)] 3)).cell? ⟨w.heap.size, 0, none⟩ = some (.slice p xs.length c) := by rw [World.cell?_alloc_past _ _ _ hsz]; exact hcb
    go_wp2_with fail
    go_call (containsFunc_some w1.heap.size ⟨w1.heap.size, 0, none⟩ ⟨w.heap.size, 0, none⟩ _ p xs.length c (by omega) hal hfl hbl (Nat.le_refl _) hsz (by simp) po os co hlo (fun k hk => by
      obtain ⟨q, o, e, hq, h⟩ := (hRo.below hB1 (Nat.le_refl _)).lt k hk
      exact ⟨q, o, e, hq, by rw [World.cell?_alloc_past _ _ _ hq]; exact h⟩)) as e w2 ⟨rfl, hB2⟩
    have hBB : Below w.heap.size w w2 := hB1.trans ((Below.alloc (Below.refl _ _) (Nat.le_refl _) _ |>.trans hB2).mono hB1.size)
    cases has : asc xs.length os with
    | true =>
      have Ha := Lib.hid has
      clear has
      go_wp2
      go_ret
      exact ⟨ret_int (by rw [Hs.out, if_pos Ha.out]), hBB⟩
    | false =>
      have Ha := Lib.hid has
      clear has
      go_wp2
      go_ret
      exact ⟨ret_int (by rw [Hs.out, if_neg (by rw [Ha.out]; simp)]), hBB⟩
  · obtain ⟨x, hx⟩ : ∃ x, chk1 xs = x := ⟨_, rfl⟩
    have Hs : Hid (chkS xs os = x) := by show _ = _; simp only [chkS]; rw [if_pos h0, hx]
    rw [hx] at h0
    have hb : (x == 0) = false := by simpa using h0
    have hb' : (x != 0) = true := by simpa using h0
    have Hx := Lib.hid hx
    clear hx h0
    go_enter Try.func45, Try.ntmps45
    go_wp2_with fail
    go_call (check1 p xs c (w.heap.size + 1) _ (by omega) (by go_simp) (hR.below hB0 (Nat.le_refl _))) as e w1 ⟨rfl, hb1⟩
    rw [Hx.out]
    go_wp2
    go_ret
    exact ⟨ret_int Hs.out.symm, hB0.trans (hb1.mono (by simp; omega))⟩
end Go.Proofs.Ytnpnnfbmnlgioaa
