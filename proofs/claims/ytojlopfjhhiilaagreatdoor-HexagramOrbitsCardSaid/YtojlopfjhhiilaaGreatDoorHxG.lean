/-
  Package hexagram: sets of patterns.
-/
import Derived.Test.YtojlopfjhhiilaaGreatDoorHxC
import Derived.Test.YtojlopfjhhiilaaGreatDoorShelf
import Derived.Shelf.Strings.SlTrimAscii
namespace Go.Proofs.YtojlopfjhhiilaaGreatDoor
open Go Go.RowKit
set_option linter.unusedVariables false

/-- For each line the set of the hexagrams in which it is firm. -/
def firmL : List Int := [12297829382473034410, 14757395258967641292, 17361641481138401520, 18374966859414961920, 18446462603027742720, 18446744069414584320]
def fullS : Int := 18446744073709551615
def Fst (w : World) : Prop := ∀ j, j < 6 → w.cell? ⟨1, j, none⟩ = some (.int .u64 (nth firmL j))
theorem Fst.below {w w' : World} (h : Fst w) {B : Nat} (hb : Below B w w') (hB : w.heap.size ≤ B) : Fst w' := fun j hj => by
  have h0 := h j hj
  have := World.block_lt_of_cell? w _ h0
  exact (hb.cell (p := ⟨1, j, none⟩) (by simp at this ⊢; omega)).trans h0
/-- The set of a pattern, by its first k lines. -/
def byteAt (s : ByteArray) (k : Nat) : Nat := (s.data.toList.getD k 0).toNat
def matchTo (s : ByteArray) : Nat → Int
  | 0 => fullS
  | k + 1 => if byteAt s k = 49 then bits BinOp.and IntKind.u64 (matchTo s k) (nth firmL k) else if byteAt s k = 48 then bits BinOp.andNot IntKind.u64 (matchTo s k) (nth firmL k) else matchTo s k

theorem byteAt_eq {s : ByteArray} {k : Nat} (h : k < s.size) : byteAt s k = s[k].toNat := by
  unfold byteAt
  rw [List.getD_eq_getElem?_getD, List.getElem?_eq_getElem (by simpa using h)]
  rfl
theorem matchTo_succ {s : ByteArray} {k : Nat} (h : k < s.size) : matchTo s (k + 1) = if ((s[k].toNat : Int) == 49) = true then bits BinOp.and IntKind.u64 (matchTo s k) (nth firmL k) else if ((s[k].toNat : Int) == 48) = true then bits BinOp.andNot IntKind.u64 (matchTo s k) (nth firmL k) else matchTo s k := by
  have e1 : (((s[k].toNat : Int) == 49) = true) = (s[k].toNat = 49) := by simp; omega
  have e2 : (((s[k].toNat : Int) == 48) = true) = (s[k].toNat = 48) := by simp; omega
  rw [matchTo, byteAt_eq h]
  simp only [e1, e2]

set_option maxHeartbeats 1000000 in
theorem matching_any (s : ByteArray) (hs : s.size = 6) (w : World) (hf : Fst w) :
    Calls Tryz.prog 48 #[.string s] w fun e w' => e = .returned (.int .u64 (matchTo s 6)) ∧ w = w' := by
  have HS := Lib.hid hs
  have h6 : 6 ≤ s.size := by omega
  have h7 : s.size ≤ 6 := by omega
  clear hs
  go_enter Tryz.func48, Tryz.ntmps48
  go_wp2
  go_loop [3, 5] (fun v i => ∃ k : Nat, k ≤ 6 ∧ i = .int .i64 k ∧ v = .int .u64 (matchTo s k)) (fun _ i => 6 - (intOf i).toNat)
  case atStart => exact ⟨0, by omega, rfl, rfl⟩
  case round =>
    obtain ⟨k, hk, rfl, rfl⟩ := hrel
    by_cases hlt : k < 6
    · have hc := hf k hlt
      go_wp2_with fail
      all_goals
        refine ⟨⟨k + 1, by omega, by go_num, ?_⟩, by simp [intOf]; omega⟩
        rw [matchTo_succ (by omega : k < s.size)]
        first
          | rw [if_pos (by assumption)]
          | rw [if_neg (by simp [*]; done), if_pos (by assumption)]
          | rw [if_neg (by simp [*]; done), if_neg (by simp [*]; done)]
    · obtain rfl : k = 6 := by omega
      go_wp2
      go_ret
      exact ⟨rfl, rfl⟩

/-- The signs of patterns. -/
def cutL : List UInt8 := [48, 49, 63]
def cutB : ByteArray := ⟨#[48, 49, 63]⟩
/-- A text that is no pattern. -/
def noPat (s : ByteArray) : Bool := s.size != 6 || !(s.data.toList.all fun b => cutL.contains b)
theorem dropWhile_nil {α : Type} (p : α → Bool) (l : List α) : (l.dropWhile p).isEmpty = l.all p := by
  induction l with
  | nil => rfl
  | cons a l ih =>
    by_cases h : p a = true
    · simp [List.dropWhile, h, ih]
    · simp [List.dropWhile, h]
theorem all_rev {α : Type} (p : α → Bool) (l : List α) : l.reverse.all p = l.all p := by simp
theorem drop_last {α : Type} (p : α → Bool) (l : List α) (h : (l.reverse.dropWhile p).reverse.all p = true) : l.all p = true := by
  rw [all_rev] at h
  have h2 : (l.reverse.dropWhile p).isEmpty = true := by
    generalize hm : l.reverse = m at h
    clear hm
    induction m with
    | nil => rfl
    | cons a m ih =>
      by_cases ha : p a = true
      · simp only [List.dropWhile, ha] at h ⊢
        exact ih h
      · simp [List.dropWhile, ha] at h
  rw [dropWhile_nil, all_rev] at h2
  exact h2
theorem trim_nil (l : List UInt8) : (Lib.trimS l cutL).isEmpty = l.all fun b => cutL.contains b := by
  unfold Lib.trimS Lib.trimLeftS Lib.trimRightS
  rw [dropWhile_nil]
  cases ha : l.all fun b => cutL.contains b
  · cases hb : ((l.reverse.dropWhile fun b => cutL.contains b).reverse).all fun b => cutL.contains b
    · rfl
    · have := drop_last _ l hb
      rw [this] at ha
      cases ha
  · have : (l.reverse.dropWhile fun b => cutL.contains b).isEmpty = true := by rw [dropWhile_nil, all_rev]; exact ha
    rw [List.isEmpty_iff] at this
    rw [this]
    rfl
theorem trim_any (s : ByteArray) (w : World) (hs : s.size ≤ 9223372036854775807) :
    Calls Tryz.prog 77 #[.string s, .string cutB] w fun e w' => e = .returned (.string ⟨(Lib.trimS s.data.toList cutL).toArray⟩) ∧ Below w.heap.size w w' :=
  Any.strings_Trim_laid Tryz.lays160 (by kernel_rfl) s cutB w hs (by decide) (ascii_of_all (by decide))

set_option maxHeartbeats 1000000 in
theorem noPattern_any (s : ByteArray) (w : World) (hs : s.size ≤ 9223372036854775807) :
    Calls Tryz.prog 47 #[.string s] w fun e w' => e = .returned (.bool (noPat s)) ∧ Below w.heap.size w w' := by
  by_cases h6 : s.size = 6
  · have HT := Lib.hid (trim_any s w hs)
    have hq : (s.size != 6) = false := by simp [h6]
    have E := Lib.hid (show noPat s = !(s.data.toList.all fun b => cutL.contains b) by unfold noPat; rw [hq]; rfl)
    have hz : ((s.size : Int) != 6) = false := by simp; omega
    have hz2 : ((s.size : Int) == 6) = true := by simp; omega
    have hz3 : decide ((s.size : Int) = 6) = true := by simp; omega
    have HN := Lib.hid (trim_nil s.data.toList)
    clear h6 hq
    cases ha : s.data.toList.all fun b => cutL.contains b
    all_goals
      rw [ha] at E HN
    · have e1 : (⟨(Lib.trimS s.data.toList cutL).toArray⟩ : ByteArray).toList.isEmpty = false := by rw [ByteArray.toList_eq]; exact HN.out
      have e2 : (⟨(Lib.trimS s.data.toList cutL).toArray⟩ : ByteArray).toList ≠ [] := by rw [ne_eq, ← List.isEmpty_iff, e1]; simp
      have e3 : ((⟨(Lib.trimS s.data.toList cutL).toArray⟩ : ByteArray).toList != []) = true := by simpa using e2
      have e4 : ((⟨(Lib.trimS s.data.toList cutL).toArray⟩ : ByteArray).toList == []) = false := by simpa using e2
      generalize (⟨(Lib.trimS s.data.toList cutL).toArray⟩ : ByteArray) = t at HT e1 e2 e3 e4
      clear HN ha
      rw [E.out]
      clear E
      go_enter Tryz.func47, Tryz.ntmps47
      go_wp2_with fail
      refine HT.out.mono ?_
      rintro e w1 ⟨rfl, hb1⟩
      go_wp2
      go_ret
      exact ⟨rfl, hb1⟩
    · have e2 : (⟨(Lib.trimS s.data.toList cutL).toArray⟩ : ByteArray).toList = [] := by rw [ByteArray.toList_eq]; exact List.isEmpty_iff.1 HN.out
      generalize (⟨(Lib.trimS s.data.toList cutL).toArray⟩ : ByteArray) = t at HT e2
      clear HN ha
      rw [E.out]
      clear E
      go_enter Tryz.func47, Tryz.ntmps47
      go_wp2_with fail
      refine HT.out.mono ?_
      rintro e w1 ⟨rfl, hb1⟩
      go_wp2
      go_ret
      exact ⟨rfl, hb1⟩
  · have E := Lib.hid (show noPat s = true by unfold noPat; simp [h6])
    have hz : ((s.size : Int) != 6) = true := by simp; omega
    have hz2 : ((s.size : Int) == 6) = false := by simp; omega
    have hz3 : decide ((s.size : Int) = 6) = false := by simp; omega
    clear h6
    go_enter Tryz.func47, Tryz.ntmps47
    go_wp2
    go_ret
    exact ⟨by rw [E.out]; rfl, Below.refl _ _⟩

/-- The string k of a list. -/
def nthS (ss : List ByteArray) (k : Nat) : ByteArray := ss.getD k ⟨#[]⟩
theorem nthS_eq {ss : List ByteArray} {k : Nat} (h : k < ss.length) : nthS ss k = ss[k] := by simp [nthS, h]
theorem nthS_mem {ss : List ByteArray} {k : Nat} (h : k < ss.length) : nthS ss k ∈ ss := by rw [nthS_eq h]; exact List.getElem_mem _
theorem takeS_succ {ss : List ByteArray} {k : Nat} (h : k < ss.length) : ss.take (k + 1) = ss.take k ++ [nthS ss k] := by
  rw [nthS_eq h, List.take_succ_eq_append_getElem h]
/-- A slice that begins at p reads as the strings ss. -/
def ReadsS (w : World) (p : Option Addr) (ss : List ByteArray) : Prop :=
  ∀ k, k < ss.length → ∃ q o, p = some ⟨q, o, none⟩ ∧ w.cell? ⟨q, o + k, none⟩ = some (.string (nthS ss k))
theorem ReadsS.below {w w' : World} {p : Option Addr} {ss : List ByteArray} (h : ReadsS w p ss) {B : Nat} (hb : Below B w w') (hB : w.heap.size ≤ B) : ReadsS w' p ss := fun k hk => by
  obtain ⟨q, o, rfl, hc⟩ := h k hk
  have := World.block_lt_of_cell? w _ hc
  exact ⟨q, o, rfl, (hb.cell (p := ⟨q, o + k, none⟩) (by simp at this ⊢; omega)).trans hc⟩
def SizeS (ss : List ByteArray) : Prop := ∀ k, k < ss.length → (nthS ss k).size ≤ 9223372036854775807
theorem anyS_false {ss : List ByteArray} (h : ∀ k, k < ss.length → noPat (nthS ss k) = false) : ss.any noPat = false := by
  rw [List.any_eq_false]
  intro x hx
  obtain ⟨i, hi, rfl⟩ := List.getElem_of_mem hx
  have := h i hi
  rw [nthS_eq hi] at this
  simp [this]
set_option maxHeartbeats 1000000 in
theorem indexPat_any (p : Option Addr) (ss : List ByteArray) (c : Nat) (w : World) (hl : ss.length ≤ 1000000) (hz : SizeS ss) (hR : ReadsS w p ss) :
    Calls Tryz.prog 76 #[.slice p ss.length c, .func (.func 47) #[] #[]] w fun e w' => (∃ n : Int, e = .returned (.int .i64 n) ∧ -1 ≤ n ∧ (decide (0 ≤ n) = ss.any noPat)) ∧ Below w.heap.size w w' := by
  have Hz := Lib.hid hz
  clear hz
  go_enter Tryz.func76, Tryz.ntmps76
  go_wp2
  go_loopw [8] (fun i wr => ∃ k : Nat, k ≤ ss.length ∧ i = .int .i64 k ∧ Hid (∀ j, j < k → noPat (nthS ss j) = false) ∧ Below w.heap.size w wr) (fun i _ => ss.length - (intOf i).toNat)
  case atStart => exact ⟨0, by omega, rfl, fun j hj => by omega, Below.refl _ _⟩
  case round =>
    obtain ⟨k, hk, rfl, HN, hB⟩ := hrel
    by_cases hlt : k < ss.length
    · obtain ⟨q, o, rfl, hcell⟩ := hR.below hB (Nat.le_refl _) k hlt
      have hC := noPattern_any (nthS ss k) wr (Hz.out k hlt)
      cases hq : noPat (nthS ss k)
      · rw [hq] at hC
        have HC := Lib.hid hC
        have HQ := Lib.hid hq
        clear hC hq
        go_wp2_with fail
        refine HC.out.mono ?_
        rintro e w1 ⟨rfl, hb1⟩
        have hB1 := tr hB hb1
        clear hb1
        go_wp2
        go_roundw
        case rel => exact ⟨k + 1, by omega, by go_num, fun j hj => by
          by_cases e : j = k
          · subst e; exact HQ.out
          · exact HN.out j (by omega), hB1⟩
        case measure => simp [intOf]; omega
      · rw [hq] at hC
        have HC := Lib.hid hC
        have HQ := Lib.hid (show ss.any noPat = true by rw [List.any_eq_true]; exact ⟨_, nthS_mem hlt, hq⟩)
        clear hC hq
        go_wp2_with fail
        refine HC.out.mono ?_
        rintro e w1 ⟨rfl, hb1⟩
        go_wp2
        go_ret
        exact ⟨⟨k, rfl, by omega, by rw [HQ.out]; simp⟩, tr hB hb1⟩
    · obtain rfl : k = ss.length := by omega
      have HQ := Lib.hid (anyS_false HN.out)
      go_wp2
      go_ret
      exact ⟨⟨-1, rfl, by omega, by rw [HQ.out]; rfl⟩, hB⟩
set_option maxHeartbeats 1000000 in
theorem containsPat_any (p : Option Addr) (ss : List ByteArray) (c : Nat) (w : World) (hl : ss.length ≤ 1000000) (hz : SizeS ss) (hR : ReadsS w p ss) :
    Calls Tryz.prog 46 #[.slice p ss.length c, .func (.func 47) #[] #[]] w fun e w' => e = .returned (.bool (ss.any noPat)) ∧ Below w.heap.size w w' := by
  go_enter Tryz.func46, Tryz.ntmps46
  go_wp2_with fail
  refine (indexPat_any p ss c w hl hz hR).mono ?_
  rintro e w' ⟨⟨n, rfl, hn, hq⟩, hb⟩
  have Hq := Lib.hid hq
  clear hq
  go_wp2
  go_ret
  exact ⟨by rw [← Hq.out]; rfl, hb⟩

/-- The union of the sets of patterns. -/
def whereTo (ss : List ByteArray) : Int := ss.foldl (fun v s => bits BinOp.or IntKind.u64 v (matchTo s 6)) 0
theorem whereTo_snoc (ss : List ByteArray) (s : ByteArray) : whereTo (ss ++ [s]) = bits BinOp.or IntKind.u64 (whereTo ss) (matchTo s 6) := by simp [whereTo]
def whereE (ss : List ByteArray) : Int := if 40 < ss.length then 5 else if ss.any noPat = true then 4 else 0
def whereV (ss : List ByteArray) : Int := if whereE ss = 0 then whereTo ss else 0
theorem pat_size {s : ByteArray} (h : noPat s = false) : s.size = 6 := by
  unfold noPat at h
  rw [Bool.or_eq_false_iff] at h
  simpa using h.1
set_option maxHeartbeats 1000000 in
theorem where_any (p : Option Addr) (ss : List ByteArray) (c : Nat) (w : World) (hl : ss.length ≤ 9223372036854775807) (hz : SizeS ss) (hR : ReadsS w p ss) (hf : Fst w) :
    Calls Tryz.prog 26 #[.slice p ss.length c] w fun e w' => e = .returned (.tuple #[.int .u64 (whereV ss), .int .i64 (whereE ss)]) ∧ Below w.heap.size w w' := by
  by_cases h40 : 40 < ss.length
  · have E := Lib.hid (show whereE ss = 5 by unfold whereE; rw [if_pos h40])
    have E2 := Lib.hid (show whereV ss = 0 by unfold whereV; rw [E.out, if_neg (by omega)])
    go_enter Tryz.func26, Tryz.ntmps26
    go_wp2
    go_ret2
    exact ⟨by rw [E.out, E2.out]; rfl, Below.refl _ _⟩
  · have HC := Lib.hid (containsPat_any p ss c w (by omega) hz hR)
    cases ha : ss.any noPat
    · have E := Lib.hid (show whereE ss = 0 by unfold whereE; rw [if_neg h40, ha]; rfl)
      have E2 := Lib.hid (show whereV ss = whereTo ss by unfold whereV; rw [E.out]; rfl)
      have HA : ∀ k, k < ss.length → noPat (nthS ss k) = false := fun k hk => by
        rw [List.any_eq_false] at ha
        have := ha _ (nthS_mem hk)
        simpa using this
      rw [ha] at HC
      have HA := Lib.hid HA
      clear ha
      rename_i HA0
      clear HA0
      go_enter Tryz.func26, Tryz.ntmps26
      go_wp2_with fail
      refine HC.out.mono ?_
      rintro e w1 ⟨rfl, hb1⟩
      go_wp2
      go_loop [4, 14] (fun v i => ∃ k : Nat, k ≤ ss.length ∧ i = .int .i64 k ∧ v = .int .u64 (whereTo (ss.take k))) (fun _ i => ss.length - (intOf i).toNat)
      case atStart => exact ⟨0, by omega, rfl, rfl⟩
      case round =>
        obtain ⟨k, hk, rfl, rfl⟩ := hrel
        by_cases hlt : k < ss.length
        · obtain ⟨q, o, rfl, hcell⟩ := hR.below hb1 (Nat.le_refl _) k hlt
          have E3 := Lib.hid (show whereTo (ss.take (k + 1)) = _ by rw [takeS_succ hlt, whereTo_snoc])
          go_wp2_with fail
          refine (matching_any (nthS ss k) (pat_size (HA.out k hlt)) _ (hf.below hb1 (Nat.le_refl _))).mono ?_
          rintro e w' ⟨rfl, rfl⟩
          go_wp2
          go_round
          case rel => exact ⟨k + 1, by omega, by go_num, by rw [E3.out]⟩
          case measure => simp [intOf]; omega
        · obtain rfl : k = ss.length := by omega
          go_wp2
          go_ret2
          exact ⟨by rw [E.out, E2.out]; rfl, hb1⟩
    · have E := Lib.hid (show whereE ss = 4 by unfold whereE; rw [if_neg h40, ha]; rfl)
      have E2 := Lib.hid (show whereV ss = 0 by unfold whereV; rw [E.out, if_neg (by omega)])
      rw [ha] at HC
      clear ha
      go_enter Tryz.func26, Tryz.ntmps26
      go_wp2_with fail
      refine HC.out.mono ?_
      rintro e w1 ⟨rfl, hb1⟩
      go_wp2
      go_ret2
      exact ⟨by rw [E.out, E2.out]; rfl, hb1⟩
end Go.Proofs.YtojlopfjhhiilaaGreatDoor
