/-
  HexagramCovers: patterns in their order; how many elements a set has; one pattern's set.
-/
import Derived.Test.YtdfdgeaohneeaaaGreatDoorHxYc
import Derived.Test.YtdfdgeaohneeaaaGreatDoorHxYi
namespace Go.Proofs.YtdfdgeaohneeaaaGreatDoor
open Go Go.RowKit
set_option linter.unusedVariables false
set_option linter.unusedSimpArgs false

theorem less_trans : ∀ x y z : List UInt8, Op.bytesLess x y = true → Op.bytesLess y z = true → Op.bytesLess x z = true
  | _, [], _, h, _ => by
    rename_i x z
    cases x <;> simp [Op.bytesLess] at h
  | _, _ :: _, [], _, h => by simp [Op.bytesLess] at h
  | [], _ :: _, _ :: _, _, _ => rfl
  | a :: x, b :: y, c :: z, h1, h2 => by
    simp only [Op.bytesLess, Bool.or_eq_true, Bool.and_eq_true, decide_eq_true_eq, beq_iff_eq] at h1 h2 ⊢
    rcases h1 with h1 | ⟨rfl, h1⟩
    · rcases h2 with h2 | ⟨rfl, h2⟩
      · exact .inl (UInt8.lt_trans h1 h2)
      · exact .inl h1
    · rcases h2 with h2 | ⟨rfl, h2⟩
      · exact .inl h2
      · exact .inr ⟨rfl, less_trans x y z h1 h2⟩
theorem less_next : ∀ k, k < 728 → Op.bytesLess (patL k) (patL (k + 1)) = true := by decide +kernel
theorem less_up (k d : Nat) (h : k + d + 1 < 729) : Op.bytesLess (patL k) (patL (k + d + 1)) = true := by
  induction d with
  | zero => exact less_next k (by omega)
  | succ d ih => exact less_trans _ _ _ (ih (by omega)) (less_next (k + d + 1) (by omega))
theorem less_pat {k k' : Nat} (h : k < k') (h' : k' < 729) : Op.bytesLess (patS k).toList (patS k').toList = true := by
  obtain ⟨d, rfl⟩ : ∃ d, k' = k + d + 1 := ⟨k' - k - 1, by omega⟩
  rw [ByteArray.toList_eq, ByteArray.toList_eq]
  exact less_up k d h'
/-- The greatest patterns, by their numbers, in ascending order. -/
theorem great_at (set : Int) {i : Nat} (hi : i < (patternsL set).length) : ∃ k, k < 729 ∧ greatB set k = true ∧ nthS (patternsL set) i = patS k := by
  have hm := nthS_mem hi
  unfold patternsL greatL at hm
  obtain ⟨k, hk, e⟩ := List.mem_map.1 hm
  rw [List.mem_filter] at hk
  exact ⟨k, by have := hk.1; simpa [upto] using this, hk.2, e.symm⟩
theorem great_less (set : Int) {i : Nat} (hi : i + 1 < (patternsL set).length) : Op.bytesLess (nthS (patternsL set) i).toList (nthS (patternsL set) (i + 1)).toList = true := by
  have hp : ((upto id 729).filter (greatB set)).Pairwise (· < ·) := by
    refine List.Pairwise.filter _ ?_
    unfold upto
    rw [List.map_id]
    exact List.pairwise_lt_range
  have hl : (patternsL set).length = ((upto id 729).filter (greatB set)).length := by unfold patternsL greatL; rw [List.length_map]
  rw [List.pairwise_iff_getElem] at hp
  have h := hp i (i + 1) (by omega) (by omega) (by omega)
  rw [nthS_eq (by omega), nthS_eq hi]
  have e : ∀ j (hj : j < (patternsL set).length), (patternsL set)[j] = patS (((upto id 729).filter (greatB set))[j]'(by omega)) := fun j hj => by
    have h2 : (patternsL set)[j]? = some (patS (((upto id 729).filter (greatB set))[j]'(by omega))) := by
      unfold patternsL greatL
      rw [List.getElem?_map, List.getElem?_eq_getElem (by omega)]
      rfl
    rw [List.getElem?_eq_getElem hj] at h2
    exact Option.some.inj h2
  rw [e i (by omega), e (i + 1) hi]
  refine less_pat h ?_
  have := List.getElem_mem (l := (upto id 729).filter (greatB set)) (n := i + 1) (by omega)
  rw [List.mem_filter] at this
  have := this.1
  simpa [upto] using this
theorem or_zero {v : Int} {p : Nat → Bool} (h : IsSet v p) : bits BinOp.or IntKind.u64 0 v = v := (isSet_zero.or h).ext h fun i _ => by simp
theorem where_one {s : ByteArray} (h : noPat s = false) : whereE [s] = 0 ∧ whereV [s] = matchTo s 6 := by
  have e : whereE [s] = 0 := by unfold whereE; rw [if_neg (by simp)]; simp [h]
  refine ⟨e, ?_⟩
  unfold whereV
  rw [if_pos e]
  show bits BinOp.or IntKind.u64 0 (matchTo s 6) = _
  exact or_zero (isSet_match s 6 (Nat.le_refl _))
theorem where1_any (s : ByteArray) (hp : noPat s = false) (p : Option Addr) (c : Nat) (w : World) (hR : ReadsS w p [s]) (hf : Fst w) :
    Calls Tryz.prog 15 #[.slice p 1 c] w fun e w' => e = .returned (.tuple #[.int .u64 (matchTo s 6), .int .i64 0]) ∧ Below w.heap.size w w' := by
  have := where_any p [s] c w (by simp) (fun k hk => by
    obtain rfl : k = 0 := by simpa using hk
    show s.size ≤ _
    rw [pat_size hp]
    decide) hR hf
  rw [(where_one hp).1, (where_one hp).2] at this
  exact this
theorem readsS_one (w : World) (s : ByteArray) (g : Nat) (h : w.cell? ⟨g, 0, none⟩ = some (.string s)) : ReadsS w (some ⟨g, 0, none⟩) [s] := fun k hk => by
  obtain rfl : k = 0 := by simpa using hk
  exact ⟨g, 0, rfl, h⟩

set_option maxHeartbeats 1000000 in
theorem size_any (s : Nat) (hs : s < 2 ^ 64) (w : World) :
    Calls Tryz.prog 30 #[.int .u64 s] w fun e w' => e = .returned (.int .i64 (sizeV s : Nat)) ∧ w' = w := by
  have HSZ := Lib.hid (size_le s)
  have HZ := Lib.hid size_zero
  go_enter Tryz.func30, Tryz.ntmps30
  go_wp2
  go_loop [0, 3] (fun x i => ∃ v c : Nat, Hid (v < 2 ^ 64) ∧ x = .int .u64 v ∧ i = .int .i64 c ∧ Hid (c + sizeV v = sizeV s)) (fun x i => sizeV (intOf x).toNat)
  case atStart => exact ⟨s, 0, hs, rfl, rfl, by show 0 + _ = _; omega⟩
  case round =>
    obtain ⟨v, c, HV, rfl, rfl, HC⟩ := hrel
    have hc64 : c ≤ 64 := by have := HC.out; have := HSZ.out; omega
    by_cases h0 : v = 0
    · subst h0
      have HE := Lib.hid (show c = sizeV s by rw [← HC.out, HZ.out]; rfl)
      go_wp2
      go_ret
      exact ⟨by rw [← HE.out]; rfl, rfl⟩
    · have e1 : ((v : Int) == 0) = false := by simp; omega
      have e2 : ((v : Int) != 0) = true := by simp; omega
      have hv1 : 1 ≤ v := by omega
      have HN := Lib.hid (size_less h0 HV.out)
      have hv : v < 18446744073709551616 := HV.out
      have e3 : IntKind.u64.wrap ((v : Int) - 1) = ((v - 1 : Nat) : Int) := by
        rw [show (v : Int) - 1 = ((v - 1 : Nat) : Int) by omega]
        exact u64_wrap (by omega) (by omega)
      have e4 : bits BinOp.and IntKind.u64 (v : Int) ((v - 1 : Nat) : Int) = ((v &&& (v - 1) : Nat) : Int) := u64_and _ _ HV.out (by show _ < 18446744073709551616; omega)
      have HB := Lib.hid (show v &&& (v - 1) < 2 ^ 64 from Nat.lt_of_le_of_lt Nat.and_le_left HV.out)
      generalize v - 1 = v1 at e3 e4 HN HB
      generalize hx : v &&& v1 = x at e4 HN HB
      clear hx hv
      go_wp2
      go_round
      case rel => exact ⟨x, c + 1, HB, rfl, by go_num, by have := HC.out; have := HN.out; show c + 1 + sizeV x = sizeV s; omega⟩
      case measure => simp only [intOf, Int.toNat_natCast]; have := HN.out; omega
end Go.Proofs.YtdfdgeaohneeaaaGreatDoor
