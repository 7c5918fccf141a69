/-
  The reference of chapter 4: the patterns of a set.
-/
import Derived.Test.YtdfdgeaohneeaaaGreatDoorHxYg
import Derived.Test.YtdfdgeaohneeaaaGreatDoorHxV
import Derived.Laws.Concat
namespace Go.Proofs.YtdfdgeaohneeaaaGreatDoor
open Go Go.RowKit
set_option linter.unusedVariables false
set_option linter.unusedSimpArgs false

/-- The last signs of a pattern. -/
def tailS (k i : Nat) : ByteArray := ⟨((patL k).drop (6 - i)).toArray⟩
theorem tailS_zero (k : Nat) : tailS k 0 = ⟨#[]⟩ := by
  unfold tailS
  rw [List.drop_eq_nil_of_le (by rw [patL_length]; omega)]
theorem tailS_six (k : Nat) : tailS k 6 = patS k := rfl
theorem tailS_succ (k i : Nat) (hi : i < 6) : (⟨#[signU (k / 3 ^ i % 3)]⟩ : ByteArray) ++ tailS k i = tailS k (i + 1) := by
  unfold tailS
  apply ByteArray.ext
  rw [ByteArray.data_append]
  have e : (patL k).drop (6 - (i + 1)) = signU (k / 3 ^ i % 3) :: (patL k).drop (6 - i) := by
    have h : 6 - (i + 1) < (patL k).length := by rw [patL_length]; omega
    rw [List.drop_eq_getElem_cons h, show 6 - (i + 1) + 1 = 6 - i by omega]
    congr 1
    have h2 : (patL k)[6 - (i + 1)]? = some (signU (k / 3 ^ i % 3)) := by
      unfold patL
      rw [List.getElem?_map, List.getElem?_range (by omega)]
      simp only [Option.map_some]
      rw [show 5 - (6 - (i + 1)) = i by omega]
    rw [List.getElem?_eq_getElem h] at h2
    exact Option.some.inj h2
  rw [e]
  simp
theorem noPat_pat (k : Nat) : noPat (patS k) = false := by
  rw [noPat_no fun j hj => ?_]
  · rw [patS_size]; rfl
  · rw [patS_size] at hj
    rw [byte_pat k hj, sign_nat]
    split
    · rfl
    · split <;> rfl
theorem tailS_size (k i : Nat) (hi : i ≤ 6) : (tailS k i).size = i := by
  unfold tailS
  simp only [ByteArray.size, List.size_toArray, List.length_drop, patL_length]
  omega
theorem one_string (V : World) (d : UInt8) (v : Int) (hv : v = (d.toNat : Int)) : (convert 91 9 (.slice (some ⟨V.heap.size, 0, none⟩) 1 1)).run Tryz.prog (V.alloc (.cells #[.int .u8 v] 5)) = .ok (.string ⟨#[d]⟩) (V.alloc (.cells #[.int .u8 v] 5)) := by
  have := run_convert_bytes_back (P := Tryz.prog) (V.alloc (.cells #[.int .u8 v] 5)) 91 9 5 ⟨V.heap.size, 0, none⟩ 1 [d] Tryz.underlying91 Tryz.underlying5 Tryz.underlying9 (fun j hj => by
    obtain rfl : j = 0 := by simpa using hj
    rw [Go.WideShapes.add_plain, Nat.zero_add, (Blk.new V 5 #[.int .u8 v]).cell 0, hv]
    rfl)
  exact this
/-- A pattern with a sign exchanged for '?'. -/
def openS (s : ByteArray) (i : Nat) : ByteArray := s.extract 0 i ++ ⟨#[63]⟩ ++ s.extract (i + 1) s.size
theorem openS_at (s : ByteArray) (hs : s.size = 6) {i : Nat} (hi : i < 6) : OpenAt s (openS s i) i := by
  have hl : s.data.toList.length = 6 := by simpa using hs
  have e : (openS s i).data.toList = s.data.toList.take i ++ [63] ++ (s.data.toList.drop (i + 1)) := by
    unfold openS
    rw [ByteArray.data_append, ByteArray.data_append, ByteArray.data_extract, ByteArray.data_extract]
    simp [hs]
    rw [List.take_of_length_le (by simp; omega)]
  unfold OpenAt byteAt
  rw [e]
  constructor
  · rw [List.getD_eq_getElem?_getD, List.append_assoc, List.getElem?_append_right (by simp; omega)]
    simp [hl, show min i 6 = i by omega]
  · intro j hj hne
    rw [List.getD_eq_getElem?_getD, List.getD_eq_getElem?_getD]
    congr 2
    rw [List.append_assoc]
    by_cases h1 : j < i
    · rw [List.getElem?_append_left (by simp; omega), List.getElem?_take_of_lt h1]
    · rw [List.getElem?_append_right (by simp; omega)]
      simp only [List.length_take, hl, show min i 6 = i by omega]
      rw [List.getElem?_append_right (by simp; omega)]
      simp only [List.length_cons, List.length_nil, List.getElem?_drop]
      congr 1
      omega
theorem openS_size (s : ByteArray) (hs : s.size = 6) {i : Nat} (hi : i < 6) : (openS s i).size = 6 := by
  unfold openS
  rw [ByteArray.size_append, ByteArray.size_append, ByteArray.size_extract, ByteArray.size_extract, hs]
  simp [ByteArray.size]
  omega
theorem openS_pat {k i : Nat} (hi : i < 6) : noPat (openS (patS k) i) = false := by
  rw [noPat_no fun j hj => ?_, openS_size _ (patS_size k) hi]
  · rfl
  · rw [openS_size _ (patS_size k) hi] at hj
    obtain ⟨o1, o2⟩ := openS_at (patS k) (patS_size k) hi
    by_cases e : j = i
    · subst e; rw [o1]; rfl
    · rw [o2 j hj e]
      exact pat_byte (noPat_pat k) hj
theorem none_ownsS (w : World) : (w.alloc (.cells #[] 9)).ownsRow w.heap.size 9 1 (.slice (some ⟨w.heap.size, 0, none⟩) 0 0) 0 [] :=
  ⟨rfl, Or.inr ⟨w.heap.size, 0, #[], rfl, Nat.le_refl _, heap_alloc_new w _, Nat.le_refl _, by simp [maxLen], rfl, rfl⟩⟩
/-- Whether one of the first places may be any. -/
def grTo (k : Nat) (set : Int) (i : Nat) : Bool := (List.range i).any (growB (patS k) (matchTo (patS k) 6) set)
theorem grTo_succ (k : Nat) (set : Int) (i : Nat) : grTo k set (i + 1) = (grTo k set i || growB (patS k) (matchTo (patS k) 6) set i) := by simp [grTo, List.range_succ]
theorem grTo_great {k : Nat} {set : Int} (h : withinB (matchTo (patS k) 6) set = true) : greatB set k = !grTo k set 6 := by
  unfold greatB
  rw [h]
  rfl

theorem slice_to (s : ByteArray) (k : Nat) (h : k ≤ s.size) (w : World) : (Instr.slice 9 (.string s) none (some (.int .i64 (k : Int))) none).run Tryz.prog w = .ok (.string (s.extract 0 k)) w := by
  have h2 : (k : Int) ≤ (s.size : Int) := by omega
  simp [Instr.slice, Instr.sliceBounds, Instr.sliceBound, asIntOf, run_underlying Tryz.underlying9, h2, h]
theorem slice_from (s : ByteArray) (k : Nat) (h : k + 1 ≤ s.size) (w : World) : (Instr.slice 9 (.string s) (some (.int .i64 ((k : Int) + 1))) none none).run Tryz.prog w = .ok (.string (s.extract (k + 1) s.size)) w := by
  have h2 : ((k : Int) + 1) ≤ (s.size : Int) := by omega
  have h3 : (0 : Int) ≤ (k : Int) + 1 := by omega
  have h4 : ((k : Int) + 1).toNat = k + 1 := by omega
  simp [Instr.slice, Instr.sliceBounds, Instr.sliceBound, asIntOf, run_underlying Tryz.underlying9, h2, h, h3, h4]

set_option maxRecDepth 100000 in
set_option maxHeartbeats 4000000 in
theorem refPatterns_any (set : Nat) (hset : set < 2 ^ 64) (w : World) :
    Calls Tryz.prog 18 #[.int .u64 set] w fun e w' => (∃ q c, e = .returned (.slice q (patternsL set).length c) ∧ ReadsS w' q (patternsL set)) ∧ Below w.heap.size w w' := by
  obtain ⟨i0, hi, hz0, hz1, hz2⟩ := info_parts info_str
  have HQ := Lib.hid (isSet_nat hset)
  obtain ⟨Z, hZ⟩ : ∃ Z, (set : Int) = Z := ⟨_, rfl⟩
  rw [hZ] at HQ ⊢
  clear hZ
  obtain ⟨G, hG⟩ : ∃ G : Nat → List ByteArray, G = fun n => greatL Z (upto id n) := ⟨_, rfl⟩
  have G0 := Lib.hid (show G 0 = [] by rw [hG]; rfl)
  have G1 := Lib.hid (show ∀ n, greatB Z n = true → G (n + 1) = G n ++ [patS n] from fun n h => by rw [hG]; show greatL Z (upto id (n + 1)) = _; rw [upto_succ]; exact greatL_yes h)
  have G2 := Lib.hid (show ∀ n, greatB Z n = false → G (n + 1) = G n from fun n h => by rw [hG]; show greatL Z (upto id (n + 1)) = _; rw [upto_succ]; exact greatL_no h)
  have G3 := Lib.hid (show G 729 = patternsL Z by rw [hG]; rfl)
  have G4 := Lib.hid (show ∀ n, (G n).length ≤ n from fun n => by rw [hG]; have := greatL_len Z (upto id n); rw [upto_length] at this; exact this)
  clear hG
  go_enter Tryz.func18, Tryz.ntmps18
  go_wp2
  go_loopw [3, 4] (fun v i wr => ∃ n : Nat, n ≤ 729 ∧ i = .int .i64 n ∧ wr.ownsRow w.heap.size 9 1 v (G n).length ((G n).map Value.string) ∧ Below w.heap.size w wr) (fun _ i _ => 729 - (intOf i).toNat)
  case atStart => exact ⟨0, by omega, rfl, by rw [G0.out]; exact none_ownsS w, below1 _ _⟩
  case round =>
    obtain ⟨n, hn, rfl, hown, hB⟩ := hrel
    have hg729 := G4.out n
    obtain ⟨q, c, rfl, hrd⟩ := readsS_of_owns hown
    have HO := Lib.hid hown
    clear hown hrd
    by_cases hlt : n < 729
    · have hd : decide ((n : Int) < 729) = true := by simp; omega
      have hd2 : (n : Int) < 729 := by omega
      go_wp2
      clear hd hd2
      go_loopw [5, 6, 7] (fun s m i wz => ∃ j : Nat, j ≤ 6 ∧ i = .int .i64 j ∧ s = .string (tailS n j) ∧ m = .int .i64 ((n / 3 ^ j : Nat) : Int) ∧ Below wr.heap.size wr wz) (fun _ _ i _ => 6 - (intOf i).toNat)
      case atStart => exact ⟨0, by omega, rfl, by rw [tailS_zero], by simp, Below.refl _ _⟩
      case round =>
        obtain ⟨wo, hwo⟩ : ∃ wo : World, wo = wr := ⟨_, rfl⟩
        obtain ⟨j, hj, rfl, rfl, rfl, hBj⟩ := hrel
        by_cases hj6 : j < 6
        · obtain ⟨m, hm⟩ : ∃ m, n / 3 ^ j = m := ⟨_, rfl⟩
          have HM2 := Lib.hid (show n / 3 ^ (j + 1) = m / 3 by rw [← hm, Nat.div_div_eq_div_mul]; rfl)
          have HT := Lib.hid (tailS_succ n j hj6)
          have hm7 : m ≤ 729 := by rw [← hm]; exact Nat.le_trans (Nat.div_le_self _ _) hn
          have hsz := tailS_size n j hj
          rw [hm] at HT ⊢
          clear hm hwo
          generalize tailS n j = tj at HT hsz ⊢
          rcases (show m % 3 = 0 ∨ m % 3 = 1 ∨ m % 3 = 2 by omega) with hd | hd | hd
          · have hd2 : (m : Int) % 3 = 0 := by omega
            have hcv := one_string wr 48 48 rfl
            have hix : ((⟨#[48, 49, 63]⟩ : ByteArray)[0]'(by decide)).toNat = 48 := rfl
            rw [hd] at HT
            have HT2 := Lib.hid (show (⟨#[48]⟩ : ByteArray) ++ tj = tailS n (j + 1) from HT.out)
            clear hd HT
            go_wp2
            go_roundw
            case rel => exact ⟨j + 1, by omega, by go_num, by rw [HT2.out], by rw [HM2.out]; go_num, hBj.alloc hBj.size _⟩
            case measure => simp [intOf]; omega
          · have hd2 : (m : Int) % 3 = 1 := by omega
            have hcv := one_string wr 49 49 rfl
            have hix : ((⟨#[48, 49, 63]⟩ : ByteArray)[1]'(by decide)).toNat = 49 := rfl
            rw [hd] at HT
            have HT2 := Lib.hid (show (⟨#[49]⟩ : ByteArray) ++ tj = tailS n (j + 1) from HT.out)
            clear hd HT
            go_wp2
            go_roundw
            case rel => exact ⟨j + 1, by omega, by go_num, by rw [HT2.out], by rw [HM2.out]; go_num, hBj.alloc hBj.size _⟩
            case measure => simp [intOf]; omega
          · have hd2 : (m : Int) % 3 = 2 := by omega
            have hcv := one_string wr 63 63 rfl
            have hix : ((⟨#[48, 49, 63]⟩ : ByteArray)[2]'(by decide)).toNat = 63 := rfl
            rw [hd] at HT
            have HT2 := Lib.hid (show (⟨#[63]⟩ : ByteArray) ++ tj = tailS n (j + 1) from HT.out)
            clear hd HT
            go_wp2
            go_roundw
            case rel => exact ⟨j + 1, by omega, by go_num, by rw [HT2.out], by rw [HM2.out]; go_num, hBj.alloc hBj.size _⟩
            case measure => simp [intOf]; omega
        · obtain rfl : j = 6 := by omega
          rw [tailS_six]
          clear hwo
          obtain ⟨mm, hmm⟩ : ∃ mm : Int, ((n / 3 ^ 6 : Nat) : Int) = mm := ⟨_, rfl⟩
          rw [hmm, show ((6 : Nat) : Int) = 6 from rfl]
          clear hmm
          have HOw := Lib.hid (owns_below HO.out hBj)
          have hBw := tr hB hBj
          have C := Lib.hid (refMatches_any (patS n) (noPat_pat n))
          have HG := Lib.hid (grTo_succ n Z)
          have HGG := Lib.hid (fun h => grTo_great (k := n) (set := Z) h)
          have HG0 := Lib.hid (show grTo n Z 0 = false from rfl)
          have HWID := Lib.hid (fun hw i hi => wid_grow HQ.out hlt hw (op := openS (patS n)) (fun i hi => openS_at (patS n) (patS_size n) hi) (i := i) hi)
          have HM := Lib.hid (fun i (hi : i < 6) => refMatches_any (openS (patS n) i) (openS_pat hi))
          have HGN := Lib.hid (show withinB (matchTo (patS n) 6) Z = false → greatB Z n = false from fun h => by unfold greatB; rw [h]; rfl)
          unfold widB at HWID
          obtain ⟨M, hM⟩ : ∃ M, matchTo (patS n) 6 = M := ⟨_, rfl⟩
          rw [hM] at C HG HGG HWID HGN
          clear hM
          have hsz : (patS n).size = 6 := patS_size n
          obtain ⟨s, hs⟩ : ∃ s, patS n = s := ⟨_, rfl⟩
          have HS := Lib.hid hs
          rw [hs] at C HG HWID HM hsz ⊢
          clear hs HO hB hBj
          go_wp2_with fail
          refine (C.out _).mono ?_
          rintro e w2 ⟨rfl, hb2⟩
          have HO2 := Lib.hid (owns_below HOw.out hb2)
          have hB2 := tr hBw hb2
          clear hb2 HOw hBw C
          cases hw : withinB M Z
          · have e1 : (bits BinOp.andNot IntKind.u64 M Z == 0) = false := hw
            have HE := Lib.hid (G2.out n (HGN.out hw))
            clear hw
            go_wp2_with fail
            go_roundw
            case rel => exact ⟨n + 1, by omega, by go_num, by rw [HE.out]; exact HO2.out, hB2⟩
            case measure => simp [intOf]; omega
          · have e1 : (bits BinOp.andNot IntKind.u64 M Z == 0) = true := hw
            have e2 : (bits BinOp.andNot IntKind.u64 M Z != 0) = false := by
              show (!(bits BinOp.andNot IntKind.u64 M Z == 0)) = false
              rw [e1]
              rfl
            have HGR := Lib.hid (HGG.out hw)
            have HWI := Lib.hid (HWID.out hw)
            clear hw HGG HWID
            go_wp2_with fail
            clear e1 e2
            go_loopw [8, 9] (fun v i wz => ∃ k : Nat, k ≤ 6 ∧ i = .int .i64 k ∧ v = .bool (!grTo n Z k) ∧ Below w2.heap.size w2 wz) (fun _ i _ => 6 - (intOf i).toNat)
            case atStart => exact ⟨0, by omega, rfl, by rw [HG0.out]; rfl, Below.refl _ _⟩
            case round =>
              obtain ⟨k, hk, rfl, rfl, hBk⟩ := hrel
              by_cases hk6 : k < 6
              · have hks : k < s.size := by omega
                have eb := byteAt_eq hks
                have HK := Lib.hid (HG.out k)
                have HWk := Lib.hid (HWI.out k hk6)
                have h7 : s.size ≤ 6 := by omega
                have h8 : 6 ≤ s.size := by omega
                by_cases h63 : s[k].toNat = 63
                · have e1 : ((s[k].toNat : Int) != 63) = false := by simp; omega
                  have HK2 := Lib.hid (show grTo n Z (k + 1) = grTo n Z k by rw [HK.out, ← HWk.out, eb, h63]; simp)
                  clear h63 eb HK HWk
                  go_wp2_with fail
                  go_quiet (fail)
                  go_wp2_with fail
                  go_roundw
                  case rel => exact ⟨k + 1, by omega, by go_num, by rw [HK2.out], below_drewN hBk _⟩
                  case measure => simp [intOf]; omega
                · have e1 : ((s[k].toNat : Int) != 63) = true := by simp; omega
                  have C2 := Lib.hid (HM.out k hk6)
                  have HK2 := Lib.hid (show grTo n Z (k + 1) = (grTo n Z k || withinB (matchTo (openS s k) 6) Z) by
                    have e0 : (s[k].toNat != 63) = true := by simpa using h63
                    rw [HK.out, ← HWk.out, eb, e0, Bool.true_and])
                  clear h63 eb HK HWk
                  have hsl1 := slice_to s k (by omega)
                  have hsl2 := slice_from s k (by omega)
                  have hz := openS_size s hsz hk6
                  obtain ⟨t, ht⟩ : ∃ t, openS s k = t := ⟨_, rfl⟩
                  rw [ht] at C2 HK2 hz
                  unfold openS at ht
                  have za : (s.extract 0 k).size = k := by rw [ByteArray.size_extract]; omega
                  have zb : (s.extract (k + 1) s.size).size = 5 - k := by rw [ByteArray.size_extract]; omega
                  generalize s.extract 0 k = a at hsl1 za ht
                  generalize s.extract (k + 1) s.size = b at hsl2 zb ht
                  have zc : (a ++ (⟨#[63]⟩ : ByteArray)).size = k + 1 := by rw [ByteArray.size_append, za]; rfl
                  obtain ⟨c, hc⟩ : ∃ c, a ++ (⟨#[63]⟩ : ByteArray) = c := ⟨_, rfl⟩
                  have ad1 : ∀ W : World, (Op.stringOp .add a (⟨#[63]⟩ : ByteArray)).run Tryz.prog W = .ok (.string (a ++ (⟨#[63]⟩ : ByteArray))) W := fun W => run_string_add_sum W _ _ (by rw [za]; show k + 1 ≤ _; omega)
                  rw [hc] at ht zc ad1
                  have ad2 : ∀ W : World, (Op.stringOp .add c b).run Tryz.prog W = .ok (.string (c ++ b)) W := fun W => run_string_add_sum W _ _ (by rw [zc, zb]; omega)
                  rw [ht] at ad2
                  clear za zb zc
                  have k1 : IntKind.i64.wrap ((k : Int) + 1) = (k : Int) + 1 := IntWalk.i64_in _ (by omega)
                  have k0 : (0 : Int) ≤ (k : Int) := by omega
                  have kd : decide ((k : Int) < 6) = true := by simp; omega
                  clear hsz
                  cases hw3 : withinB (matchTo t 6) Z
                  · have e9 : (bits BinOp.andNot IntKind.u64 (matchTo t 6) Z == 0) = false := hw3
                    rw [hw3, Bool.or_false] at HK2
                    clear hw3
                    go_wp2_with fail
                    go_region_held3 (fun w' => Below wr.heap.size wr w')
                      (first | with_reducible exact (Below.refl _ _).drew | with_reducible assumption | with_reducible exact tr hbw hbk)
                      (first | (go_at_call 47; refine (C2.out _).mono ?_; rintro e w' ⟨rfl, hbk⟩; have hbw : Below wr.heap.size wr _ := (by assumption)))
                    rename_i hh
                    go_wp2_with fail
                    go_roundw
                    case rel => first | exact ⟨k + 1, by omega, by go_num, by rw [HK2.out]; try rfl, tr hBk hh⟩ | ((repeat apply Exists.intro); exact ⟨⟨k + 1, by omega, by go_num, by rw [HK2.out]; try rfl, tr hBk hh⟩, rfl⟩)
                    case measure => simp [intOf]; omega
                  · have e9 : (bits BinOp.andNot IntKind.u64 (matchTo t 6) Z == 0) = true := hw3
                    rw [hw3, Bool.or_true] at HK2
                    clear hw3
                    go_wp2_with fail
                    go_region_held3 (fun w' => Below wr.heap.size wr w')
                      (first | with_reducible exact (Below.refl _ _).drew | with_reducible assumption | with_reducible exact tr hbw hbk)
                      (first | (go_at_call 47; refine (C2.out _).mono ?_; rintro e w' ⟨rfl, hbk⟩; have hbw : Below wr.heap.size wr _ := (by assumption)))
                    rename_i hh
                    go_wp2_with fail
                    go_roundw
                    case rel => first | exact ⟨k + 1, by omega, by go_num, by rw [HK2.out]; try rfl, tr hBk hh⟩ | ((repeat apply Exists.intro); exact ⟨⟨k + 1, by omega, by go_num, by rw [HK2.out]; try rfl, tr hBk hh⟩, rfl⟩)
                    case measure => simp [intOf]; omega
              · obtain rfl : k = 6 := by omega
                have HO3 := Lib.hid (owns_below HO2.out hBk)
                have hB3 := tr hB2 hBk
                clear hB2 hBk HO2
                cases hg : grTo n Z 6
                · have HE := Lib.hid (G1.out n (by rw [HGR.out, hg]; rfl))
                  clear hg
                  have hsz3 := hB3.size
                  go_wp2_with (at_builtin; refine wpList_append_own _ rfl _ _ 34 rfl w.heap.size 9 i0 (.string ⟨#[]⟩) 1 16 Tryz.underlying34 hi hz0 hz1 hz2 rfl (by decide) _ (G n).length _ rfl (HO3.out.alloc _) ⟨wr.heap.size, 0, none⟩ 1 1 [.string s] rfl rfl (cell_one_new _ _ _) (by simp [Value.oneCell']) (by unfold maxLen; omega) (by omega) (by simp; omega) ?_)
                  intro v2 w6 hown3 hg3 _
                  have hB4 : Below w.heap.size w w6 := (hB3.alloc hB3.size _).grown hg3 (by simp; omega) (owns_base HO3.out)
                  go_wp2_with fail
                  go_roundw
                  case rel => exact ⟨n + 1, by omega, by go_num, by rw [HE.out, HS.out]; simpa using hown3, hB4⟩
                  case measure => simp [intOf]; omega
                · have HE := Lib.hid (G2.out n (by rw [HGR.out, hg]; rfl))
                  clear hg
                  go_wp2_with fail
                  go_roundw
                  case rel => exact ⟨n + 1, by omega, by go_num, by rw [HE.out]; exact HO3.out, hB3⟩
                  case measure => simp [intOf]; omega
    · obtain rfl : n = 729 := by omega
      have hd : decide (((729 : Nat) : Int) < 729) = false := by simp
      rw [G3.out] at HO ⊢
      obtain ⟨q2, c2, e2, hrd⟩ := readsS_of_owns HO.out
      cases e2
      go_wp2
      go_ret
      exact ⟨⟨q, c, rfl, hrd⟩, hB⟩
end Go.Proofs.YtdfdgeaohneeaaaGreatDoor
