/-
  The reference of chapter 3: how many charts have figures of sets.
-/
import Derived.Test.YtjhjgkocoghgfaaDoorShRg
import Derived.Test.YtjhjgkocoghgfaaDoorShRf
import Derived.RegionTactic
namespace Go.Proofs.YtjhjgkocoghgfaaDoor
open Go Go.RowKit
set_option linter.unusedVariables false

theorem bit_mod (x : Int) (h0 : 0 ≤ x) (h1 : x < 2 ^ 62) : bits .and .i64 x 1 = x % 2 :=
  bits_mask .i64 62 (by decide) wraps_i64_62 1 (by decide) x h0 h1
/-- Whether the first figures are of their sets. -/
def allI (S C : List Int) (i : Nat) : Bool := (List.range i).all (inB S C)
theorem allI_succ (S C : List Int) (i : Nat) : allI S C (i + 1) = (allI S C i && inB S C i) := by
  simp [allI, List.range_succ, List.all_append]
theorem inB_one {S C : List Int} {i : Nat} (h0 : 0 ≤ nth S i) (h1 : nth S i ≤ 65535) : (bits BinOp.and IntKind.i64 (nth S i / 2 ^ (nth C i).toNat) 1 == 1) = inB S C i := by
  unfold inB
  have hp : (0 : Int) < 2 ^ (nth C i).toNat := Int.pow_pos (by decide)
  have q0 : 0 ≤ nth S i / 2 ^ (nth C i).toNat := Int.ediv_nonneg h0 (by omega)
  have q1 : nth S i / 2 ^ (nth C i).toNat ≤ nth S i := Int.ediv_le_self _ h0
  rw [bit_mod _ q0 (by omega)]
  generalize nth S i / 2 ^ (nth C i).toNat = q at q0 q1 ⊢
  by_cases e : q % 2 = 1
  · simp [e]
  · have : q % 2 = 0 := by omega
    simp [this]
theorem results_slot_cell {P : Program} {fn : Func} {r p : Tmp} {ty : TypeId} (h : fn.results = #[.tmp r, .cell p ty]) (tmps : Array Value) (w : World) (g : Nat) (t : TypeId) (cs : Array Value) (fr : Nat × Nat) (d : TypeDesc)
    (hp : tmps.getD p undef = .pointer (some ⟨g, 0, none⟩)) (hg : w.heap[g]? = some (.cells cs t fr))
    (hu : P.underlying ty = some d) (hd : (match d with | .struct _ | .array _ _ => true | _ => false) = true) (hi : (P.info? ty).map (·.size) = some cs.size) (u : Value) (hr : tmps.getD r undef = u) :
    (results fn tmps).run P w = .ok (.tuple #[u, .agg cs]) w := by
  have hp' : tmps[p]?.getD undef = .pointer (some ⟨g, 0, none⟩) := by simpa using hp
  have hr' : tmps[r]?.getD undef = u := by simpa using hr
  simp [results, h, hp', hr', asAddr, run_loadVar_row w g t ty cs fr d hg hu hd hi]
theorem derive2_nibs (x : Nat) (w : World) :
    Calls Tryd.prog 31 #[.agg (arr (nibs x))] w fun e w' => e = .returned (.agg (arr (chV x))) ∧ Below w.heap.size w w' :=
  refDerive2_any _ _ _ _ (fun k hk => by
    have e : k = 0 ∨ k = 1 ∨ k = 2 ∨ k = 3 := by omega
    rcases e with rfl | rfl | rfl | rfl
    · show Fig ((x : Int) / 4096 % 16); exact ⟨by omega, by omega⟩
    · show Fig ((x : Int) / 256 % 16); exact ⟨by omega, by omega⟩
    · show Fig ((x : Int) / 16 % 16); exact ⟨by omega, by omega⟩
    · show Fig ((x : Int) % 16); exact ⟨by omega, by omega⟩) w

theorem chV_figs'' (x : Nat) : Figs (chV x) := dP_figs rfl fun k hk => by
  have e : k = 0 ∨ k = 1 ∨ k = 2 ∨ k = 3 := by omega
  rcases e with rfl | rfl | rfl | rfl
  · show Fig ((x : Int) / 4096 % 16); exact ⟨by omega, by omega⟩
  · show Fig ((x : Int) / 256 % 16); exact ⟨by omega, by omega⟩
  · show Fig ((x : Int) / 16 % 16); exact ⟨by omega, by omega⟩
  · show Fig ((x : Int) % 16); exact ⟨by omega, by omega⟩
set_option maxRecDepth 100000 in
set_option maxHeartbeats 8000000 in
theorem refCount_any (S : List Int) (hS : Hid (S.length = 16)) (hv : Hid (∀ k, k < 16 → 0 ≤ nth S k ∧ nth S k ≤ 65535)) (w : World) :
    Calls Tryd.prog 16 #[.agg (arr S)] w fun e w' => e = .returned (.tuple #[.int .i64 (cntN S (upto id 65536)), .agg (arr (cntF S (upto id 65536)))]) ∧ Below w.heap.size w w' := by
  have HB0 := Lib.hid (show Blk (((w.alloc (.cells (arr S) 39)).alloc (.cells (arr [0, 0, 0, 0]) 41)).alloc (.cells (arr [0, 0, 0, 0]) 41)) w.heap.size 39 (arr S) from ((Blk.new _ _ _).alloc _).alloc _)
  have HR0 := Lib.hid (show Blk (((w.alloc (.cells (arr S) 39)).alloc (.cells (arr [0, 0, 0, 0]) 41)).alloc (.cells (arr [0, 0, 0, 0]) 41)) (w.heap.size + 1) 41 (arr [0, 0, 0, 0]) from Blk.alloc (newAt (by simp)) _)
  have HF0 := Lib.hid (show Blk (((w.alloc (.cells (arr S) 39)).alloc (.cells (arr [0, 0, 0, 0]) 41)).alloc (.cells (arr [0, 0, 0, 0]) 41)) (w.heap.size + 2) 41 (arr (cntF S (upto id 0))) from newAt (by simp))
  have hb0 : Below w.heap.size w (((w.alloc (.cells (arr S) 39)).alloc (.cells (arr [0, 0, 0, 0]) 41)).alloc (.cells (arr [0, 0, 0, 0]) 41)) := (((Below.refl _ _).alloc (Nat.le_refl _) _).alloc (by simp) _).alloc (by simp; omega) _
  go_enter Tryd.func16, Tryd.ntmps16
  go_wp2_with fail
  obtain ⟨W, hW⟩ : ∃ W, ((w.alloc (.cells (arr S) 39)).alloc (.cells (arr [0, 0, 0, 0]) 41)).alloc (.cells (arr [0, 0, 0, 0]) 41) = W := ⟨_, rfl⟩
  rw [hW] at HB0 HR0 HF0 hb0
  have e0 : ((w.alloc (.cells (arr S) 39)).alloc (.cells #[.int .i64 0, .int .i64 0, .int .i64 0, .int .i64 0] 41)).alloc (.cells #[.int .i64 0, .int .i64 0, .int .i64 0, .int .i64 0] 41) = W := hW
  rw [e0]
  clear hW e0
  have hsW := HF0.out.lt
  obtain ⟨CN, hCN⟩ : ∃ CN : Nat → Nat, ∀ k, cntN S (upto id k) = CN k := ⟨fun k => cntN S (upto id k), fun k => rfl⟩
  obtain ⟨CF, hCF⟩ : ∃ CF : Nat → List Int, ∀ k, cntF S (upto id k) = CF k := ⟨fun k => cntF S (upto id k), fun k => rfl⟩
  have hle : ∀ k, CN k ≤ k := fun k => by rw [← hCN]; have := cntN_le S (upto id k); rwa [upto_length] at this
  have hFl : ∀ k, (CF k).length = 4 := fun k => by rw [← hCF]; exact cntF_len S _
  have hno : ∀ k, insC S k = false → CN (k + 1) = CN k ∧ CF (k + 1) = CF k := fun k h => by
    rw [← hCN, ← hCN, ← hCF, ← hCF, upto_succ]; exact cnt_no h
  have hyes : ∀ k, insC S k = true → CN (k + 1) = CN k + 1 := fun k h => by rw [← hCN, ← hCN, upto_succ]; exact cntN_yes h
  have hfirst : ∀ k, insC S k = true → CN k = 0 → CF (k + 1) = nibs k := fun k h h0 => by rw [← hCF, upto_succ]; exact cntF_first h (by rw [hCN]; exact h0)
  have hlater : ∀ k, CN k ≠ 0 → CF (k + 1) = CF k := fun k h0 => by rw [← hCF, ← hCF, upto_succ]; exact cntF_later (by rw [hCN]; exact h0)
  have hz : CN 0 = 0 := by rw [← hCN]; rfl
  have HNO := Lib.hid hno
  have HYES := Lib.hid hyes
  have HFI := Lib.hid hfirst
  have HLA := Lib.hid hlater
  have HLE := Lib.hid hle
  have HFL := Lib.hid hFl
  have HZ := Lib.hid hz
  have HEN := Lib.hid (And.intro (hCN 65536) (hCF 65536))
  rw [hCF] at HF0
  clear hCN hCF hno hyes hfirst hlater hle hFl hz
  go_loopw [4, 6] (fun c v wr => ∃ k : Nat, Hid (k ≤ 65536) ∧ v = .int .i64 k ∧ c = .int .i64 (CN k) ∧ Hid (Blk wr (w.heap.size + 2) 41 (arr (CF k))) ∧ Below (w.heap.size + 2) W wr) (fun _ v _ => 65536 - (intOf v).toNat)
  case atStart => exact ⟨0, Lib.hid (by omega), rfl, by rw [HZ.out]; rfl, HF0, Below.refl _ _⟩
  case round =>
    obtain ⟨k, HK, rfl, rfl, HF, hB⟩ := hrel
    by_cases hlt : k < 65536
    · have d1 : decide ((k : Int) < 65536) = true := by simp; omega
      have C1 := Lib.hid (refMothers_any (k : Int) (by omega) (by omega) wr)
      have HLT := Lib.hid hlt
      clear hlt
      go_wp2_with fail
      refine C1.out.mono ?_
      rintro e w1 ⟨rfl, hb1⟩
      have hMl := nibs_len (k : Int)
      have hCl := chV_len k
      have hCf := chV_figs'' k
      have C2 := fun W => derive2_nibs k W
      obtain ⟨M, hM⟩ : ∃ M, nibs (k : Int) = M := ⟨_, rfl⟩
      obtain ⟨C, hC⟩ : ∃ C, chV k = C := ⟨_, rfl⟩
      have HIC := Lib.hid (show allI S C 16 = insC S k from by rw [← hC]; rfl)
      have HF1 := Lib.hid (HFI.out k)
      rw [hM] at hMl C2 HF1 ⊢
      rw [hC] at hCl hCf C2
      have HMi := Lib.hid (show (Tryd.prog.info? 41).map (·.size) = some (arr M).size by rw [arr_size, hMl]; exact info_moth)
      have HMo := Lib.hid (show (arr [0, 0, 0, 0]).size = (arr M).size by rw [arr_size, arr_size, hMl]; rfl)
      have HMf := Lib.hid (show (arr (CF k)).size = (arr M).size by rw [arr_size, arr_size, hMl, HFL.out k])
      have HIs := Lib.hid (show (Tryd.prog.info? 24).map (·.size) = some (arr C).size by rw [arr_size, hCl]; exact info_shield)
      have HOs := Lib.hid (show (arr (List.replicate 16 0)).size = (arr C).size by rw [arr_size, arr_size, hCl]; rfl)
      have HCl := Lib.hid hCl
      have HCf := Lib.hid hCf
      clear hM hC hMl hCl hCf C1
      have hB1 : Below (w.heap.size + 2) W w1 := hB.trans (hb1.mono (by have := hB.size; omega))
      have HFw := Lib.hid (HF.out.below hb1 HF.out.lt)
      have hs1 : w.heap.size + 2 < w1.heap.size := HFw.out.lt
      have HN := Lib.hid (Blk.new w1 41 (arr [0, 0, 0, 0]))
      obtain ⟨U1, hU1⟩ : ∃ U1, (w1.alloc (.cells (arr [0, 0, 0, 0]) 41)).setRow w1.heap.size (arr M) = U1 := ⟨_, rfl⟩
      have hbU : Below (w.heap.size + 2) W U1 := by rw [← hU1]; exact below_setRow (hB1.alloc (by have := hB1.size; omega) _) (by omega) _
      have HMU := Lib.hid (show Blk U1 w1.heap.size 41 (arr M) from by rw [← hU1]; exact HN.out.row _)
      have HFU := Lib.hid (show Blk U1 (w.heap.size + 2) 41 (arr (CF k)) from by
        rw [← hU1]
        exact HFw.out.below (below_setRow (below1 _ _) (Nat.le_refl _) _) hs1)
      have e0 : (w1.alloc (.cells #[.int .i64 0, .int .i64 0, .int .i64 0, .int .i64 0] 41)).setRow w1.heap.size (arr M) = U1 := hU1
      have E0 := Lib.hid e0
      clear hU1 e0 HF HFw hB1 hb1 hB d1
      go_wp2_with (first
        | (refine wpList_store_row rfl 41 (.tmp 7) (.tmp 17) rfl w1.heap.size (arr M) rfl rfl 41 _ HN.out HMi.out HMo.out (arr_one _) ?_; rw [E0.out])
        | (refine wpList_load_row rfl 41 (.tmp 7) rfl w1.heap.size rfl 41 (arr M) (0, 0) _ HMU.out Tryd.underlying41 rfl HMi.out ?_))
      refine (C2 _).mono ?_
      rintro e w3 ⟨rfl, hb3⟩
      have hb3' : Below (w.heap.size + 2) W w3 := hbU.trans (hb3.mono (by have := HMU.out.lt; omega))
      have HM3 := Lib.hid (HMU.out.below hb3 HMU.out.lt)
      have HF3 := Lib.hid (HFU.out.below hb3 HFU.out.lt)
      have hs3 : w1.heap.size < w3.heap.size := HM3.out.lt
      clear C2 HN HMU HFU hbU hb3 E0
      have HN := Lib.hid (Blk.new w3 24 (arr (List.replicate 16 0)))
      obtain ⟨U2, hU2⟩ : ∃ U2, (w3.alloc (.cells (arr (List.replicate 16 0)) 24)).setRow w3.heap.size (arr C) = U2 := ⟨_, rfl⟩
      have hb4 : Below w3.heap.size w3 U2 := by rw [← hU2]; exact below_setRow (below1 _ _) (Nat.le_refl _) _
      have HC4 := Lib.hid (show Blk U2 w3.heap.size 24 (arr C) from by rw [← hU2]; exact HN.out.row _)
      have HM4 := Lib.hid (HM3.out.below hb4 hs3)
      have HF4 := Lib.hid (HF3.out.below hb4 HF3.out.lt)
      have hB4 : Below (w.heap.size + 2) W U2 := hb3'.trans (hb4.mono (by omega))
      have HS4 := Lib.hid (HB0.out.below hB4 (by omega))
      have e1 : (w3.alloc (.cells #[.int .i64 0, .int .i64 0, .int .i64 0, .int .i64 0, .int .i64 0, .int .i64 0, .int .i64 0, .int .i64 0, .int .i64 0, .int .i64 0, .int .i64 0, .int .i64 0, .int .i64 0, .int .i64 0, .int .i64 0, .int .i64 0] 24)).setRow w3.heap.size (arr C) = U2 := hU2
      have E1 := Lib.hid e1
      clear hU2 e1 hb3' HM3 HF3 hb4
      go_wp2_with (refine wpList_store_row rfl 24 (.tmp 9) (.tmp 19) rfl w3.heap.size (arr C) rfl rfl 24 _ HN.out HIs.out HOs.out (arr_one _) ?_; rw [E1.out])
      clear HN E1
      go_loopw [8, 10] (fun b v wi => ∃ i : Nat, i ≤ 16 ∧ v = .int .i64 i ∧ b = .bool (allI S C i) ∧ ∃ r, wi = U2.drewN r) (fun _ v _ => 16 - (intOf v).toNat)
      case atStart => exact ⟨0, by omega, rfl, rfl, 0, rfl⟩
      case round =>
        obtain ⟨i, hi, rfl, rfl, r, rfl⟩ := hrel
        by_cases hlt2 : i < 16
        · have cS : U2.cell? ⟨w.heap.size, i, none⟩ = some (.int .i64 (nth S i)) := by rw [HS4.out.cell i, arr_get (by rw [hS.out]; exact hlt2)]
          have cC : U2.cell? ⟨w3.heap.size, i, none⟩ = some (.int .i64 (nth C i)) := by rw [HC4.out.cell i, arr_get (by rw [HCl.out]; exact hlt2)]
          obtain ⟨f0, f1⟩ := HCf.out i hlt2
          obtain ⟨s0, s1⟩ := hv.out i hlt2
          have e1 := inB_one (S := S) (C := C) (i := i) s0 s1
          have ES := Lib.hid (allI_succ S C i)
          obtain ⟨v, hvv⟩ : ∃ v, nth C i = v := ⟨_, rfl⟩
          obtain ⟨u, huu⟩ : ∃ u, nth S i = u := ⟨_, rfl⟩
          obtain ⟨B, hBB⟩ : ∃ B, inB S C i = B := ⟨_, rfl⟩
          obtain ⟨A, hAA⟩ : ∃ A, allI S C i = A := ⟨_, rfl⟩
          rw [hvv, huu, hBB] at e1
          rw [hvv] at cC f0 f1
          rw [huu] at cS s0 s1
          rw [hBB, hAA] at ES
          rw [hAA]
          have hwv : IntKind.u64.wrap v = v := u64_in f0 (by omega)
          clear hvv huu hBB hAA
          cases A
          · go_wp2_with fail
            go_quiet (fail)
            go_wp2_with fail
            go_roundw
            case rel => exact ⟨i + 1, by omega, by go_num, by rw [ES.out]; rfl, _, by first | rfl | exact World.drewN_drewN ..⟩
            case measure => simp [intOf]; omega
          · go_wp2_with fail
            go_quiet (fail)
            go_wp2_with fail
            go_roundw
            case rel => exact ⟨i + 1, by omega, by go_num, by rw [ES.out]; simp, _, by first | rfl | exact World.drewN_drewN ..⟩
            case measure => simp [intOf]; omega
        · obtain rfl : i = 16 := by omega
          rw [HIC.out]
          have hwr : IntKind.i64.wrap ((k : Int) + 1) = (k : Int) + 1 := wraps_i64_62 _ (by omega) (by have := HLT.out; omega)
          have hBr : Below (w.heap.size + 2) W (U2.drewN r) := below_drewN hB4 r
          have HFr := Lib.hid (show Blk (U2.drewN r) (w.heap.size + 2) 41 (arr (CF k)) from HF4.out)
          have HMr := Lib.hid (show Blk (U2.drewN r) w1.heap.size 41 (arr M) from HM4.out)
          generalize U2.drewN r = U3 at hBr HFr HMr ⊢
          clear HF4 HM4 HS4 HC4 hB4
          cases hb : insC S k
          · obtain ⟨n1, n2⟩ := HNO.out k hb
            have HN1 := Lib.hid n1
            have HF5 : Hid (Blk U3 (w.heap.size + 2) 41 (arr (CF (k + 1)))) := by rw [n2]; exact HFr
            clear hb n1 n2
            go_wp2_with fail
            go_roundw
            case rel => have hk6 := HLT.out; exact ⟨k + 1, Lib.hid (by omega), by go_num, by rw [HN1.out], HF5, hBr⟩
            case measure => have hk6 := HLT.out; simp [intOf]; omega
          · have HN1 := Lib.hid (HYES.out k hb)
            have HLk := Lib.hid (HLE.out k)
            have HF2 := Lib.hid (HLA.out k)
            have HF3 := Lib.hid (HF1.out hb)
            clear hb
            obtain ⟨n, hn⟩ : ∃ n, CN k = n := ⟨_, rfl⟩
            rw [hn] at HN1 HLk HF2 HF3 ⊢
            have hwn : IntKind.i64.wrap ((n : Int) + 1) = (n : Int) + 1 := wraps_i64_62 _ (by omega) (by have := HLT.out; have := HLk.out; omega)
            clear hn
            by_cases h0 : n = 0
            · subst h0
              have HF5 : Hid (Blk (U3.setRow (w.heap.size + 2) (arr M)) (w.heap.size + 2) 41 (arr (CF (k + 1)))) := by rw [HF3.out rfl]; exact HFr.out.row _
              have hB5 : Below (w.heap.size + 2) W (U3.setRow (w.heap.size + 2) (arr M)) := below_setRow hBr (Nat.le_refl _) _
              go_wp2_with (first
                | (refine wpList_load_row rfl 41 (.tmp 7) rfl w1.heap.size rfl 41 (arr M) (0, 0) _ HMr.out Tryd.underlying41 rfl HMi.out ?_)
                | (refine wpList_store_row rfl 41 (.tmp 5) (.tmp 42) rfl (w.heap.size + 2) (arr M) rfl rfl 41 _ HFr.out HMi.out HMf.out (arr_one _) ?_))
              go_roundw
              case rel => have hk6 := HLT.out; exact ⟨k + 1, Lib.hid (by omega), by go_num, by rw [HN1.out]; rfl, HF5, hB5⟩
              case measure => have hk6 := HLT.out; simp [intOf]; omega
            · have HF5 : Hid (Blk U3 (w.heap.size + 2) 41 (arr (CF (k + 1)))) := by rw [HF2.out h0]; exact HFr
              have y1 : ((n : Int) == 0) = false := by simp; omega
              have y2 : decide ((n : Int) = 0) = false := by simp; omega
              go_wp2_with fail
              go_roundw
              case rel => have hk6 := HLT.out; exact ⟨k + 1, Lib.hid (by omega), by go_num, by rw [HN1.out]; go_num, HF5, hBr⟩
              case measure => have hk6 := HLT.out; simp [intOf]; omega
    · have hk65 : k = 65536 := by have := HK.out; omega
      subst hk65
      have hGl := HFL.out 65536
      have HR := Lib.hid (HR0.out.below hB (by omega))
      have hBw := hb0.trans (hB.mono (by omega))
      obtain ⟨N, hN⟩ : ∃ N, CN 65536 = N := ⟨_, rfl⟩
      obtain ⟨G, hG⟩ : ∃ G, CF 65536 = G := ⟨_, rfl⟩
      rw [hN, hG] at HEN
      rw [hG] at HF hGl
      rw [hN]
      have HGi := Lib.hid (show (Tryd.prog.info? 41).map (·.size) = some (arr G).size by rw [arr_size, hGl]; exact info_moth)
      have HGo := Lib.hid (show (arr [0, 0, 0, 0]).size = (arr G).size by rw [arr_size, arr_size, hGl]; rfl)
      have HFd := Lib.hid (show (World.drew wr).heap[w.heap.size + 2]? = some (.cells (arr G) 41 (0, 0)) from HF.out)
      have HRd := Lib.hid (show (World.drew wr).heap[w.heap.size + 1]? = some (.cells (arr [0, 0, 0, 0]) 41 (0, 0)) from HR.out)
      have HXd := Lib.hid (show Blk ((World.drew wr).setRow (w.heap.size + 1) (arr G)) (w.heap.size + 1) 41 (arr G) from Blk.row (w := World.drew wr) HR.out _)
      have HBd := Lib.hid (show Below w.heap.size w ((World.drew wr).setRow (w.heap.size + 1) (arr G)) from below_setRow hBw.drew (by omega) _)
      have hmix : Tryd.prog.follows .mixedOrders = true := by kernel_rfl
      rw [show ((65536 : Nat) : Int) = 65536 from rfl]
      clear hG hN hGl hB hBw HF HR HFL HLE HNO HYES HFI HLA HZ HK
      go_wp2_with fail
      refine wp_region_any hmix ?_
      change wpAny _ _ _ _ _ _ _ (World.drew _)
      refine wpAny_ready (rs := [0, 1]) (by kernel_rfl) (by simp) ?_
      refine AllReady.cons rfl (fun K hK => ?_) (AllReady.cons rfl (fun K hK => ?_) AllReady.nil)
      · go_simp
        refine hK _ _ ?_
        clear hK K
        refine wpAny_ready (rs := [1, 2]) (by kernel_rfl) (by simp) ?_
        refine AllReady.cons rfl (fun K hK => ?_) (AllReady.cons rfl (fun K hK => ?_) AllReady.nil)
        · refine Eq.mpr (if_pos (by rfl)) ?_
          refine wp_load_row 41 (.tmp 5) rfl (w.heap.size + 2) rfl 41 (arr G) (0, 0) _ HFd.out Tryd.underlying41 rfl HGi.out (hK _ _ ?_)
          clear hK K
          refine wpAny_ready (rs := [2]) (by kernel_rfl) (by simp) ?_
          refine AllReady.cons rfl (fun K hK => ?_) AllReady.nil
          go_simp
          refine hK _ _ ?_
          clear hK K
          refine wpAny_ready (rs := [3]) (by kernel_rfl) (by simp) ?_
          refine AllReady.cons rfl (fun K hK => ?_) AllReady.nil
          refine Eq.mpr (if_pos (by rfl)) ?_
          refine wp_store_row 41 (.tmp 3) (.tmp 47) rfl (w.heap.size + 1) (arr G) rfl rfl 41 _ HRd.out HGi.out HGo.out (arr_one _) (hK _ _ ?_)
          clear hK K
          refine wpAny_done (by kernel_rfl) ?_ _
          go_wp2
          exact bodyPost_ret (v := .tuple #[.int .i64 N, .agg (arr G)]) (results_slot_cell rfl _ _ (w.heap.size + 1) 41 (arr G) (0, 0) _ rfl HXd.out Tryd.underlying41 rfl HGi.out _ rfl) rfl ⟨by rw [HEN.out.1, HEN.out.2], HBd.out⟩
        · go_simp
          refine hK _ _ ?_
          clear hK K
          refine wpAny_ready (rs := [1]) (by kernel_rfl) (by simp) ?_
          refine AllReady.cons rfl (fun K hK => ?_) AllReady.nil
          refine Eq.mpr (if_pos (by rfl)) ?_
          refine wp_load_row 41 (.tmp 5) rfl (w.heap.size + 2) rfl 41 (arr G) (0, 0) _ HFd.out Tryd.underlying41 rfl HGi.out (hK _ _ ?_)
          clear hK K
          refine wpAny_ready (rs := [3]) (by kernel_rfl) (by simp) ?_
          refine AllReady.cons rfl (fun K hK => ?_) AllReady.nil
          refine Eq.mpr (if_pos (by rfl)) ?_
          refine wp_store_row 41 (.tmp 3) (.tmp 47) rfl (w.heap.size + 1) (arr G) rfl rfl 41 _ HRd.out HGi.out HGo.out (arr_one _) (hK _ _ ?_)
          clear hK K
          refine wpAny_done (by kernel_rfl) ?_ _
          go_wp2
          exact bodyPost_ret (v := .tuple #[.int .i64 N, .agg (arr G)]) (results_slot_cell rfl _ _ (w.heap.size + 1) 41 (arr G) (0, 0) _ rfl HXd.out Tryd.underlying41 rfl HGi.out _ rfl) rfl ⟨by rw [HEN.out.1, HEN.out.2], HBd.out⟩
      · refine Eq.mpr (if_pos (by rfl)) ?_
        refine wp_load_row 41 (.tmp 5) rfl (w.heap.size + 2) rfl 41 (arr G) (0, 0) _ HFd.out Tryd.underlying41 rfl HGi.out (hK _ _ ?_)
        clear hK K
        refine wpAny_ready (rs := [0]) (by kernel_rfl) (by simp) ?_
        refine AllReady.cons rfl (fun K hK => ?_) AllReady.nil
        go_simp
        refine hK _ _ ?_
        clear hK K
        refine wpAny_ready (rs := [2]) (by kernel_rfl) (by simp) ?_
        refine AllReady.cons rfl (fun K hK => ?_) AllReady.nil
        go_simp
        refine hK _ _ ?_
        clear hK K
        refine wpAny_ready (rs := [3]) (by kernel_rfl) (by simp) ?_
        refine AllReady.cons rfl (fun K hK => ?_) AllReady.nil
        refine Eq.mpr (if_pos (by rfl)) ?_
        refine wp_store_row 41 (.tmp 3) (.tmp 47) rfl (w.heap.size + 1) (arr G) rfl rfl 41 _ HRd.out HGi.out HGo.out (arr_one _) (hK _ _ ?_)
        clear hK K
        refine wpAny_done (by kernel_rfl) ?_ _
        go_wp2
        exact bodyPost_ret (v := .tuple #[.int .i64 N, .agg (arr G)]) (results_slot_cell rfl _ _ (w.heap.size + 1) 41 (arr G) (0, 0) _ rfl HXd.out Tryd.underlying41 rfl HGi.out _ rfl) rfl ⟨by rw [HEN.out.1, HEN.out.2], HBd.out⟩
end Go.Proofs.YtjhjgkocoghgfaaDoor
