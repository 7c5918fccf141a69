/-
  OddsFar: for every two lists of weights, a third list, a set of outcomes and a map, the function returns true and leaves them as they are. Nothing is asked of the input.
-/
import Derived.Test.YtnpnnfbmnlgioaaFh
import Derived.Test.YtnpnnfbmnlgioaaFo
import Derived.Test.YtnpnnfbmnlgioaaCm
import Derived.WalkKit
import Derived.ProofKit
import Derived.OpenShut
import Derived.ChangeOld
import Derived.Below
namespace Go.Proofs.Ytnpnnfbmnlgioaa
open Go.ChangeShapes Go.WideShapes Go.ChangeAt Go.RowKit
set_option linter.unusedVariables false

theorem cmp3_not {an ad bn bd : Int} (ha : badC an ad = false) (hb : badC bn bd = false) (h : val an ad ≤ val bn bd) : cmp3 (an * bd) (bn * ad) ≤ 0 := by
  obtain ⟨a1, _, _, _, _⟩ := badC_ok ha
  obtain ⟨b1, _, _, _, _⟩ := badC_ok hb
  exact (cmp3_le a1 b1).2 h
theorem apart_err0 {a b : List Int} (h : (sApart a b).2.2 ≠ 0) : (sApart a b).1 = 0 ∧ (sApart a b).2.1 = 0 := by
  unfold sApart at h ⊢
  split
  · exact ⟨rfl, rfl⟩
  · split
    · exact ⟨rfl, rfl⟩
    · split
      · exact ⟨rfl, rfl⟩
      · rename_i h1 h2 h3
        rw [if_neg h1, if_neg h2, if_neg h3] at h
        exact absurd rfl h

theorem oddsFar_walk (pa : Option Addr) (xs : List Int) (ca : Nat) (pb : Option Addr) (ys : List Int) (cb : Nat) (pl : Option Addr) (zs : List Int) (cl : Nat) (S : Int) (pt : Option Addr) (ts : List Int) (ct : Nat) (w : World)
    (hCa : Came w pa xs ca) (hCb : Came w pb ys cb) (hCl : Came w pl zs cl) (hCt : Came w pt ts ct) :
    Calls Try.prog 5 #[.slice pa xs.length ca, .slice pb ys.length cb, .agg #[.slice pl zs.length cl, .int .u32 S, .slice pt ts.length ct]] w fun e w' => e = .returned (.bool true) ∧ Below w.heap.size w w' := by
  by_cases h0 : 20 < xs.length
  · exact far_long0 pa xs ca pb ys cb pl zs cl S pt ts ct w (by simp; omega)
  by_cases h1 : 20 < ys.length
  · exact far_long1 pa xs ca pb ys cb pl zs cl S pt ts ct w (by simp; omega) (by simp; omega)
  by_cases h2 : 20 < zs.length
  · exact far_long2 pa xs ca pb ys cb pl zs cl S pt ts ct w (by simp; omega) (by simp; omega) (by simp; omega)
  by_cases h3 : 20 < ts.length
  · exact far_long3 pa xs ca pb ys cb pl zs cl S pt ts ct w (by simp; omega) (by simp; omega) (by simp; omega) (by simp; omega)
  have hap := fun (a b : List Int) (la : a.length ≤ 4096) (lb : b.length ≤ 4096) p c q d w (hp : Reads w p a) (hq : Reads w q b) => apart_any p a c q b d w (by omega) (by omega) hp hq
  have hAB := hap xs ys (by omega) (by omega)
  have hBA := hap ys xs (by omega) (by omega)
  by_cases hE : (sApart xs ys).2.2 = 0
  · have H := apart_two hE
    obtain ⟨vd, ed⟩ := apart_val H
    rw [← apart_sym H] at hBA
    rw [hE] at hAB hBA
    have hz : ((sApart xs ys).1 == 0) = sameB xs ys := by
      have := apart_zero H
      by_cases k : (sApart xs ys).1 = 0
      · rw [this.1 k, k]; rfl
      · have k2 : sameB xs ys = false := by simpa using fun e => k (this.2 e)
        rw [k2]; simpa using k
    obtain ⟨T, hT⟩ : ∃ T : Nat → Bool, T = fun i => (bits BinOp.and IntKind.u32 (S / 2 ^ i) 1 == 1) := ⟨_, rfl⟩
    have lS := setTo_length T xs.length
    obtain ⟨p1, vp, ep⟩ := of_val H.ca T (Nat.le_refl xs.length)
    obtain ⟨q1, vq, eq⟩ := of_val H.cb T (k := xs.length) (by rw [H.len]; exact Nat.le_refl _)
    have hP := fun p c q d w (hp : Reads w p xs) (hq : Reads w q (setTo T xs.length)) => of_any p xs c q (setTo T xs.length) d w (by omega) (by omega) hp hq
    have hQ := fun p c q d w (hp : Reads w p ys) (hq : Reads w q (setTo T xs.length)) => of_any p ys c q (setTo T xs.length) d w (by omega) (by omega) hp hq
    rw [p1] at hP
    rw [q1] at hQ
    have hM := fun p c q d w (hp : Reads w p xs) (hq : Reads w q ts) => map_any p xs c q ts d 3 w (by omega) (by omega) hp hq
    have hM2 := fun p c q d w (hp : Reads w p ys) (hq : Reads w q ts) => map_any p ys c q ts d 3 w (by omega) (by omega) hp hq
    have hmf : (sMap xs ts 3).2 = 0 → (sMap ys ts 3).2 = 0 ∧ (Two2 (sMap xs ts 3).1 (sMap ys ts 3).1 → rfar (fr (sMap xs ts 3).1) (fr (sMap ys ts 3).1) (sMap xs ts 3).1.length ≤ rfar (fr xs) (fr ys) xs.length) := fun h => map_far (m := 3) h H.cb H.len
    have hA3 := hap (sMap xs ts 3).1 (sMap ys ts 3).1 (sMap_length _ _ _) (sMap_length _ _ _)
    refine far_main pa xs ca pb ys cb pl zs cl S pt ts ct w T (sameB xs ys) (sMap xs ts 3).1 (sMap ys ts 3).1 _ _ _ _ _ _ _ _ _ _ (cmp3 ((sOf xs (setTo T xs.length)).1 * (sEither (sOf ys (setTo T xs.length)).1 (sOf ys (setTo T xs.length)).2.1 (sApart xs ys).1 (sApart xs ys).2.1).2.1) ((sEither (sOf ys (setTo T xs.length)).1 (sOf ys (setTo T xs.length)).2.1 (sApart xs ys).1 (sApart xs ys).2.1).1 * (sOf xs (setTo T xs.length)).2.1)) _ _ _ _ _ (cmp3 ((sApart (sMap xs ts 3).1 (sMap ys ts 3).1).1 * (sApart xs ys).2.1) ((sApart xs ys).1 * (sApart (sMap xs ts 3).1 (sMap ys ts 3).1).2.1)) _ _ _ _ _ _ _ _ _ (cmp3 ((sApart xs ys).1 * (sEither (sApart xs zs).1 (sApart xs zs).2.1 (sApart zs ys).1 (sApart zs ys).2.1).2.1) ((sEither (sApart xs zs).1 (sApart xs zs).2.1 (sApart zs ys).1 (sApart zs ys).2.1).1 * (sApart xs ys).2.1)) hCa hCb hCl hCt (by omega) (by omega) (by omega) (by omega)
      hAB hBA (fun w h h' => hsame_any pa xs ca pb ys cb w (by omega) (by omega) h h') hz (fun i _ => by rw [hT]) hP hQ (fun w => compare_ok _ _ _ _ w vp vq)
      (fun w => either_any lenOk _ _ _ _ w) ?_ hM hM2 (fun h => (hmf h).1) hA3 ?_ (hap xs zs (by omega) (by omega)) (hap zs ys (by omega) (by omega)) (fun _ _ w => either_any lenOk _ _ _ _ w) ?_
    · intro hes
      obtain ⟨vs, es⟩ := sEither_ok vq vd hes
      refine ⟨?_, fun w => compare_ok _ _ _ _ w vp vs⟩
      have : cmp3 _ _ ≤ 0 := cmp3_not vp vs (by rw [es, ep, eq, ed]; exact rfar_set _ _ _ _)
      omega
    · intro hem hei
      have H3 := apart_two hei
      obtain ⟨vh, eh⟩ := apart_val H3
      refine ⟨?_, fun w => compare_ok _ _ _ _ w vh vd⟩
      have : cmp3 _ _ ≤ 0 := cmp3_not vh vd (by rw [eh, ed]; exact (hmf hem).2 H3)
      omega
    · intro heu hev her
      have HU := apart_two heu
      have HV := apart_two hev
      obtain ⟨vu, eu⟩ := apart_val HU
      obtain ⟨vv, ev⟩ := apart_val HV
      obtain ⟨vr, er⟩ := sEither_ok vu vv her
      refine ⟨?_, fun w => compare_ok _ _ _ _ w vd vr⟩
      exact cmp3_not vd vr (by rw [er, eu, ev, ed, ← HU.len]; exact rfar_tri _ _ _ _)
  · obtain ⟨z0, z1⟩ := apart_err0 hE
    rw [z0, z1] at hAB
    have hF : (sApart ys xs).2.2 ≠ 0 := fun h => hE (by rw [two_apart (two_sym (apart_two h))])
    exact far_err pa xs ca pb ys cb pl zs cl S pt ts ct w _ _ _ _ hCa hCb (by omega) (by omega) (by omega) (by omega) hAB hBA (by simpa using hE) (by simpa using hE) (by simpa using hF) (by simpa using hF)

theorem oddsFar_own : ownKnob Try.prog.godebug = none := by kernel_rfl
theorem oddsFar_laidOut : laidOutB Try.prog = true := by kernel_rfl

set_option maxRecDepth 100000 in
theorem oddsFar_lifted (os : Os) (started : os.Started) (H : Type) (enc : TypeId × Value → H) :
    ReturnsInHanded {} Try.checked os 5 .any (Rows.oddsFarSpec.pre6 enc Try.prog Try.f5 Rows.oddsFarRow.domain false) (Rows.oddsFarSpec.post enc Try.prog Try.f5 false true false false) := by
  refine returnsInHanded_of_change (C := Try.checked) oddsFar_own started (by kernel_rfl) Try.func5
    (ChangeSpec.witness6 (enc := enc) (C := Try.checked) false ⟨#[], #[.slice none 0 0, .slice none 0 0, .agg #[.slice none 0 0, .int .u32 0, .slice none 0 0]], []⟩ 8 (by kernel_rfl) (by kernel_rfl) (by kernel_rfl) (by kernel_rfl)) ?_
  intro W base args ds gs before hval0 hW hcnd _
  have hval : ∀ (j : Nat) t v, Try.f5.params[j]? = some t → args[j]? = some v → Value.okWide Try.prog W .any base t v := hval0
  have hW' := hW
  obtain ⟨p, q, hA0, hV, rfl, hfz, hnd⟩ := hW
  have hA : DataW.TrodAll enc Try.prog W 0 (fun _ => true) true Try.f5.params.toList args.toList ds p := hA0
  rw [Try.params5] at hA hval
  obtain ⟨v0, v1, v2, d0, d1, d2, p0, p1, p2, rfl, rfl, rfl, h0, h1, h2⟩ := trodAll_three hA
  obtain ⟨rfl, rfl⟩ := trodVars_none hV
  have lt0 : ∀ x ∈ p0, x.block < W.heap.size := by obtain ⟨m, hm⟩ := h0; exact DataW.trod_lt m _ _ _ hm
  have lt1 : ∀ x ∈ p1, x.block < W.heap.size := by obtain ⟨m, hm⟩ := h1; exact DataW.trod_lt m _ _ _ hm
  have lt2 : ∀ x ∈ p2, x.block < W.heap.size := by obtain ⟨m, hm⟩ := h2; exact DataW.trod_lt m _ _ _ hm
  have k0 := h0
  have k1 := h1
  have k2 := h2
  obtain ⟨a0, xs0, c0, rfl, hC0, _⟩ := came_open (hval 0 34 v0 rfl rfl) h0
  obtain ⟨a1, xs1, c1, rfl, hC1, _⟩ := came_open (hval 1 34 v1 rfl rfl) h1
  obtain ⟨a2, xs2, c2, S, a3, xs3, c3, rfl, hC2, hC3⟩ := open_third (hval 2 47 v2 rfl rfl) h2
  clear hA0 hval0 h0 h1 h2
  refine (oddsFar_walk a0 xs0 c0 a1 xs1 c1 a2 xs2 c2 S a3 xs3 c3 W hC0 hC1 hC2 hC3).mono fun e W' ⟨he, bel⟩ => ?_
  subst he
  exact ⟨_, rfl, _, _, _, [], _, [], hW', trodAll_mk1 (shut_bool Try.underlying4 _), (trodAll_cons_mk (Below.trod oddsFar_laidOut (by kernel_rfl) (of_decide_eq_true (by kernel_rfl)) k0 bel lt0) (trodAll_cons_mk (Below.trod oddsFar_laidOut (by kernel_rfl) (of_decide_eq_true (by kernel_rfl)) k1 bel lt1) (trodAll_cons_mk (Below.trod oddsFar_laidOut (by kernel_rfl) (of_decide_eq_true (by kernel_rfl)) k2 bel lt2) trodAll_mk0))), rfl, bel.frame _, fun h => by cases h⟩

theorem oddsFar_holds : Rows.OddsFarSaid :=
  OpenClaim.holds_of_wide 5 Try.f5 rfl rfl rfl rfl rfl rfl rfl ⟨rfl, rfl, rfl, rfl, rfl⟩ rfl rfl rfl rfl rfl (by kernel_rfl) Try.func5 (by kernel_rfl)
    (of_decide_eq_true (by kernel_rfl)) (by unfold Func.isWrapper; first | (rw [if_pos (by decide +kernel)]; kernel_rfl) | (rw [if_neg (by decide +kernel)]; exact ⟨rfl, rfl⟩))
    (fun os started H enc _ => oddsFar_lifted os started H enc)
end Go.Proofs.Ytnpnnfbmnlgioaa
