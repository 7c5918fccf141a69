/-
  The law on houses that all move on.
-/
import Derived.Test.YtdnccdobnhbpeaaDoorHeB
import Derived.BigQuiet
import Derived.Deep.Light
import Derived.Deep.CutBlock
import Derived.Deep.CutRange
namespace Go.Proofs.YtdnccdobnhbpeaaDoor
open Go Go.RowKit Go.Shelf Go.Maps Go.ChangeShapes
set_option linter.unusedVariables false
set_option linter.unusedSimpArgs false

theorem below12 {n : Nat} (hn : n < 12) : n = 0 ∨ n = 1 ∨ n = 2 ∨ n = 3 ∨ n = 4 ∨ n = 5 ∨ n = 6 ∨ n = 7 ∨ n = 8 ∨ n = 9 ∨ n = 10 ∨ n = 11 := by omega
/-- The houses that have been moved on so far. -/
def tuTo (s : List Int) (n : Nat) : Nat → List Int
  | 0 => List.replicate 12 0
  | i + 1 => (tuTo s n i).set ((i + n) % 12) (nth s i)
theorem tuTo_len (s : List Int) (n i : Nat) : (tuTo s n i).length = 12 := by
  induction i with
  | zero => rfl
  | succ i ih => simp [tuTo, ih]
theorem tuTo_all (s : List Int) {n : Nat} (hn : n < 12) : tuTo s n 12 = turnL s n := by
  rcases below12 hn with rfl | rfl | rfl | rfl | rfl | rfl | rfl | rfl | rfl | rfl | rfl | rfl <;> rfl
theorem marks_turn (s : List Int) {n : Nat} (hn : n < 12) : marksTo (turnL s n) 12 = marksTo s 12 := by
  simp only [marksTo]
  rcases below12 hn with rfl | rfl | rfl | rfl | rfl | rfl | rfl | rfl | rfl | rfl | rfl | rfl <;> simp [turnL_at] <;> omega
theorem chk_turn {s : List Int} (hc : chkF s = 0) (hl : s.length = 12) (n : Nat) : chkF (turnL s n) = 0 := chkF_of fun k hk => by
  rw [turnL_len] at hk
  rw [turnL_at s hk]
  exact chkF_zero hc _ (by rw [hl]; omega)
theorem fort_turn {s : List Int} (hc : chkF s = 0) (hl : s.length = 12) {n : Nat} (hn : n < 12) : fortV (turnL s n) = fortV s := by
  unfold fortV
  rw [if_pos hc, if_pos (chk_turn hc hl n), marks_turn s hn]
theorem oper_load_row {P : Program} {o : Oper} {a : Act} {w : World} {K : Act → World → Prop} {Q : Exit → Act → World → Prop} (ty : TypeId) (x : Operand) (ho : o.op = .load ty x)
    (g : Nat) (hx : a.eval x = .pointer (some ⟨g, 0, none⟩)) (t : TypeId) (cs : Array Value) (fr : Nat × Nat) (d : TypeDesc) (hg : w.heap[g]? = some (.cells cs t fr))
    (hu : P.underlying ty = some d) (hd : (match d with | .struct _ | .array _ _ => true | _ => false) = true) (hi : (P.info? ty).map (·.size) = some cs.size)
    (h : K (a.put o.dst (.agg cs)) w) : Oper.wp P o a w K Q := by
  unfold Oper.wp execOp
  simp only [ho, hx, Instr.loadAt, Instr.sureAddr, Sem.run_bind, Sem.run_pure, Result.andThen_ok, run_loadVar_row w g t ty cs fr d hg hu hd hi]
  exact h
/-- What the law keeps: the houses, the number, the houses moved on. -/
structure Tu (w : World) (S5 B8 : Nat) (s k : List Int) (n : Nat) (W : World) : Prop where
  h5 : Blk W S5 24 (arr s)
  bn : Blk W B8 3 #[.int .i64 (n : Int)]
  h10 : Blk W (B8 + 1) 24 (arr k)
  b : Below w.heap.size w W
theorem Tu.below {w : World} {S5 B8 : Nat} {s k : List Int} {n : Nat} {W W' : World} (h : Tu w S5 B8 s k n W) (hb : Below W.heap.size W W') : Tu w S5 B8 s k n W' :=
  ⟨h.h5.below hb h.h5.lt, h.bn.below hb h.bn.lt, h.h10.below hb h.h10.lt, h.b.trans (hb.mono h.b.size)⟩
/-- What a region of two houses moved on and one call has found. -/
def TwR (kk : List Int) (C : Value) (a b a' b' : Int) (T : TypeId) (good : List T3 → Prop) (n₀ : Nat) : Nat → Value → World → Prop
  | 0, x, _ => x = .agg (arr kk)
  | 1, x, _ => x = C
  | 2, x, _ => x = .int .i64 a
  | 3, x, _ => x = .int .i64 a'
  | 4, x, _ => x = C
  | 5, x, _ => x = .int .i64 b
  | 6, x, _ => x = .int .i64 b'
  | 7, x, V => ∃ v us, x = .tuple #[v, .int .i64 0] ∧ good us ∧ V.ownsRow n₀ T 3 v us.length (rowT us)
  | 8, x, V => ∃ v us, x = .tuple #[v, .int .i64 0] ∧ good us ∧ V.ownsRow n₀ T 3 v us.length (rowT us)
  | 9, x, V => ∃ us, good us ∧ V.ownsRow n₀ T 3 x us.length (rowT us)
  | 10, x, _ => x = .int .i64 0
  | 11, x, V => ∃ us, good us ∧ V.ownsRow n₀ T 3 x us.length (rowT us)
  | 12, x, _ => x = .int .i64 0
  | _, _, _ => True
theorem TwR.stab (kk : List Int) (C : Value) (a b a' b' : Int) (T : TypeId) (good : List T3 → Prop) (n₀ : Nat) (i : Nat) (x : Value) (V V' : World) (h : TwR kk C a b a' b' T good n₀ i x V) (hb : Below V.heap.size V V') : TwR kk C a b a' b' T good n₀ i x V' := by
  match i with
  | 0 => exact h
  | 1 => exact h
  | 2 => exact h
  | 3 => exact h
  | 4 => exact h
  | 5 => exact h
  | 6 => exact h
  | 7 => obtain ⟨v, us, h1, h2, h3⟩ := h; exact ⟨v, us, h1, h2, ownsRow_keptB h3 (grown_of_below hb) (fun r e => by cases e)⟩
  | 8 => obtain ⟨v, us, h1, h2, h3⟩ := h; exact ⟨v, us, h1, h2, ownsRow_keptB h3 (grown_of_below hb) (fun r e => by cases e)⟩
  | 9 => obtain ⟨us, h2, h3⟩ := h; exact ⟨us, h2, ownsRow_keptB h3 (grown_of_below hb) (fun r e => by cases e)⟩
  | 10 => exact h
  | 11 => obtain ⟨us, h2, h3⟩ := h; exact ⟨us, h2, ownsRow_keptB h3 (grown_of_below hb) (fun r e => by cases e)⟩
  | 12 => exact h
  | n + 13 => exact h
attribute [local go_sem] Oper.semAt_some
set_option maxRecDepth 100000 in
theorem eql_asp (a b c d e f : Int) (w : World) : (binOp .eql 72 (.agg #[.int .i64 a, .int .i64 b, .int .i64 c]) (.agg #[.int .i64 d, .int .i64 e, .int .i64 f])).run Tryd.prog w = .ok (.bool (decide ((a, b, c) = (d, e, f)))) w := by
  have ht : Tryd.prog.underlying 72 = some (.struct (Tryd.prog.fieldsOf 72)) := by unfold Program.fieldsOf; rw [Tryd.underlying72]
  have hp : Tryd.prog.stoodInHeld 72 = false := by kernel_rfl
  rw [run_eql_struct, show (10000 : Nat) = 9999 + 1 from rfl, run_equalIn_struct w 9999 _ _ _ ht hp]
  unfold Program.fieldsOf
  rw [Tryd.underlying72]
  have p : ∀ (t : TypeId) (x y z : Int) (k : Nat) (v : Value), (#[Value.int .i64 x, .int .i64 y, .int .i64 z] : Array Value)[k]? = some v → Tryd.prog.underlying t = some (.int .i64) → (part t #[.int .i64 x, .int .i64 y, .int .i64 z] k).run Tryd.prog w = .ok v w := fun t x y z k v h h2 => by
    simp [part, isAgg, run_underlying h2, Sem.run_bind, h]
  have p0 : ∀ x y z : Int, (part 70 #[.int .i64 x, .int .i64 y, .int .i64 z] 0).run Tryd.prog w = .ok (.int .i64 x) w := fun x y z => p _ x y z 0 _ rfl Tryd.underlying70
  have p1 : ∀ x y z : Int, (part 3 #[.int .i64 x, .int .i64 y, .int .i64 z] 1).run Tryd.prog w = .ok (.int .i64 y) w := fun x y z => p _ x y z 1 _ rfl Tryd.underlying3
  have p2 : ∀ x y z : Int, (part 3 #[.int .i64 x, .int .i64 y, .int .i64 z] 2).run Tryd.prog w = .ok (.int .i64 z) w := fun x y z => p _ x y z 2 _ rfl Tryd.underlying3
  have q0 : ∀ x y : Int, (Op.equalIn 9999 70 (.int .i64 x) (.int .i64 y)).run Tryd.prog w = .ok (x == y) w := fun x y => run_equalIn_int w 9998 _ .i64 .i64 x y Tryd.underlying70
  have q1 : ∀ x y : Int, (Op.equalIn 9999 3 (.int .i64 x) (.int .i64 y)).run Tryd.prog w = .ok (x == y) w := fun x y => run_equalIn_int w 9998 _ .i64 .i64 x y Tryd.underlying3
  simp only [Op.eqFields, Sem.run_bind, p0, p1, p2, q0, q1, Result.andThen_ok, Sem.run_ite, Sem.run_pure]
  by_cases h1 : a = d
  · by_cases h2 : b = e
    · by_cases h3 : c = f
      · simp [h1, h2, h3, Op.eqFields, p0, p1, p2, q0, q1]
      · simp [h1, h2, h3, Op.eqFields, p0, p1, p2, q0, q1]
    · simp [h1, h2, Op.eqFields, p0, p1, p2, q0, q1]
  · simp [h1, Op.eqFields, p0, p1, p2, q0, q1]
section
variable {P : Program} {o : Oper} {a : Act} {C : World → Prop} {K : Act → Prop}
theorem quiet_eql_asp (x y : Operand) (ho : o.op = .binOp .eql 72 x y 72) (b c d e f g : Int) (hx : a.eval x = .agg #[.int .i64 b, .int .i64 c, .int .i64 d]) (hy : a.eval y = .agg #[.int .i64 e, .int .i64 f, .int .i64 g]) (hk : K (a.put o.dst (.bool (decide ((b, c, d) = (e, f, g)))))) : o.quiet Tryd.prog a C K :=
  ⟨_, fun w hw => by
    unfold Oper.quietAt execOp
    have hm : Tryd.prog.eqGuardType Tryd.prog.depth 72 = false := by kernel_rfl
    simp only [ho, hx, hy, Sem.run_bind, run_eqGuard_agg w .eql _ x y _ _ hm, eql_asp, Result.andThen_ok]
    exact ⟨rfl, rfl⟩, hk⟩
end
/-- Whether one of the first so many is it. -/
def fTo (us : List T3) (t : T3) (j : Nat) : Bool := (List.range j).any fun i => decide (nthT us i = t)
theorem fTo_succ (us : List T3) (t : T3) (j : Nat) : fTo us t (j + 1) = (fTo us t j || decide (nthT us j = t)) := by
  unfold fTo
  rw [List.range_succ, List.any_append]
  simp
theorem fTo_all {us : List T3} {t : T3} (h : t ∈ us) : fTo us t us.length = true := by
  obtain ⟨i, hi, rfl⟩ := List.getElem_of_mem h
  exact List.any_eq_true.2 ⟨i, List.mem_range.2 hi, by simp [nthT_eq hi]⟩
theorem on_q (B n : Nat) (x x' : Int) (hn : n < 12) (hx : Hou x) (hx' : onV n x = x') (w : World) (hc : w.cell? ⟨B, 0, none⟩ = some (.int .i64 (n : Int))) :
    Calls Tryd.prog 29 #[.int .i64 x, .pointer (some ⟨B, 0, none⟩)] w fun e w' => e = .returned (.int .i64 x') ∧ w' = w :=
  (on_any B n x hn hx w hc).mono fun e w' ⟨h1, h2⟩ => ⟨by rw [← hx']; exact h1, h2.symm⟩
theorem asL_mem {b : Int} {zs : List Int} {t : T3} (h : t ∈ asL b zs) : t.2.1 ∈ zs ∧ t.2.2 = b := by
  unfold asL at h
  obtain ⟨x, hx, rfl⟩ := List.mem_map.1 h
  exact ⟨(List.mem_filter.1 hx).1, rfl⟩
/-- What the law keeps while it compares. -/
structure Tv (w : World) (S5 B8 : Nat) (s k : List Int) (n : Nat) (p1 : Option Addr) (ts : List T3) (p2 : Option Addr) (us : List T3) (p3 : Option Addr) (xs : List T3) (p4 : Option Addr) (ys : List T3) (W : World) : Prop where
  tu : Tu w S5 B8 s k n W
  r1 : Rows3 W p1 ts
  r2 : Rows3 W p2 us
  r3 : Rows3 W p3 xs
  r4 : Rows3 W p4 ys
theorem Tv.below {w : World} {S5 B8 : Nat} {s k : List Int} {n : Nat} {p1 : Option Addr} {ts : List T3} {p2 : Option Addr} {us : List T3} {p3 : Option Addr} {xs : List T3} {p4 : Option Addr} {ys : List T3} {W W' : World} (h : Tv w S5 B8 s k n p1 ts p2 us p3 xs p4 ys W) (hb : Below W.heap.size W W') : Tv w S5 B8 s k n p1 ts p2 us p3 xs p4 ys W' :=
  ⟨h.tu.below hb, h.r1.below hb (Nat.le_refl _), h.r2.below hb (Nat.le_refl _), h.r3.below hb (Nat.le_refl _), h.r4.below hb (Nat.le_refl _)⟩
set_option maxRecDepth 100000 in
set_option maxHeartbeats 8000000 in
theorem turned_walk (s : List Int) (HL : Hid (s.length = 12)) (HC : Hid (chkF s = 0)) (a b : Int) (ha : Hou a) (hb : Hou b) (HAB : Hid ((a == b) = false)) (m n : Nat) (HMN : Hid (m % 12 = n)) (hm : m < 256) (zs : List Int) (hz : zs.length = 14) (hzb : ∀ k, k < 14 → 0 ≤ nth zs k ∧ nth zs k < 256) (HS : Hid (skyTo zs 12 = s)) (HA : Hid (skyA zs = a)) (HBv : Hid (skyB zs = b)) (w : World) (h6 : 6 ≤ w.heap.size) (hr : Rul w) :
    Calls Tryd.prog 6 #[.agg (bys zs), .int .u8 (m : Int)] w fun e w' => e = .returned (.bool true) ∧ Below w.heap.size w w' := by
  have HX := Lib.hid (Blk.new w 61 (bys zs))
  have hB0 := below1 w (.cells (bys zs) 61)
  have HIs := Lib.hid (show (Tryd.prog.info? 61).map (·.size) = some (bys zs).size by rw [show (bys zs).size = 14 by simp [bys, hz]]; exact info_sky)
  have HIh := Lib.hid (show (Tryd.prog.info? 24).map (·.size) = some (arr s).size by rw [arr_size, HL.out]; exact info_houses)
  have hn12 : n < 12 := by rw [← HMN.out]; omega
  have hmI : (m : Int) < 256 := by omega
  have hmr : (m : Int).tmod 12 = (n : Int) := by rw [Int.tmod_eq_emod_of_nonneg (by omega), ← HMN.out]; omega
  have hme : (m : Int) % 12 = (n : Int) := by rw [← HMN.out]; omega
  have hw64 : IntKind.i64.wrap (n : Int) = (n : Int) := IntWalk.i64_in _ (by omega)
  go_enter Tryd.func6, Tryd.ntmps6
  go_wp2_with (refine wpList_load_row rfl 61 (.tmp 2) rfl w.heap.size rfl 61 (bys zs) (0, 0) _ HX.out Tryd.underlying61 rfl HIs.out ?_)
  refine (sky_any zs hz hzb _).mono ?_
  rintro e w2 ⟨rfl, hb2⟩
  rw [HS.out, HA.out, HBv.out]
  have hB2 : Below w.heap.size w w2 := hB0.trans (hb2.mono hB0.size)
  clear hb2 hB0 HX HIs
  obtain ⟨S5, hS5⟩ : ∃ S5, w2.heap.size = S5 := ⟨_, rfl⟩
  have HZ := Lib.hid (newAt (W := w2) (o := .cells #[.int .i64 0, .int .i64 0, .int .i64 0, .int .i64 0, .int .i64 0, .int .i64 0, .int .i64 0, .int .i64 0, .int .i64 0, .int .i64 0, .int .i64 0, .int .i64 0] 24) hS5)
  have HH' : Hid (Blk ((w2.alloc (.cells #[.int .i64 0, .int .i64 0, .int .i64 0, .int .i64 0, .int .i64 0, .int .i64 0, .int .i64 0, .int .i64 0, .int .i64 0, .int .i64 0, .int .i64 0, .int .i64 0] 24)).setRow S5 (arr s)) S5 24 (arr s)) := Lib.hid (Blk.row HZ.out (arr s))
  have hb3 : Below w2.heap.size w2 ((w2.alloc (.cells #[.int .i64 0, .int .i64 0, .int .i64 0, .int .i64 0, .int .i64 0, .int .i64 0, .int .i64 0, .int .i64 0, .int .i64 0, .int .i64 0, .int .i64 0, .int .i64 0] 24)).setRow S5 (arr s)) := below_setRow (below1 w2 _) (by rw [hS5]; exact Nat.le_refl _) _
  obtain ⟨W3, hW3⟩ : ∃ W3, (w2.alloc (.cells #[.int .i64 0, .int .i64 0, .int .i64 0, .int .i64 0, .int .i64 0, .int .i64 0, .int .i64 0, .int .i64 0, .int .i64 0, .int .i64 0, .int .i64 0, .int .i64 0] 24)).setRow S5 (arr s) = W3 := ⟨_, rfl⟩
  rw [hW3] at HH' hb3
  obtain ⟨B8, hB8⟩ : ∃ B8, W3.heap.size = B8 := ⟨_, rfl⟩
  go_wp2_with (first
    | (refine wpList_store_row rfl 24 (.tmp 5) (.tmp 35) rfl S5 (arr s) rfl rfl 24 _ HZ.out HIh.out (by rw [arr_size, HL.out]; rfl) (arr_one _) ?_)
    | fail)
  have hB3 : Below w.heap.size w W3 := hB2.trans (hb3.mono hB2.size)
  have hwS : w.heap.size ≤ S5 := by rw [← hS5]; exact hB2.size
  have hT0 : Tu w S5 B8 s (tuTo s n 0) n ((W3.alloc (.cells #[.int .i64 (n : Int)] 3)).alloc (.cells #[.int .i64 0, .int .i64 0, .int .i64 0, .int .i64 0, .int .i64 0, .int .i64 0, .int .i64 0, .int .i64 0, .int .i64 0, .int .i64 0, .int .i64 0, .int .i64 0] 24)) :=
    ⟨(HH'.out.alloc _).alloc _, by rw [← hB8]; exact (Blk.new W3 _ _).alloc _, newAt (by simp [hB8]), (hB3.alloc hB3.size _).alloc (by simp; exact Nat.le_succ_of_le hB3.size) _⟩
  have HT0 := Lib.hid hT0
  have hS8 : S5 < B8 := by rw [← hB8]; exact HH'.out.lt
  clear hT0 hB3 hb3 hW3 hB2 HZ HH' hS5 hB8 hmr hme hw64 hmI
  generalize (W3.alloc (.cells #[.int .i64 (n : Int)] 3)).alloc (.cells #[.int .i64 0, .int .i64 0, .int .i64 0, .int .i64 0, .int .i64 0, .int .i64 0, .int .i64 0, .int .i64 0, .int .i64 0, .int .i64 0, .int .i64 0, .int .i64 0] 24) = W4 at *
  clear W3 w2
  go_loopw [11] (fun i wr => ∃ k : Nat, k ≤ 12 ∧ i = .int .i64 k ∧ Hid (Tu w S5 B8 s (tuTo s n k) n wr)) (fun i _ => 12 - (intOf i).toNat)
  case atStart => exact ⟨0, by omega, rfl, HT0⟩
  case round =>
    obtain ⟨k, hk, rfl, HT⟩ := hrel
    clear HT0
    by_cases hlt : k < 12
    · have hkI : (k : Int) < 12 := by omega
      obtain ⟨J, hJ⟩ : ∃ J, (k + n) % 12 = J := ⟨_, rfl⟩
      have hJ12 : J < 12 := by omega
      have hJI : (J : Int) < 12 := by omega
      have hon : onV n ((k : Int) + 1) = (J : Int) + 1 := by unfold onV; omega
      obtain ⟨v, hv⟩ : ∃ v, nth s k = v := ⟨_, rfl⟩
      have HTS := Lib.hid (show tuTo s n (k + 1) = (tuTo s n k).set J v by rw [tuTo, hJ, hv])
      have hcv : wr.cell? ⟨S5, k, none⟩ = some (.int .i64 v) := (HT.out.h5.cell k).trans (by rw [← hv]; exact arr_get (by rw [HL.out]; exact hlt))
      have hcn : wr.cell? ⟨B8, 0, none⟩ = some (.int .i64 (n : Int)) := HT.out.bn.cell 0
      have hcJ : wr.cell? ⟨B8 + 1, J, none⟩ = some (.int .i64 (nth (tuTo s n k) J)) := (HT.out.h10.cell J).trans (arr_get (by rw [tuTo_len]; exact hJ12))
      have hfJ : wr.frozen? ⟨B8 + 1, J, none⟩ = false := HT.out.h10.frozen J
      have hBl : B8 + 1 < wr.heap.size := HT.out.h10.lt
      have hw1 : IntKind.i64.wrap ((k : Int) + 1) = (k : Int) + 1 := IntWalk.i64_in _ (by omega)
      have hw2 : IntKind.i64.wrap ((J : Int) + 1 - 1) = (J : Int) := by rw [show (J : Int) + 1 - 1 = J by omega]; exact IntWalk.i64_in _ (by omega)
      have hw3 : IntKind.i64.wrap (J : Int) = (J : Int) := IntWalk.i64_in _ (by omega)
      clear hJ hv
      go_wp2
      refine wp_region_last follows_mixed [some 47, some 48, some 49, some 50, some 51, some 52, some 53, some 54, some 55, none] (by kernel_rfl) [(.func (.func 29) #[] #[.pointer (some ⟨B8, 0, none⟩)]), (.int .i64 (k : Int)), (.int .i64 ((k : Int) + 1)), (.int .i64 ((J : Int) + 1)), (.int .i64 (J : Int)), (.int .i64 (k : Int)), (.pointer (some ⟨S5, k, none⟩)), (.int .i64 v), (.pointer (some ⟨B8 + 1, J, none⟩))] rfl (by kernel_rfl) (fun x V' => x = undef ∧ ∃ V0 : World, Below wr.heap.size wr V0 ∧ V' = V0.setCell ⟨B8 + 1, J, none⟩ (.int .i64 v)) ?step ?last ?fin
      case step =>
        intro i hi a V F
        have hi : i < 9 := hi
        have e : i = 0 ∨ i = 1 ∨ i = 2 ∨ i = 3 ∨ i = 4 ∨ i = 5 ∨ i = 6 ∨ i = 7 ∨ i = 8 := by omega
        clear hi
        rcases e with rfl | rfl | rfl | rfl | rfl | rfl | rfl | rfl | rfl
        · have e9 : a.tmps[9]?.getD undef = (.func (.func 29) #[] #[.pointer (some ⟨B8, 0, none⟩)]) := (F.kept 9 (by kernel_rfl)).trans rfl
          refine wpOp_step rfl (fun K hK => ?_)
          refine Eq.mpr (if_pos (by rfl)) ?_
          go_simp
          exact hK _ _ ⟨rfl, Below.refl _ _⟩
        · have e11 : a.tmps[11]?.getD undef = (.int .i64 (k : Int)) := (F.kept 11 (by kernel_rfl)).trans rfl
          refine wpOp_step rfl (fun K hK => ?_)
          refine Eq.mpr (if_pos (by rfl)) ?_
          go_simp
          exact hK _ _ ⟨rfl, Below.refl _ _⟩
        · have e48 : a.tmps[48]?.getD undef = (.int .i64 (k : Int)) := F.dep 1 48 (by kernel_rfl) rfl
          refine wpOp_step rfl (fun K hK => ?_)
          refine Eq.mpr (if_pos (by rfl)) ?_
          go_simp
          exact hK _ _ ⟨rfl, Below.refl _ _⟩
        · have e47 : a.tmps[47]?.getD undef = (.func (.func 29) #[] #[.pointer (some ⟨B8, 0, none⟩)]) := F.dep 0 47 (by kernel_rfl) rfl
          have e49 : a.tmps[49]?.getD undef = (.int .i64 ((k : Int) + 1)) := F.dep 2 49 (by kernel_rfl) rfl
          refine wpOp_step rfl (fun K hK => ?_)
          refine Eq.mpr (if_pos (by rfl)) ?_
          go_simp
          go_wp2_with fail
          refine (on_any B8 n _ hn12 ⟨by omega, by omega⟩ _ (cell_tr F.below hcn)).mono ?_
          rintro e V2 ⟨rfl, rfl⟩
          rw [hon]
          exact hK _ _ ⟨rfl, Below.refl _ _⟩
        · have e50 : a.tmps[50]?.getD undef = (.int .i64 ((J : Int) + 1)) := F.dep 3 50 (by kernel_rfl) rfl
          refine wpOp_step rfl (fun K hK => ?_)
          refine Eq.mpr (if_pos (by rfl)) ?_
          go_simp
          exact hK _ _ ⟨rfl, Below.refl _ _⟩
        · have e11 : a.tmps[11]?.getD undef = (.int .i64 (k : Int)) := (F.kept 11 (by kernel_rfl)).trans rfl
          refine wpOp_step rfl (fun K hK => ?_)
          refine Eq.mpr (if_pos (by rfl)) ?_
          go_simp
          exact hK _ _ ⟨rfl, Below.refl _ _⟩
        · have e5 : a.tmps[5]?.getD undef = (.pointer (some ⟨S5, 0, none⟩)) := (F.kept 5 (by kernel_rfl)).trans rfl
          have e52 : a.tmps[52]?.getD undef = (.int .i64 (k : Int)) := F.dep 5 52 (by kernel_rfl) rfl
          refine wpOp_step rfl (fun K hK => ?_)
          refine Eq.mpr (if_pos (by rfl)) ?_
          go_simp
          exact hK _ _ ⟨rfl, Below.refl _ _⟩
        · have e53 : a.tmps[53]?.getD undef = (.pointer (some ⟨S5, k, none⟩)) := F.dep 6 53 (by kernel_rfl) rfl
          refine wpOp_step rfl (fun K hK => ?_)
          refine Eq.mpr (if_pos (by rfl)) ?_
          have hcc := cell_tr F.below hcv
          go_simp
          exact hK _ _ ⟨rfl, Below.refl _ _⟩
        · have e10 : a.tmps[10]?.getD undef = (.pointer (some ⟨B8 + 1, 0, none⟩)) := (F.kept 10 (by kernel_rfl)).trans rfl
          have e51 : a.tmps[51]?.getD undef = (.int .i64 (J : Int)) := F.dep 4 51 (by kernel_rfl) rfl
          refine wpOp_step rfl (fun K hK => ?_)
          refine Eq.mpr (if_pos (by rfl)) ?_
          go_simp
          exact hK _ _ ⟨rfl, Below.refl _ _⟩
      case last =>
        intro a V F
        have e55 : a.tmps[55]?.getD undef = (.pointer (some ⟨B8 + 1, J, none⟩)) := F.dep 8 55 (by kernel_rfl) rfl
        have e54 : a.tmps[54]?.getD undef = (.int .i64 v) := F.dep 7 54 (by kernel_rfl) rfl
        refine wpOp_step rfl (fun K hK => ?_)
        refine Eq.mpr (if_pos (by rfl)) ?_
        have hcc := cell_tr F.below hcJ
        have hfr : V.frozen? ⟨B8 + 1, J, none⟩ = false := (F.below.frozen (p := ⟨B8 + 1, J, none⟩) hBl).trans hfJ
        have hbV := F.below
        go_simp
        exact hK _ _ ⟨undef, rfl, rfl, V, hbV, rfl⟩
      case fin =>
        intro x V hL
        simp only [finV, List.cons_append, List.nil_append, List.set_cons_succ, List.set_cons_zero]
        obtain ⟨rfl, V0, hbV, rfl⟩ := hL
        have hT1 := HT.out.below hbV
        have HT1 := Lib.hid (show Tu w S5 B8 s (tuTo s n (k + 1)) n (V0.setCell ⟨B8 + 1, J, none⟩ (.int .i64 v)) from
          ⟨hT1.h5.far (by show S5 ≠ B8 + 1; omega) _, hT1.bn.far (by show B8 ≠ B8 + 1; omega) _, by rw [HTS.out, ← arr_set]; exact Blk.set_ hT1.h10 J _, hT1.b.setCell (p := ⟨B8 + 1, J, none⟩) (by show w.heap.size ≤ B8 + 1; omega) _⟩)
        clear hT1 HT HTS hbV hcv hcn hcJ hfJ hBl hw1 hw2 hw3 hon
        generalize V0.setCell ⟨B8 + 1, J, none⟩ (.int .i64 v) = V1 at *
        go_wp2
        go_roundw
        case rel => exact ⟨k + 1, by omega, by go_num, HT1⟩
        case measure => simp [intOf]; omega
    · obtain rfl : k = 12 := by omega
      rw [tuTo_all s hn12] at HT
      obtain ⟨kk, hkk⟩ : ∃ kk, turnL s n = kk := ⟨_, rfl⟩
      rw [hkk] at HT
      have HKK := Lib.hid hkk
      clear hkk hlt hk
      have H10 := Lib.hid HT.out.h10
      have HX5 := Lib.hid HT.out.h5
      have h6w := Nat.le_trans h6 HT.out.b.size
      have HLk := Lib.hid (show kk.length = 12 by rw [← HKK.out]; exact turnL_len s n)
      have HCk := Lib.hid (show chkF kk = 0 by rw [← HKK.out]; exact chk_turn HC.out HL.out n)
      have HIk := Lib.hid (show (Tryd.prog.info? 24).map (·.size) = some (arr kk).size by rw [arr_size, HLk.out]; exact info_houses)
      have hA' := onV_hou n a
      have hB' := onV_hou n b
      have hab' : onV n a ≠ onV n b := fun e => by
        have := onV_inj ha hb e
        have h := HAB.out
        rw [this] at h
        simp at h
      obtain ⟨a', ha'⟩ : ∃ a', onV n a = a' := ⟨_, rfl⟩
      obtain ⟨b', hb'⟩ : ∃ b', onV n b = b' := ⟨_, rfl⟩
      rw [ha'] at hA' hab'
      rw [hb'] at hB' hab'
      have HAB' := Lib.hid (show (a' == b') = false by simpa using hab')
      have HA' := Lib.hid ha'
      have HB' := Lib.hid hb'
      clear ha' hb' hab'
      go_wp2_with (refine wpList_load_row rfl 24 (.tmp 5) rfl S5 rfl 24 (arr s) (0, 0) _ HX5.out Tryd.underlying24 rfl HIh.out ?_)
      refine (ties_list HL.out HC a b ha hb HAB wr h6w).mono ?_
      rintro e w5 ⟨⟨v1, ts, rfl, hp1, ho1⟩, hb5⟩
      obtain ⟨p1, c1, rfl, hR1, _⟩ := Rows3.of_owns ho1
      obtain ⟨N, hN⟩ : ∃ N, ts.length = N := ⟨_, rfl⟩
      rw [hN]
      have HN := Lib.hid hN
      have HP1 := Lib.hid hp1
      have HR1 := Lib.hid hR1
      have HT5 := Lib.hid (HT.out.below hb5)
      clear hN hp1 hR1 ho1 HT HX5 H10 hb5 h6w
      have h6w5 := Nat.le_trans h6 HT5.out.b.size
      have H10 := Lib.hid HT5.out.h10
      have hcn0 : w5.cell? ⟨B8, 0, none⟩ = some (.int .i64 (n : Int)) := HT5.out.bn.cell 0
      go_wp2_with fail
      refine wp_region_mono follows_mixed [some 64, some 65, some 66, some 67, some 68, some 69, some 70, some 71, some 63, some 72, some 73, some 14, some 15] (by kernel_rfl) (TwR kk (.func (.func 29) #[] #[.pointer (some ⟨B8, 0, none⟩)]) a b a' b' 66 (fun us => us.Perm (rawL kk a' b')) w5.heap.size) (TwR.stab _ _ _ _ _ _ _ _ _) ?step ?fin
      case step =>
        intro i hi a1 V FD
        have hi : i < 13 := hi
        have e : i = 0 ∨ i = 1 ∨ i = 2 ∨ i = 3 ∨ i = 4 ∨ i = 5 ∨ i = 6 ∨ i = 7 ∨ i = 8 ∨ i = 9 ∨ i = 10 ∨ i = 11 ∨ i = 12 := by omega
        clear hi
        have hcn := cell_tr FD.below hcn0
        have hV6 : 6 ≤ V.heap.size := Nat.le_trans h6w5 FD.below.size
        rcases e with rfl | rfl | rfl | rfl | rfl | rfl | rfl | rfl | rfl | rfl | rfl | rfl | rfl
        · have e10 : a1.tmps[10]?.getD undef = (.pointer (some ⟨B8 + 1, 0, none⟩)) := (FD.kept 10 (by kernel_rfl)).trans rfl
          refine wpOp_step rfl (fun K hK => ?_)
          refine Eq.mpr (if_pos (by rfl)) ?_
          exact oper_load_row 24 (.tmp 10) rfl (B8 + 1) (eval_tmp e10) 24 (arr kk) (0, 0) _ (H10.out.below FD.below H10.out.lt) Tryd.underlying24 rfl HIk.out (hK _ _ ⟨_, rfl, rfl, Below.refl _ _⟩)
        · have e9 : a1.tmps[9]?.getD undef = (.func (.func 29) #[] #[.pointer (some ⟨B8, 0, none⟩)]) := (FD.kept 9 (by kernel_rfl)).trans rfl
          refine wpOp_step rfl (fun K hK => ?_)
          refine Eq.mpr (if_pos (by rfl)) ?_
          go_simp
          exact hK _ _ ⟨_, rfl, rfl, Below.refl _ _⟩
        · have e6 : a1.tmps[6]?.getD undef = (.int .i64 a) := (FD.kept 6 (by kernel_rfl)).trans rfl
          refine wpOp_step rfl (fun K hK => ?_)
          refine Eq.mpr (if_pos (by rfl)) ?_
          go_simp
          exact hK _ _ ⟨_, rfl, rfl, Below.refl _ _⟩
        · have e65 : a1.tmps[65]?.getD undef = (.func (.func 29) #[] #[.pointer (some ⟨B8, 0, none⟩)]) := by
            obtain ⟨x, hx, ht⟩ := FD.dep 1 (by kernel_rfl)
            rw [ht 65 rfl]; exact hx
          have e66 : a1.tmps[66]?.getD undef = (.int .i64 a) := by
            obtain ⟨x, hx, ht⟩ := FD.dep 2 (by kernel_rfl)
            rw [ht 66 rfl]; exact hx
          refine wpOp_step rfl (fun K hK => ?_)
          refine Eq.mpr (if_pos (by rfl)) ?_
          go_simp
          go_wp2_with fail
          refine (on_any B8 n a hn12 ha _ hcn).mono ?_
          rintro e V2 ⟨rfl, rfl⟩
          rw [HA'.out]
          exact hK _ _ ⟨_, rfl, rfl, Below.refl _ _⟩
        · have e9 : a1.tmps[9]?.getD undef = (.func (.func 29) #[] #[.pointer (some ⟨B8, 0, none⟩)]) := (FD.kept 9 (by kernel_rfl)).trans rfl
          refine wpOp_step rfl (fun K hK => ?_)
          refine Eq.mpr (if_pos (by rfl)) ?_
          go_simp
          exact hK _ _ ⟨_, rfl, rfl, Below.refl _ _⟩
        · have e7 : a1.tmps[7]?.getD undef = (.int .i64 b) := (FD.kept 7 (by kernel_rfl)).trans rfl
          refine wpOp_step rfl (fun K hK => ?_)
          refine Eq.mpr (if_pos (by rfl)) ?_
          go_simp
          exact hK _ _ ⟨_, rfl, rfl, Below.refl _ _⟩
        · have e68 : a1.tmps[68]?.getD undef = (.func (.func 29) #[] #[.pointer (some ⟨B8, 0, none⟩)]) := by
            obtain ⟨x, hx, ht⟩ := FD.dep 4 (by kernel_rfl)
            rw [ht 68 rfl]; exact hx
          have e69 : a1.tmps[69]?.getD undef = (.int .i64 b) := by
            obtain ⟨x, hx, ht⟩ := FD.dep 5 (by kernel_rfl)
            rw [ht 69 rfl]; exact hx
          refine wpOp_step rfl (fun K hK => ?_)
          refine Eq.mpr (if_pos (by rfl)) ?_
          go_simp
          go_wp2_with fail
          refine (on_any B8 n b hn12 hb _ hcn).mono ?_
          rintro e V2 ⟨rfl, rfl⟩
          rw [HB'.out]
          exact hK _ _ ⟨_, rfl, rfl, Below.refl _ _⟩
        · have e64 : a1.tmps[64]?.getD undef = (.agg (arr kk)) := by
            obtain ⟨x, hx, ht⟩ := FD.dep 0 (by kernel_rfl)
            rw [ht 64 rfl]; exact hx
          have e67 : a1.tmps[67]?.getD undef = (.int .i64 a') := by
            obtain ⟨x, hx, ht⟩ := FD.dep 3 (by kernel_rfl)
            rw [ht 67 rfl]; exact hx
          have e70 : a1.tmps[70]?.getD undef = (.int .i64 b') := by
            obtain ⟨x, hx, ht⟩ := FD.dep 6 (by kernel_rfl)
            rw [ht 70 rfl]; exact hx
          refine wpOp_step rfl (fun K hK => ?_)
          refine Eq.mpr (if_pos (by rfl)) ?_
          go_simp
          go_wp2_with fail
          refine (ties_list HLk.out HCk a' b' hA' hB' HAB' _ hV6).mono ?_
          rintro e V2 ⟨⟨v, us, rfl, hp, hown⟩, hb2⟩
          exact hK _ _ ⟨_, rfl, ⟨v, us, rfl, hp, ownsRow_base hown FD.below.size⟩, hb2⟩
        · obtain ⟨x7, hx7, ht7⟩ := FD.dep 7 (by kernel_rfl)
          have e71 := ht7 71 rfl
          refine wpOp_step rfl (fun K hK => ?_)
          refine Eq.mpr (if_pos (by rfl)) ?_
          go_simp
          exact hK _ _ ⟨_, rfl, hx7, Below.refl _ _⟩
        · obtain ⟨x8, ⟨v8, us8, rfl, hg8, ho8⟩, ht8⟩ := FD.dep 8 (by kernel_rfl)
          have e63 := ht8 63 rfl
          refine wpOp_step rfl (fun K hK => ?_)
          refine Eq.mpr (if_pos (by rfl)) ?_
          go_simp
          exact hK _ _ ⟨_, rfl, ⟨us8, hg8, ho8⟩, Below.refl _ _⟩
        · obtain ⟨x8, ⟨v8, us8, rfl, hg8, ho8⟩, ht8⟩ := FD.dep 8 (by kernel_rfl)
          have e63 := ht8 63 rfl
          refine wpOp_step rfl (fun K hK => ?_)
          refine Eq.mpr (if_pos (by rfl)) ?_
          go_simp
          exact hK _ _ ⟨_, rfl, rfl, Below.refl _ _⟩
        · obtain ⟨x9, hx9, ht9⟩ := FD.dep 9 (by kernel_rfl)
          have e72 := ht9 72 rfl
          refine wpOp_step rfl (fun K hK => ?_)
          refine Eq.mpr (if_pos (by rfl)) ?_
          go_simp
          exact hK _ _ ⟨_, rfl, hx9, Below.refl _ _⟩
        · have e73 : a1.tmps[73]?.getD undef = (.int .i64 0) := by
            obtain ⟨x, hx, ht⟩ := FD.dep 10 (by kernel_rfl)
            rw [ht 73 rfl]; exact hx
          refine wpOp_step rfl (fun K hK => ?_)
          refine Eq.mpr (if_pos (by rfl)) ?_
          go_simp
          exact hK _ _ ⟨_, rfl, rfl, Below.refl _ _⟩
      case fin =>
        intro vv V hbv hv
        obtain ⟨us, hgu, h11⟩ := hv 11 (by decide)
        have h12 : vv 12 = .int .i64 0 := hv 12 (by decide)
        obtain ⟨p2, c2, e11, R2, _⟩ := Rows3.of_owns h11
        simp only [finD, List.set_cons_succ, List.set_cons_zero, e11, h12]
        generalize vv 0 = x0
        generalize vv 1 = x1
        generalize vv 2 = x2
        generalize vv 3 = x3
        generalize vv 4 = x4
        generalize vv 5 = x5
        generalize vv 6 = x6
        generalize vv 7 = x7
        generalize vv 8 = x8
        generalize vv 9 = x9
        generalize vv 10 = x10
        clear hv h11 h12 e11
        have HU2 := Lib.hid hgu
        have hNu : us.length = N := by
          rw [hgu.length_eq, ← HKK.out, ← HA'.out, ← HB'.out, (raw_on hn12 ha hb).length_eq, List.length_map, ← HP1.out.length_eq]
          exact HN.out
        rw [hNu]
        have HN2 := Lib.hid hNu
        have HT6 := Lib.hid (HT5.out.below hbv)
        have HR16 := Lib.hid (HR1.out.below hbv (Nat.le_refl _))
        have HR2 := Lib.hid R2
        clear hgu hNu R2 HT5 HR1 H10 hcn0 h6w5 hbv
        have HX5 := Lib.hid HT6.out.h5
        have h6V := Nat.le_trans h6 HT6.out.b.size
        go_wp2_with (refine wpList_load_row rfl 24 (.tmp 5) rfl S5 rfl 24 (arr s) (0, 0) _ HX5.out Tryd.underlying24 rfl HIh.out ?_)
        refine (aspects_list HL.out HC a b ha hb HAB V h6V).mono ?_
        rintro e w7 ⟨⟨v3, rfl, ho3⟩, hb7⟩
        obtain ⟨xs, hxs⟩ : ∃ xs, asL b (standL s (fg s a) 12) = xs := ⟨_, rfl⟩
        rw [hxs] at ho3
        have HXS := Lib.hid hxs
        obtain ⟨p3, c3, rfl, hR3, _⟩ := Rows3.of_owns ho3
        obtain ⟨M, hM⟩ : ∃ M, xs.length = M := ⟨_, rfl⟩
        rw [hM]
        have HM := Lib.hid hM
        have HR3 := Lib.hid hR3
        have HT7 := Lib.hid (HT6.out.below hb7)
        have HR17 := Lib.hid (HR16.out.below hb7 (Nat.le_refl _))
        have HR27 := Lib.hid (HR2.out.below hb7 (Nat.le_refl _))
        clear hxs hM hR3 ho3 HT6 HR16 HR2 HX5 h6V hb7
        have h6w7 := Nat.le_trans h6 HT7.out.b.size
        have H10 := Lib.hid HT7.out.h10
        have hcn0 : w7.cell? ⟨B8, 0, none⟩ = some (.int .i64 (n : Int)) := HT7.out.bn.cell 0
        go_wp2_with fail
        refine wp_region_mono follows_mixed [some 82, some 83, some 84, some 85, some 86, some 87, some 88, some 89, some 81, some 90, some 91, some 18, some 19] (by kernel_rfl) (TwR kk (.func (.func 29) #[] #[.pointer (some ⟨B8, 0, none⟩)]) a b a' b' 72 (fun us => us = asL b' (standL kk (fg kk a') 12)) w7.heap.size) (TwR.stab _ _ _ _ _ _ _ _ _) ?step ?fin
        case step =>
          intro i hi a1 V FD
          have hi : i < 13 := hi
          have e : i = 0 ∨ i = 1 ∨ i = 2 ∨ i = 3 ∨ i = 4 ∨ i = 5 ∨ i = 6 ∨ i = 7 ∨ i = 8 ∨ i = 9 ∨ i = 10 ∨ i = 11 ∨ i = 12 := by omega
          clear hi
          have hcn := cell_tr FD.below hcn0
          have hV6 : 6 ≤ V.heap.size := Nat.le_trans h6w7 FD.below.size
          rcases e with rfl | rfl | rfl | rfl | rfl | rfl | rfl | rfl | rfl | rfl | rfl | rfl | rfl
          · have e10 : a1.tmps[10]?.getD undef = (.pointer (some ⟨B8 + 1, 0, none⟩)) := (FD.kept 10 (by kernel_rfl)).trans rfl
            refine wpOp_step rfl (fun K hK => ?_)
            refine Eq.mpr (if_pos (by rfl)) ?_
            exact oper_load_row 24 (.tmp 10) rfl (B8 + 1) (eval_tmp e10) 24 (arr kk) (0, 0) _ (H10.out.below FD.below H10.out.lt) Tryd.underlying24 rfl HIk.out (hK _ _ ⟨_, rfl, rfl, Below.refl _ _⟩)
          · have e9 : a1.tmps[9]?.getD undef = (.func (.func 29) #[] #[.pointer (some ⟨B8, 0, none⟩)]) := (FD.kept 9 (by kernel_rfl)).trans rfl
            refine wpOp_step rfl (fun K hK => ?_)
            refine Eq.mpr (if_pos (by rfl)) ?_
            go_simp
            exact hK _ _ ⟨_, rfl, rfl, Below.refl _ _⟩
          · have e6 : a1.tmps[6]?.getD undef = (.int .i64 a) := (FD.kept 6 (by kernel_rfl)).trans rfl
            refine wpOp_step rfl (fun K hK => ?_)
            refine Eq.mpr (if_pos (by rfl)) ?_
            go_simp
            exact hK _ _ ⟨_, rfl, rfl, Below.refl _ _⟩
          · have e83 : a1.tmps[83]?.getD undef = (.func (.func 29) #[] #[.pointer (some ⟨B8, 0, none⟩)]) := by
              obtain ⟨x, hx, ht⟩ := FD.dep 1 (by kernel_rfl)
              rw [ht 83 rfl]; exact hx
            have e84 : a1.tmps[84]?.getD undef = (.int .i64 a) := by
              obtain ⟨x, hx, ht⟩ := FD.dep 2 (by kernel_rfl)
              rw [ht 84 rfl]; exact hx
            refine wpOp_step rfl (fun K hK => ?_)
            refine Eq.mpr (if_pos (by rfl)) ?_
            go_simp
            go_wp2_with fail
            refine (on_any B8 n a hn12 ha _ hcn).mono ?_
            rintro e V2 ⟨rfl, rfl⟩
            rw [HA'.out]
            exact hK _ _ ⟨_, rfl, rfl, Below.refl _ _⟩
          · have e9 : a1.tmps[9]?.getD undef = (.func (.func 29) #[] #[.pointer (some ⟨B8, 0, none⟩)]) := (FD.kept 9 (by kernel_rfl)).trans rfl
            refine wpOp_step rfl (fun K hK => ?_)
            refine Eq.mpr (if_pos (by rfl)) ?_
            go_simp
            exact hK _ _ ⟨_, rfl, rfl, Below.refl _ _⟩
          · have e7 : a1.tmps[7]?.getD undef = (.int .i64 b) := (FD.kept 7 (by kernel_rfl)).trans rfl
            refine wpOp_step rfl (fun K hK => ?_)
            refine Eq.mpr (if_pos (by rfl)) ?_
            go_simp
            exact hK _ _ ⟨_, rfl, rfl, Below.refl _ _⟩
          · have e86 : a1.tmps[86]?.getD undef = (.func (.func 29) #[] #[.pointer (some ⟨B8, 0, none⟩)]) := by
              obtain ⟨x, hx, ht⟩ := FD.dep 4 (by kernel_rfl)
              rw [ht 86 rfl]; exact hx
            have e87 : a1.tmps[87]?.getD undef = (.int .i64 b) := by
              obtain ⟨x, hx, ht⟩ := FD.dep 5 (by kernel_rfl)
              rw [ht 87 rfl]; exact hx
            refine wpOp_step rfl (fun K hK => ?_)
            refine Eq.mpr (if_pos (by rfl)) ?_
            go_simp
            go_wp2_with fail
            refine (on_any B8 n b hn12 hb _ hcn).mono ?_
            rintro e V2 ⟨rfl, rfl⟩
            rw [HB'.out]
            exact hK _ _ ⟨_, rfl, rfl, Below.refl _ _⟩
          · have e82 : a1.tmps[82]?.getD undef = (.agg (arr kk)) := by
              obtain ⟨x, hx, ht⟩ := FD.dep 0 (by kernel_rfl)
              rw [ht 82 rfl]; exact hx
            have e85 : a1.tmps[85]?.getD undef = (.int .i64 a') := by
              obtain ⟨x, hx, ht⟩ := FD.dep 3 (by kernel_rfl)
              rw [ht 85 rfl]; exact hx
            have e88 : a1.tmps[88]?.getD undef = (.int .i64 b') := by
              obtain ⟨x, hx, ht⟩ := FD.dep 6 (by kernel_rfl)
              rw [ht 88 rfl]; exact hx
            refine wpOp_step rfl (fun K hK => ?_)
            refine Eq.mpr (if_pos (by rfl)) ?_
            go_simp
            go_wp2_with fail
            refine (aspects_list HLk.out HCk a' b' hA' hB' HAB' _ hV6).mono ?_
            rintro e V2 ⟨⟨v, rfl, hown⟩, hb2⟩
            exact hK _ _ ⟨_, rfl, ⟨v, _, rfl, rfl, ownsRow_base hown FD.below.size⟩, hb2⟩
          · obtain ⟨x7, hx7, ht7⟩ := FD.dep 7 (by kernel_rfl)
            have e89 := ht7 89 rfl
            refine wpOp_step rfl (fun K hK => ?_)
            refine Eq.mpr (if_pos (by rfl)) ?_
            go_simp
            exact hK _ _ ⟨_, rfl, hx7, Below.refl _ _⟩
          · obtain ⟨x8, ⟨v8, us8, rfl, hg8, ho8⟩, ht8⟩ := FD.dep 8 (by kernel_rfl)
            have e81 := ht8 81 rfl
            refine wpOp_step rfl (fun K hK => ?_)
            refine Eq.mpr (if_pos (by rfl)) ?_
            go_simp
            exact hK _ _ ⟨_, rfl, ⟨us8, hg8, ho8⟩, Below.refl _ _⟩
          · obtain ⟨x8, ⟨v8, us8, rfl, hg8, ho8⟩, ht8⟩ := FD.dep 8 (by kernel_rfl)
            have e81 := ht8 81 rfl
            refine wpOp_step rfl (fun K hK => ?_)
            refine Eq.mpr (if_pos (by rfl)) ?_
            go_simp
            exact hK _ _ ⟨_, rfl, rfl, Below.refl _ _⟩
          · obtain ⟨x9, hx9, ht9⟩ := FD.dep 9 (by kernel_rfl)
            have e90 := ht9 90 rfl
            refine wpOp_step rfl (fun K hK => ?_)
            refine Eq.mpr (if_pos (by rfl)) ?_
            go_simp
            exact hK _ _ ⟨_, rfl, hx9, Below.refl _ _⟩
          · have e91 : a1.tmps[91]?.getD undef = (.int .i64 0) := by
              obtain ⟨x, hx, ht⟩ := FD.dep 10 (by kernel_rfl)
              rw [ht 91 rfl]; exact hx
            refine wpOp_step rfl (fun K hK => ?_)
            refine Eq.mpr (if_pos (by rfl)) ?_
            go_simp
            exact hK _ _ ⟨_, rfl, rfl, Below.refl _ _⟩
        case fin =>
          intro yy V2 hbv hv
          obtain ⟨ys, hgy, h11⟩ := hv 11 (by decide)
          have h12 : yy 12 = .int .i64 0 := hv 12 (by decide)
          obtain ⟨p4, c4, e11, R4, _⟩ := Rows3.of_owns h11
          simp only [finD, List.set_cons_succ, List.set_cons_zero, e11, h12]
          generalize yy 0 = y0
          generalize yy 1 = y1
          generalize yy 2 = y2
          generalize yy 3 = y3
          generalize yy 4 = y4
          generalize yy 5 = y5
          generalize yy 6 = y6
          generalize yy 7 = y7
          generalize yy 8 = y8
          generalize yy 9 = y9
          generalize yy 10 = y10
          clear hv h11 h12 e11
          have HYP := Lib.hid (show ys.Perm (xs.map (onT n)) by
            rw [hgy, ← HKK.out, ← HA'.out, ← HB'.out, fg_turn s hn12 ha, ← HXS.out]
            exact as_on hn12 hb _)
          have hNy : ys.length = M := by rw [HYP.out.length_eq, List.length_map]; exact HM.out
          rw [hNy]
          have HM2 := Lib.hid hNy
          have HN40 := Lib.hid (show N ≤ 40 by rw [← HN.out, HP1.out.length_eq]; exact rawL_len _ _ _)
          have HM12 := Lib.hid (show M ≤ 12 by rw [← HM.out, ← HXS.out]; exact Nat.le_trans (asL_len _ _) (standL_len _ _ _))
          have HMT := Lib.hid (show ∀ t ∈ ts, onT n t ∈ us ∧ Hou t.2.1 ∧ Hou t.2.2 from fun t ht => by
            have h1 := HP1.out.mem_iff.1 ht
            have h2 := isT_hou ha hb (mem_raw.1 h1)
            refine ⟨HU2.out.mem_iff.2 ?_, h2.1, h2.2⟩
            rw [← HKK.out, ← HA'.out, ← HB'.out]
            exact (raw_on hn12 ha hb).mem_iff.2 (List.mem_map_of_mem h1))
          have HMA := Lib.hid (show ∀ t ∈ xs, onT n t ∈ ys ∧ Hou t.2.1 ∧ Hou t.2.2 from fun t ht => by
            have h1 : t ∈ asL b (standL s (fg s a) 12) := by rw [HXS.out]; exact ht
            obtain ⟨h2, h3⟩ := asL_mem h1
            exact ⟨HYP.out.mem_iff.2 (List.mem_map_of_mem ht), (standL_mem.1 h2).1, by rw [h3]; exact hb⟩)
          have HV0 := Lib.hid (show Tv w S5 B8 s kk n p1 ts p2 us p3 xs p4 ys V2 from ⟨HT7.out.below hbv, HR17.out.below hbv (Nat.le_refl _), HR27.out.below hbv (Nat.le_refl _), HR3.out.below hbv (Nat.le_refl _), R4⟩)
          clear hgy hNy R4 hbv HT7 HR17 HR27 HR3 H10 hcn0 h6w7 HYP HU2 HP1 HXS
          generalize Value.agg (bys zs) = J1
          go_wp2
          go_loopw [20] (fun i wr => ∃ k : Nat, k ≤ N ∧ i = .int .i64 k ∧ Hid (Tv w S5 B8 s kk n p1 ts p2 us p3 xs p4 ys wr)) (fun i _ => N - (intOf i).toNat)
          case atStart => exact ⟨0, by omega, rfl, HV0⟩
          case round =>
            obtain ⟨k, hk, rfl, HV⟩ := hrel
            clear HV0
            have hNb := HN40.out
            by_cases hlt : k < N
            · obtain ⟨t, ht⟩ : ∃ t, nthT ts k = t := ⟨_, rfl⟩
              obtain ⟨hin, hX, hY⟩ := HMT.out t (by rw [← ht]; exact nthT_mem (by rw [HN.out]; exact hlt))
              obtain ⟨g1, hg1, d0, d1, d2⟩ := HV.out.r1 k (by rw [HN.out]; exact hlt)
              rw [ht] at d0 d1 d2
              clear ht
              obtain ⟨q, x, y⟩ := t
              obtain ⟨x', hx'⟩ : ∃ x', onV n x = x' := ⟨_, rfl⟩
              obtain ⟨y', hy'⟩ : ∃ y', onV n y = y' := ⟨_, rfl⟩
              have hin : (q, x', y') ∈ us := by rw [← hx', ← hy']; exact hin
              have HIN := Lib.hid hin
              have HX' := Lib.hid hx'
              have HY' := Lib.hid hy'
              have hX : Hou x := hX
              have hY : Hou y := hY
              have hx1 : (1 : Int) ≤ x := hX.1
              have hy1 : (1 : Int) ≤ y := hY.1
              have HG1 := Lib.hid hg1
              clear hin hx' hy' hg1
              have hki : (k : Int) < (N : Int) := Int.ofNat_lt.2 hlt
              go_wp2
              go_loopw [21, 22] (fun f i wz => ∃ j : Nat, j ≤ N ∧ i = .int .i64 j ∧ f = .bool (fTo us (q, x', y') j) ∧ ∃ r, wz = wr.drewN r) (fun _ i _ => N - (intOf i).toNat)
              case atStart => exact ⟨0, by omega, rfl, rfl, 0, rfl⟩
              case round =>
                obtain ⟨j, hj, rfl, rfl, r, rfl⟩ := hrel
                by_cases hjt : j < N
                · obtain ⟨g2, hg2, d3, d4, d5⟩ := HV.out.r2 j (by rw [HN2.out]; exact hjt)
                  obtain ⟨u, hu⟩ : ∃ u, nthT us j = u := ⟨_, rfl⟩
                  rw [hu] at d3 d4 d5
                  have HFS := Lib.hid (show fTo us (q, x', y') (j + 1) = (fTo us (q, x', y') j || decide (u = (q, x', y'))) by rw [fTo_succ, hu])
                  obtain ⟨q2, x2, y2⟩ := u
                  have c0 : wr.cell? ⟨g1, k * 3, none⟩ = some (.int .i64 q) := d0
                  have c1 : wr.cell? ⟨g1, k * 3 + 1, none⟩ = some (.int .i64 x) := d1
                  have c2 : wr.cell? ⟨g1, k * 3 + 2, none⟩ = some (.int .i64 y) := d2
                  have c3 : wr.cell? ⟨g2, j * 3, none⟩ = some (.int .i64 q2) := d3
                  have c4 : wr.cell? ⟨g2, j * 3 + 1, none⟩ = some (.int .i64 x2) := d4
                  have c5 : wr.cell? ⟨g2, j * 3 + 2, none⟩ = some (.int .i64 y2) := d5
                  have cn : wr.cell? ⟨B8, 0, none⟩ = some (.int .i64 (n : Int)) := HV.out.tu.bn.cell 0
                  clear d3 d4 d5 hu
                  have hji : (j : Int) < (N : Int) := Int.ofNat_lt.2 hjt
                  have HG1 := HG1.out
                  subst HG1
                  subst hg2
                  cases hf : fTo us (q, x', y') j
                  · rw [hf] at HFS
                    go_wp2
                    refine wp_region_quiet_lit (by kernel_rfl) (by kernel_rfl) ?_
                    repeat (go_big_quiet_step (first
                      | (go_at_call_of 29 (Value.int IntKind.i64 x); refine (on_q B8 n x x' hn12 hX HX'.out _ ?_).mono (fun e w' h => ⟨h.1, _, h.2⟩); exact cn)
                      | (go_at_call_of 29 (Value.int IntKind.i64 y); refine (on_q B8 n y y' hn12 hY HY'.out _ ?_).mono (fun e w' h => ⟨h.1, _, h.2⟩); exact cn)))
                    go_big_quiet_want
                    refine quiet_eql_tie (.tmp 152) (.tmp 172) rfl q2 x2 y2 q x' y' rfl rfl ?_
                    go_big_quiet_on
                    go_frame
                    have HF := Lib.hid (show fTo us (q, x', y') (j + 1) = decide ((q2, x2, y2) = (q, x', y')) by rw [HFS.out]; simp)
                    repeat (go_big_quiet_step (fail))
                    refine wpQuiet_nil ?_
                    intro _ hw'
                    obtain ⟨nq, hw''⟩ := hw'
                    subst hw''
                    go_wp2
                    go_roundw
                    case rel => (go_light; exact ⟨j + 1, by omega, by go_num, by rw [HF.out]; simp [Prod.mk.injEq, Bool.decide_and], _, rfl⟩)
                    case measure => (go_light; simp [intOf]; omega)
                  · have HF := Lib.hid (show fTo us (q, x', y') (j + 1) = true by rw [HFS.out, hf]; rfl)
                    clear HFS
                    go_wp2
                    go_quiet (fail)
                    go_wp2
                    go_roundw
                    case rel => (go_light; exact ⟨j + 1, by omega, by go_num, by rw [HF.out], _, rfl⟩)
                    case measure => (go_light; simp [intOf]; omega)
                · obtain rfl : N = j := Nat.le_antisymm (Nat.le_of_not_lt hjt) hj
                  have hfa : fTo us (q, x', y') N = true := by rw [← HN2.out]; exact fTo_all HIN.out
                  rw [hfa]
                  have hji : ¬ ((N : Int) < (N : Int)) := Int.lt_irrefl _
                  have HVn := Lib.hid (show Tv w S5 B8 s kk n p1 ts p2 us p3 xs p4 ys (wr.drewN r) from HV.out.below (below_drewN (Below.refl _ _) _))
                  clear hfa HV
                  go_wp2
                  go_roundw
                  case rel => (go_light; exact ⟨k + 1, by omega, by go_num, HVn⟩)
                  case measure => (go_light; simp [intOf]; omega)
            · obtain rfl : N = k := Nat.le_antisymm (Nat.le_of_not_lt hlt) hk
              have hki : ¬ ((N : Int) < (N : Int)) := Int.lt_irrefl _
              have HV0 := HV
              clear HV hlt hk
              go_wp2
              go_loopw [23] (fun i wr => ∃ k : Nat, k ≤ M ∧ i = .int .i64 k ∧ Hid (Tv w S5 B8 s kk n p1 ts p2 us p3 xs p4 ys wr)) (fun i _ => M - (intOf i).toNat)
              case atStart => exact ⟨0, by omega, rfl, HV0⟩
              case round =>
                obtain ⟨k, hk, rfl, HV⟩ := hrel
                clear HV0
                have hNb := HM12.out
                by_cases hlt : k < M
                · obtain ⟨t, ht⟩ : ∃ t, nthT xs k = t := ⟨_, rfl⟩
                  obtain ⟨hin, hX, hY⟩ := HMA.out t (by rw [← ht]; exact nthT_mem (by rw [HM.out]; exact hlt))
                  obtain ⟨g1, hg1, d0, d1, d2⟩ := HV.out.r3 k (by rw [HM.out]; exact hlt)
                  rw [ht] at d0 d1 d2
                  clear ht
                  obtain ⟨q, x, y⟩ := t
                  obtain ⟨x', hx'⟩ : ∃ x', onV n x = x' := ⟨_, rfl⟩
                  obtain ⟨y', hy'⟩ : ∃ y', onV n y = y' := ⟨_, rfl⟩
                  have hin : (q, x', y') ∈ ys := by rw [← hx', ← hy']; exact hin
                  have HIN := Lib.hid hin
                  have HX' := Lib.hid hx'
                  have HY' := Lib.hid hy'
                  have hX : Hou x := hX
                  have hY : Hou y := hY
                  have hx1 : (1 : Int) ≤ x := hX.1
                  have hy1 : (1 : Int) ≤ y := hY.1
                  have HG1 := Lib.hid hg1
                  clear hin hx' hy' hg1
                  have hki : (k : Int) < (M : Int) := Int.ofNat_lt.2 hlt
                  go_wp2
                  go_loopw [24, 25] (fun f i wz => ∃ j : Nat, j ≤ M ∧ i = .int .i64 j ∧ f = .bool (fTo ys (q, x', y') j) ∧ ∃ r, wz = wr.drewN r) (fun _ i _ => M - (intOf i).toNat)
                  case atStart => exact ⟨0, by omega, rfl, rfl, 0, rfl⟩
                  case round =>
                    obtain ⟨j, hj, rfl, rfl, r, rfl⟩ := hrel
                    by_cases hjt : j < M
                    · obtain ⟨g2, hg2, d3, d4, d5⟩ := HV.out.r4 j (by rw [HM2.out]; exact hjt)
                      obtain ⟨u, hu⟩ : ∃ u, nthT ys j = u := ⟨_, rfl⟩
                      rw [hu] at d3 d4 d5
                      have HFS := Lib.hid (show fTo ys (q, x', y') (j + 1) = (fTo ys (q, x', y') j || decide (u = (q, x', y'))) by rw [fTo_succ, hu])
                      obtain ⟨q2, x2, y2⟩ := u
                      have c0 : wr.cell? ⟨g1, k * 3, none⟩ = some (.int .i64 q) := d0
                      have c1 : wr.cell? ⟨g1, k * 3 + 1, none⟩ = some (.int .i64 x) := d1
                      have c2 : wr.cell? ⟨g1, k * 3 + 2, none⟩ = some (.int .i64 y) := d2
                      have c3 : wr.cell? ⟨g2, j * 3, none⟩ = some (.int .i64 q2) := d3
                      have c4 : wr.cell? ⟨g2, j * 3 + 1, none⟩ = some (.int .i64 x2) := d4
                      have c5 : wr.cell? ⟨g2, j * 3 + 2, none⟩ = some (.int .i64 y2) := d5
                      have cn : wr.cell? ⟨B8, 0, none⟩ = some (.int .i64 (n : Int)) := HV.out.tu.bn.cell 0
                      clear d3 d4 d5 hu
                      have hji : (j : Int) < (M : Int) := Int.ofNat_lt.2 hjt
                      have HG1 := HG1.out
                      subst HG1
                      subst hg2
                      cases hf : fTo ys (q, x', y') j
                      · rw [hf] at HFS
                        go_wp2
                        refine wp_region_quiet_lit (by kernel_rfl) (by kernel_rfl) ?_
                        repeat (go_big_quiet_step (first
                          | (go_at_call_of 29 (Value.int IntKind.i64 x); refine (on_q B8 n x x' hn12 hX HX'.out _ ?_).mono (fun e w' h => ⟨h.1, _, h.2⟩); exact cn)
                          | (go_at_call_of 29 (Value.int IntKind.i64 y); refine (on_q B8 n y y' hn12 hY HY'.out _ ?_).mono (fun e w' h => ⟨h.1, _, h.2⟩); exact cn)))
                        go_big_quiet_want
                        refine quiet_eql_asp (.tmp 210) (.tmp 230) rfl q2 x2 y2 q x' y' rfl rfl ?_
                        go_big_quiet_on
                        go_frame
                        have HF := Lib.hid (show fTo ys (q, x', y') (j + 1) = decide ((q2, x2, y2) = (q, x', y')) by rw [HFS.out]; simp)
                        repeat (go_big_quiet_step (fail))
                        refine wpQuiet_nil ?_
                        intro _ hw'
                        obtain ⟨nq, hw''⟩ := hw'
                        subst hw''
                        go_wp2
                        go_roundw
                        case rel => (go_light; exact ⟨j + 1, by omega, by go_num, by rw [HF.out]; simp [Prod.mk.injEq, Bool.decide_and], _, rfl⟩)
                        case measure => (go_light; simp [intOf]; omega)
                      · have HF := Lib.hid (show fTo ys (q, x', y') (j + 1) = true by rw [HFS.out, hf]; rfl)
                        clear HFS
                        go_wp2
                        go_quiet (fail)
                        go_wp2
                        go_roundw
                        case rel => (go_light; exact ⟨j + 1, by omega, by go_num, by rw [HF.out], _, rfl⟩)
                        case measure => (go_light; simp [intOf]; omega)
                    · obtain rfl : M = j := Nat.le_antisymm (Nat.le_of_not_lt hjt) hj
                      have hfa : fTo ys (q, x', y') M = true := by rw [← HM2.out]; exact fTo_all HIN.out
                      rw [hfa]
                      have hji : ¬ ((M : Int) < (M : Int)) := Int.lt_irrefl _
                      have HVn := Lib.hid (show Tv w S5 B8 s kk n p1 ts p2 us p3 xs p4 ys (wr.drewN r) from HV.out.below (below_drewN (Below.refl _ _) _))
                      clear hfa HV
                      go_wp2
                      go_roundw
                      case rel => (go_light; exact ⟨k + 1, by omega, by go_num, HVn⟩)
                      case measure => (go_light; simp [intOf]; omega)
                · obtain rfl : M = k := Nat.le_antisymm (Nat.le_of_not_lt hlt) hk
                  have hki : ¬ ((M : Int) < (M : Int)) := Int.lt_irrefl _
                  have HV0 := HV
                  clear HV hlt hk
                  have HX5 := Lib.hid HV0.out.tu.h5
                  have h6V := Nat.le_trans h6 HV0.out.tu.b.size
                  go_wp2_with (refine wpList_load_row rfl 24 (.tmp 5) rfl S5 rfl 24 (arr s) (0, 0) _ HX5.out Tryd.underlying24 rfl HIh.out ?_)
                  refine (judge_list HL.out HC a b ha hb HAB wr h6V).mono ?_
                  rintro e w9 ⟨rfl, hb9⟩
                  have HJ := Lib.hid (show jdg kk a' b' = jdg s a b by rw [← HKK.out, ← HA'.out, ← HB'.out]; exact jdg_on hn12 ha hb)
                  obtain ⟨VJ, hVJ⟩ : ∃ VJ, jdg s a b = VJ := ⟨_, rfl⟩
                  rw [hVJ] at HJ ⊢
                  have HT9 := Lib.hid (HV0.out.tu.below hb9)
                  clear hVJ hb9 HV0 HX5 h6V
                  have h6w9 := Nat.le_trans h6 HT9.out.b.size
                  have H10 := Lib.hid HT9.out.h10
                  have hcn0 : w9.cell? ⟨B8, 0, none⟩ = some (.int .i64 (n : Int)) := HT9.out.bn.cell 0
                  go_wp2_with fail
                  refine wp_region_vals follows_mixed [some 244, some 245, some 246, some 247, some 248, some 249, some 250, some 251, some 243, some 252, some 253, some 27, some 15] (by kernel_rfl) [(.agg (arr kk)), (.func (.func 29) #[] #[.pointer (some ⟨B8, 0, none⟩)]), (.int .i64 a), (.int .i64 a'), (.func (.func 29) #[] #[.pointer (some ⟨B8, 0, none⟩)]), (.int .i64 b), (.int .i64 b'), (.tuple #[.int .i64 VJ, .int .i64 0]), (.tuple #[.int .i64 VJ, .int .i64 0]), (.int .i64 VJ), (.int .i64 0), (.int .i64 VJ), (.int .i64 0)] rfl ?step ?fin
                  case step =>
                    intro i hi a1 V F
                    have hi : i < 13 := hi
                    have e : i = 0 ∨ i = 1 ∨ i = 2 ∨ i = 3 ∨ i = 4 ∨ i = 5 ∨ i = 6 ∨ i = 7 ∨ i = 8 ∨ i = 9 ∨ i = 10 ∨ i = 11 ∨ i = 12 := by omega
                    clear hi
                    rcases e with rfl | rfl | rfl | rfl | rfl | rfl | rfl | rfl | rfl | rfl | rfl | rfl | rfl
                    · have e10 : a1.tmps[10]?.getD undef = (.pointer (some ⟨B8 + 1, 0, none⟩)) := (F.kept 10 (by kernel_rfl)).trans rfl
                      refine wpOp_step rfl (fun K hK => ?_)
                      refine Eq.mpr (if_pos (by rfl)) ?_
                      exact oper_load_row 24 (.tmp 10) rfl (B8 + 1) (eval_tmp e10) 24 (arr kk) (0, 0) _ (H10.out.below F.below H10.out.lt) Tryd.underlying24 rfl HIk.out (hK _ _ ⟨rfl, Below.refl _ _⟩)
                    · have e9 : a1.tmps[9]?.getD undef = (.func (.func 29) #[] #[.pointer (some ⟨B8, 0, none⟩)]) := (F.kept 9 (by kernel_rfl)).trans rfl
                      refine wpOp_step rfl (fun K hK => ?_)
                      refine Eq.mpr (if_pos (by rfl)) ?_
                      go_simp
                      exact hK _ _ ⟨rfl, Below.refl _ _⟩
                    · have e6 : a1.tmps[6]?.getD undef = (.int .i64 a) := (F.kept 6 (by kernel_rfl)).trans rfl
                      refine wpOp_step rfl (fun K hK => ?_)
                      refine Eq.mpr (if_pos (by rfl)) ?_
                      go_simp
                      exact hK _ _ ⟨rfl, Below.refl _ _⟩
                    · have e245 : a1.tmps[245]?.getD undef = (.func (.func 29) #[] #[.pointer (some ⟨B8, 0, none⟩)]) := F.dep 1 245 (by kernel_rfl) rfl
                      have e246 : a1.tmps[246]?.getD undef = (.int .i64 a) := F.dep 2 246 (by kernel_rfl) rfl
                      refine wpOp_step rfl (fun K hK => ?_)
                      refine Eq.mpr (if_pos (by rfl)) ?_
                      go_simp
                      go_wp2_with fail
                      refine (on_any B8 n a hn12 ha _ (cell_tr F.below hcn0)).mono ?_
                      rintro e V2 ⟨rfl, rfl⟩
                      rw [HA'.out]
                      exact hK _ _ ⟨rfl, Below.refl _ _⟩
                    · have e9 : a1.tmps[9]?.getD undef = (.func (.func 29) #[] #[.pointer (some ⟨B8, 0, none⟩)]) := (F.kept 9 (by kernel_rfl)).trans rfl
                      refine wpOp_step rfl (fun K hK => ?_)
                      refine Eq.mpr (if_pos (by rfl)) ?_
                      go_simp
                      exact hK _ _ ⟨rfl, Below.refl _ _⟩
                    · have e7 : a1.tmps[7]?.getD undef = (.int .i64 b) := (F.kept 7 (by kernel_rfl)).trans rfl
                      refine wpOp_step rfl (fun K hK => ?_)
                      refine Eq.mpr (if_pos (by rfl)) ?_
                      go_simp
                      exact hK _ _ ⟨rfl, Below.refl _ _⟩
                    · have e248 : a1.tmps[248]?.getD undef = (.func (.func 29) #[] #[.pointer (some ⟨B8, 0, none⟩)]) := F.dep 4 248 (by kernel_rfl) rfl
                      have e249 : a1.tmps[249]?.getD undef = (.int .i64 b) := F.dep 5 249 (by kernel_rfl) rfl
                      refine wpOp_step rfl (fun K hK => ?_)
                      refine Eq.mpr (if_pos (by rfl)) ?_
                      go_simp
                      go_wp2_with fail
                      refine (on_any B8 n b hn12 hb _ (cell_tr F.below hcn0)).mono ?_
                      rintro e V2 ⟨rfl, rfl⟩
                      rw [HB'.out]
                      exact hK _ _ ⟨rfl, Below.refl _ _⟩
                    · have e244 : a1.tmps[244]?.getD undef = (.agg (arr kk)) := F.dep 0 244 (by kernel_rfl) rfl
                      have e247 : a1.tmps[247]?.getD undef = (.int .i64 a') := F.dep 3 247 (by kernel_rfl) rfl
                      have e250 : a1.tmps[250]?.getD undef = (.int .i64 b') := F.dep 6 250 (by kernel_rfl) rfl
                      refine wpOp_step rfl (fun K hK => ?_)
                      refine Eq.mpr (if_pos (by rfl)) ?_
                      go_simp
                      go_wp2_with fail
                      refine (judge_list HLk.out HCk a' b' hA' hB' HAB' _ (Nat.le_trans h6w9 F.below.size)).mono ?_
                      rintro e V2 ⟨rfl, hb2⟩
                      rw [HJ.out]
                      exact hK _ _ ⟨rfl, hb2⟩
                    · have e251 : a1.tmps[251]?.getD undef = (.tuple #[.int .i64 VJ, .int .i64 0]) := F.dep 7 251 (by kernel_rfl) rfl
                      refine wpOp_step rfl (fun K hK => ?_)
                      refine Eq.mpr (if_pos (by rfl)) ?_
                      go_simp
                      exact hK _ _ ⟨rfl, Below.refl _ _⟩
                    · have e243 : a1.tmps[243]?.getD undef = (.tuple #[.int .i64 VJ, .int .i64 0]) := F.dep 8 243 (by kernel_rfl) rfl
                      refine wpOp_step rfl (fun K hK => ?_)
                      refine Eq.mpr (if_pos (by rfl)) ?_
                      go_simp
                      exact hK _ _ ⟨rfl, Below.refl _ _⟩
                    · have e243 : a1.tmps[243]?.getD undef = (.tuple #[.int .i64 VJ, .int .i64 0]) := F.dep 8 243 (by kernel_rfl) rfl
                      refine wpOp_step rfl (fun K hK => ?_)
                      refine Eq.mpr (if_pos (by rfl)) ?_
                      go_simp
                      exact hK _ _ ⟨rfl, Below.refl _ _⟩
                    · have e252 : a1.tmps[252]?.getD undef = (.int .i64 VJ) := F.dep 9 252 (by kernel_rfl) rfl
                      refine wpOp_step rfl (fun K hK => ?_)
                      refine Eq.mpr (if_pos (by rfl)) ?_
                      go_simp
                      exact hK _ _ ⟨rfl, Below.refl _ _⟩
                    · have e253 : a1.tmps[253]?.getD undef = (.int .i64 0) := F.dep 10 253 (by kernel_rfl) rfl
                      refine wpOp_step rfl (fun K hK => ?_)
                      refine Eq.mpr (if_pos (by rfl)) ?_
                      go_simp
                      exact hK _ _ ⟨rfl, Below.refl _ _⟩
                  case fin =>
                    intro Vq hbq
                    simp only [finV, List.set_cons_succ, List.set_cons_zero]
                    have HT10 := Lib.hid (HT9.out.below hbq)
                    clear HT9 h6w9 H10 hcn0 hbq HJ
                    have HX5 := Lib.hid HT10.out.h5
                    have h6w := Nat.le_trans h6 HT10.out.b.size
                    go_wp2_with (refine wpList_load_row rfl 24 (.tmp 5) rfl S5 rfl 24 (arr s) (0, 0) _ HX5.out Tryd.underlying24 rfl HIh.out ?_)
                    refine (fortune_any s HL _ h6w).mono ?_
                    rintro e w10 ⟨rfl, hb10⟩
                    rw [HC.out]
                    have HT11 := Lib.hid (HT10.out.below hb10)
                    have HX10 := Lib.hid HT11.out.h10
                    have h6w10 := Nat.le_trans h6 HT11.out.b.size
                    have HFT := Lib.hid (show fortV kk = fortV s by rw [← HKK.out]; exact fort_turn HC.out HL.out hn12)
                    clear HT10 HX5 h6w hb10
                    go_wp2_with (refine wpList_load_row rfl 24 (.tmp 10) rfl (B8 + 1) rfl 24 (arr kk) (0, 0) _ HX10.out Tryd.underlying24 rfl HIk.out ?_)
                    refine (fortune_any kk HLk _ h6w10).mono ?_
                    rintro e w11 ⟨rfl, hb11⟩
                    rw [HCk.out, HFT.out]
                    obtain ⟨FV, hFV⟩ : ∃ FV, fortV s = FV := ⟨_, rfl⟩
                    rw [hFV]
                    have HT12 := Lib.hid (HT11.out.below hb11)
                    clear hFV hb11 HT11 HX10 h6w10 HFT
                    go_wp2_with fail
                    refine (known_any _ (Nat.le_trans h6 HT12.out.b.size) (hr.below HT12.out.b (Nat.le_refl _))).mono ?_
                    rintro e w12 ⟨rfl, hb12⟩
                    go_wp2
                    go_ret
                    exact ⟨rfl, HT12.out.b.trans (hb12.mono HT12.out.b.size)⟩
end Go.Proofs.YtdnccdobnhbpeaaDoor
