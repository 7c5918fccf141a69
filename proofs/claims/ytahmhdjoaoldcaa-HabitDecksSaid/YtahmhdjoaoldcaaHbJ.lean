/-
  Package habit: Need.
-/
import Derived.Test.YtahmhdjoaoldcaaHbI
namespace Go.Proofs.Ytahmhdjoaoldcaa
open Go Go.RowKit Go.Shelf
set_option linter.unusedVariables false
set_option linter.unusedSimpArgs false
attribute [local go_sem] Oper.semAt_some

theorem boxed_below {V V' : World} {B : Nat} {t : TypeId} {v : Value} (h : Boxed V B t v) (hb : Below V.heap.size V V') : Boxed V' B t v := (hb.block B h.lt).trans h
/-- A function that says whether a number lies outside. -/
def OutFn (V : World) (x : Value) (lo hi : Int) : Prop := ∃ p1 p2 : Addr, x = .func (.func 41) #[] #[.pointer (some p1), .pointer (some p2)] ∧ V.cell? p1 = some (.int .i64 lo) ∧ V.cell? p2 = some (.int .i64 hi)
theorem OutFn.below {V V' : World} {x : Value} {lo hi : Int} (h : OutFn V x lo hi) (hb : Below V.heap.size V V') : OutFn V' x lo hi := by
  obtain ⟨p1, p2, rfl, h1, h2⟩ := h
  exact ⟨p1, p2, rfl, cell_tr hb h1, cell_tr hb h2⟩
theorem outside_fn (lo hi : Int) (w : World) : Calls Try.prog 22 #[.int .i64 lo, .int .i64 hi] w fun e w' => (∃ v, e = .returned v ∧ OutFn w' v lo hi) ∧ Below w.heap.size w w' := by
  refine (outside_anyI lo hi w).mono ?_
  rintro e w' ⟨rfl, rfl⟩
  exact ⟨⟨_, rfl, _, _, rfl, cells_two0 _ _ _ _, cells_two1 _ _ _ _⟩, ((Below.refl _ _).alloc (Nat.le_refl _) _).alloc (by simp) _⟩
/-- What the operations of Need's first region come to. -/
def NdR (N a : Int) (b1 b2 : Bool) : Nat → Value → World → Prop
  | 0, x, V => OutFn V x 1 32
  | 1, x, _ => x = .int .i64 N
  | 2, x, _ => x = .bool b1
  | 3, x, _ => x = .bool b1
  | 4, x, V => b1 = false → OutFn V x 1 400
  | 5, x, _ => b1 = false → x = .int .i64 a
  | 6, x, _ => b1 = false → x = .bool b2
  | 7, x, _ => x = .bool (b1 || b2)
  | _, _, _ => True
theorem NdR.stab (N a : Int) (b1 b2 : Bool) (i : Nat) (x : Value) (V V' : World) (h : NdR N a b1 b2 i x V) (hb : Below V.heap.size V V') : NdR N a b1 b2 i x V' := by
  match i with
  | 0 => exact OutFn.below h hb
  | 1 => exact h
  | 2 => exact h
  | 3 => exact h
  | 4 => exact fun e => OutFn.below (h e) hb
  | 5 => exact h
  | 6 => exact h
  | 7 => exact h
  | n + 8 => exact h
set_option maxRecDepth 100000 in
set_option maxHeartbeats 4000000 in
theorem need_bad1 (p : Option Addr) (n c : Nat) (N a : Int) (HB1 : Hid (outB 1 32 N = true)) (b2 : Bool) (w : World) :
    CallsIn Fence.wide 4 Try.prog 8 #[.slice p n c, .int .i64 N, .int .i64 a] w fun e w' => e = .returned (.tuple #[.slice none 0 0, .int .i64 3]) ∧ Below w.heap.size w w' := by
  have hBx := Boxed.new w 3 (.int .i64 N)
  have hbo : (w.alloc (.cells #[.int .i64 N] 3)).cell? ⟨w.heap.size, 0, none⟩ = some (.int .i64 N) := by simp
  have hB0 : Below w.heap.size w (w.alloc (.cells #[.int .i64 N] 3)) := (Below.refl _ _).alloc (Nat.le_refl _) _
  refine callsIn_of_wp_marks Try.func8 rfl trivial ?_ rfl
  simp only [Try.ntmps8, List.size_toArray, List.length_cons, List.length_nil, Nat.reduceAdd, Nat.reduceSub, Array.replicate_succ, Array.replicate_zero, List.push_toArray, List.append_toArray, List.nil_append, List.cons_append]
  gi_wp2_with fail
  refine wpIn_region_mono follows_mixedB [some 13, some 14, some 15, some 16, some 17, some 18, some 19, some 20] (by kernel_rfl) (NdR N a true b2) (NdR.stab _ _ _ _) ?step ?fin
  case step =>
    intro i hi a1 V FD
    have hi : i < 8 := hi
    have e : i = 0 ∨ i = 1 ∨ i = 2 ∨ i = 3 ∨ i = 4 ∨ i = 5 ∨ i = 6 ∨ i = 7 := by omega
    clear hi
    rcases e with rfl | rfl | rfl | rfl | rfl | rfl | rfl | rfl
    · refine wpOpIn_step rfl (fun K hK => ?_)
      refine Eq.mpr (if_pos (by rfl)) ?_
      go_simp
      gi_wp2_with fail
      refine ⟨trivial, ?_⟩
      refine (callsIn_wide.2 (outside_fn 1 32 _)).mono ?_
      rintro e V2 ⟨⟨x, rfl, hx⟩, hb2⟩
      exact hK _ _ ⟨_, rfl, hx, hb2⟩
    · have e4 : a1.tmps[4]?.getD undef = .pointer (some ⟨w.heap.size, 0, none⟩) := (FD.kept 4 (by kernel_rfl)).trans rfl
      have hc4 : V.cell? ⟨w.heap.size, 0, none⟩ = some (.int .i64 N) := cell_tr FD.below hbo
      refine wpOpIn_step rfl (fun K hK => ?_)
      refine Eq.mpr (if_pos (by rfl)) ?_
      go_simp
      exact hK _ _ ⟨_, rfl, rfl, Below.refl _ _⟩
    · obtain ⟨x, ⟨p1, p2, rfl, h1, h2⟩, ht⟩ := FD.dep 0 (by kernel_rfl)
      have e13 := ht 13 rfl
      have e14 : a1.tmps[14]?.getD undef = .int .i64 N := by
        obtain ⟨x, hx, ht⟩ := FD.dep 1 (by kernel_rfl)
        rw [ht 14 rfl]; exact hx
      refine wpOpIn_step rfl (fun K hK => ?_)
      refine Eq.mpr (if_pos (by rfl)) ?_
      go_simp
      gi_wp2_with fail
      refine ⟨trivial, ?_⟩
      refine (callsIn_wide.2 (outside1_anyI N 1 32 p1 p2 _ h1 h2)).mono ?_
      rintro e V2 ⟨rfl, rfl⟩
      rw [HB1.out]
      exact hK _ _ ⟨_, rfl, rfl, Below.refl _ _⟩
    · have e15 : a1.tmps[15]?.getD undef = .bool true := by
        obtain ⟨x, hx, ht⟩ := FD.dep 2 (by kernel_rfl)
        rw [ht 15 rfl]; exact hx
      refine wpOpIn_step rfl (fun K hK => ?_)
      refine Eq.mpr (if_pos (by rfl)) ?_
      go_simp
      exact hK _ _ ⟨_, rfl, rfl, Below.refl _ _⟩
    · have e16 : a1.tmps[16]?.getD undef = .bool true := by
        obtain ⟨x, hx, ht⟩ := FD.dep 3 (by kernel_rfl)
        rw [ht 16 rfl]; exact hx
      refine wpOpIn_step rfl (fun K hK => ?_)
      refine Eq.mpr (if_neg (unwanted_of rfl rfl e16 (by decide))) ?_
      exact ⟨fun _ _ => trivial, hK _ _ ⟨_, rfl, (fun h => by cases h), Below.refl _ _⟩⟩
    · have e16 : a1.tmps[16]?.getD undef = .bool true := by
        obtain ⟨x, hx, ht⟩ := FD.dep 3 (by kernel_rfl)
        rw [ht 16 rfl]; exact hx
      refine wpOpIn_step rfl (fun K hK => ?_)
      refine Eq.mpr (if_neg (unwanted_of rfl rfl e16 (by decide))) ?_
      exact ⟨fun _ _ => trivial, hK _ _ ⟨_, rfl, (fun h => by cases h), Below.refl _ _⟩⟩
    · have e16 : a1.tmps[16]?.getD undef = .bool true := by
        obtain ⟨x, hx, ht⟩ := FD.dep 3 (by kernel_rfl)
        rw [ht 16 rfl]; exact hx
      refine wpOpIn_step rfl (fun K hK => ?_)
      refine Eq.mpr (if_neg (unwanted_of rfl rfl e16 (by decide))) ?_
      exact ⟨fun _ _ => trivial, hK _ _ ⟨_, rfl, (fun h => by cases h), Below.refl _ _⟩⟩
    · have e16 : a1.tmps[16]?.getD undef = .bool true := by
        obtain ⟨x, hx, ht⟩ := FD.dep 3 (by kernel_rfl)
        rw [ht 16 rfl]; exact hx
      have e19 := FD.dep 6 (by kernel_rfl)
      refine wpOpIn_step rfl (fun K hK => ?_)
      refine Eq.mpr (if_pos (by rfl)) ?_
      go_simp
      exact hK _ _ ⟨_, rfl, rfl, Below.refl _ _⟩
  case fin =>
    intro v V hb hv
    have h7 : v 7 = .bool true := hv 7 (by decide)
    have hbV : Below w.heap.size w V := hB0.trans (hb.mono hB0.size)
    have hboV := cell_tr hb hbo
    have hbxV := boxed_below hBx hb
    simp only [finD, List.set_cons_succ, List.set_cons_zero, h7]
    generalize v 0 = x0
    generalize v 1 = x1
    generalize v 2 = x2
    generalize v 3 = x3
    generalize v 4 = x4
    generalize v 5 = x5
    generalize v 6 = x6
    clear hv h7
    gi_wp2
    exact ⟨_, results_tmp2 rfl _ _ _, rfl, hbV⟩
set_option maxRecDepth 100000 in
set_option maxHeartbeats 4000000 in
theorem need_bad2 (p : Option Addr) (n c : Nat) (N a : Int) (HB1 : Hid (outB 1 32 N = false)) (b2 : Bool) (HB2 : Hid (outB 1 400 a = b2)) (hb2t : b2 = true) (w : World) :
    CallsIn Fence.wide 4 Try.prog 8 #[.slice p n c, .int .i64 N, .int .i64 a] w fun e w' => e = .returned (.tuple #[.slice none 0 0, .int .i64 3]) ∧ Below w.heap.size w w' := by
  subst hb2t
  have hBx := Boxed.new w 3 (.int .i64 N)
  have hbo : (w.alloc (.cells #[.int .i64 N] 3)).cell? ⟨w.heap.size, 0, none⟩ = some (.int .i64 N) := by simp
  have hB0 : Below w.heap.size w (w.alloc (.cells #[.int .i64 N] 3)) := (Below.refl _ _).alloc (Nat.le_refl _) _
  refine callsIn_of_wp_marks Try.func8 rfl trivial ?_ rfl
  simp only [Try.ntmps8, List.size_toArray, List.length_cons, List.length_nil, Nat.reduceAdd, Nat.reduceSub, Array.replicate_succ, Array.replicate_zero, List.push_toArray, List.append_toArray, List.nil_append, List.cons_append]
  gi_wp2_with fail
  refine wpIn_region_mono follows_mixedB [some 13, some 14, some 15, some 16, some 17, some 18, some 19, some 20] (by kernel_rfl) (NdR N a false true) (NdR.stab _ _ _ _) ?step ?fin
  case step =>
    intro i hi a1 V FD
    have hi : i < 8 := hi
    have e : i = 0 ∨ i = 1 ∨ i = 2 ∨ i = 3 ∨ i = 4 ∨ i = 5 ∨ i = 6 ∨ i = 7 := by omega
    clear hi
    rcases e with rfl | rfl | rfl | rfl | rfl | rfl | rfl | rfl
    · refine wpOpIn_step rfl (fun K hK => ?_)
      refine Eq.mpr (if_pos (by rfl)) ?_
      go_simp
      gi_wp2_with fail
      refine ⟨trivial, ?_⟩
      refine (callsIn_wide.2 (outside_fn 1 32 _)).mono ?_
      rintro e V2 ⟨⟨x, rfl, hx⟩, hb2⟩
      exact hK _ _ ⟨_, rfl, hx, hb2⟩
    · have e4 : a1.tmps[4]?.getD undef = .pointer (some ⟨w.heap.size, 0, none⟩) := (FD.kept 4 (by kernel_rfl)).trans rfl
      have hc4 : V.cell? ⟨w.heap.size, 0, none⟩ = some (.int .i64 N) := cell_tr FD.below hbo
      refine wpOpIn_step rfl (fun K hK => ?_)
      refine Eq.mpr (if_pos (by rfl)) ?_
      go_simp
      exact hK _ _ ⟨_, rfl, rfl, Below.refl _ _⟩
    · obtain ⟨x, ⟨p1, p2, rfl, h1, h2⟩, ht⟩ := FD.dep 0 (by kernel_rfl)
      have e13 := ht 13 rfl
      have e14 : a1.tmps[14]?.getD undef = .int .i64 N := by
        obtain ⟨x, hx, ht⟩ := FD.dep 1 (by kernel_rfl)
        rw [ht 14 rfl]; exact hx
      refine wpOpIn_step rfl (fun K hK => ?_)
      refine Eq.mpr (if_pos (by rfl)) ?_
      go_simp
      gi_wp2_with fail
      refine ⟨trivial, ?_⟩
      refine (callsIn_wide.2 (outside1_anyI N 1 32 p1 p2 _ h1 h2)).mono ?_
      rintro e V2 ⟨rfl, rfl⟩
      rw [HB1.out]
      exact hK _ _ ⟨_, rfl, rfl, Below.refl _ _⟩
    · have e15 : a1.tmps[15]?.getD undef = .bool false := by
        obtain ⟨x, hx, ht⟩ := FD.dep 2 (by kernel_rfl)
        rw [ht 15 rfl]; exact hx
      refine wpOpIn_step rfl (fun K hK => ?_)
      refine Eq.mpr (if_pos (by rfl)) ?_
      go_simp
      exact hK _ _ ⟨_, rfl, rfl, Below.refl _ _⟩
    · have e16 : a1.tmps[16]?.getD undef = .bool false := by
        obtain ⟨x, hx, ht⟩ := FD.dep 3 (by kernel_rfl)
        rw [ht 16 rfl]; exact hx
      refine wpOpIn_step rfl (fun K hK => ?_)
      refine Eq.mpr (if_pos (wanted_of rfl rfl e16)) ?_
      go_simp
      gi_wp2_with fail
      refine ⟨trivial, ?_⟩
      refine (callsIn_wide.2 (outside_fn 1 400 _)).mono ?_
      rintro e V2 ⟨⟨x, rfl, hx⟩, hb2⟩
      exact hK _ _ ⟨_, rfl, fun _ => hx, hb2⟩
    · have e16 : a1.tmps[16]?.getD undef = .bool false := by
        obtain ⟨x, hx, ht⟩ := FD.dep 3 (by kernel_rfl)
        rw [ht 16 rfl]; exact hx
      have e2 : a1.tmps[2]?.getD undef = .int .i64 a := (FD.kept 2 (by kernel_rfl)).trans rfl
      refine wpOpIn_step rfl (fun K hK => ?_)
      refine Eq.mpr (if_pos (wanted_of rfl rfl e16)) ?_
      go_simp
      exact hK _ _ ⟨_, rfl, fun _ => rfl, Below.refl _ _⟩
    · have e16 : a1.tmps[16]?.getD undef = .bool false := by
        obtain ⟨x, hx, ht⟩ := FD.dep 3 (by kernel_rfl)
        rw [ht 16 rfl]; exact hx
      obtain ⟨x, hx4, ht⟩ := FD.dep 4 (by kernel_rfl)
      obtain ⟨p1, p2, rfl, h1, h2⟩ := hx4 rfl
      have e17 := ht 17 rfl
      have e18 : a1.tmps[18]?.getD undef = .int .i64 a := by
        obtain ⟨x, hx, ht⟩ := FD.dep 5 (by kernel_rfl)
        rw [ht 18 rfl]; exact hx rfl
      refine wpOpIn_step rfl (fun K hK => ?_)
      refine Eq.mpr (if_pos (wanted_of rfl rfl e16)) ?_
      go_simp
      gi_wp2_with fail
      refine ⟨trivial, ?_⟩
      refine (callsIn_wide.2 (outside1_anyI a 1 400 p1 p2 _ h1 h2)).mono ?_
      rintro e V2 ⟨rfl, rfl⟩
      rw [HB2.out]
      exact hK _ _ ⟨_, rfl, fun _ => rfl, Below.refl _ _⟩
    · have e16 : a1.tmps[16]?.getD undef = .bool false := by
        obtain ⟨x, hx, ht⟩ := FD.dep 3 (by kernel_rfl)
        rw [ht 16 rfl]; exact hx
      have e19 : a1.tmps[19]?.getD undef = .bool true := by
        obtain ⟨x, hx, ht⟩ := FD.dep 6 (by kernel_rfl)
        rw [ht 19 rfl]; exact hx rfl
      refine wpOpIn_step rfl (fun K hK => ?_)
      refine Eq.mpr (if_pos (by rfl)) ?_
      go_simp
      exact hK _ _ ⟨_, rfl, rfl, Below.refl _ _⟩
  case fin =>
    intro v V hb hv
    have h7 : v 7 = .bool true := hv 7 (by decide)
    have hbV : Below w.heap.size w V := hB0.trans (hb.mono hB0.size)
    have hboV := cell_tr hb hbo
    have hbxV := boxed_below hBx hb
    simp only [finD, List.set_cons_succ, List.set_cons_zero, h7]
    generalize v 0 = x0
    generalize v 1 = x1
    generalize v 2 = x2
    generalize v 3 = x3
    generalize v 4 = x4
    generalize v 5 = x5
    generalize v 6 = x6
    clear hv h7
    gi_wp2
    exact ⟨_, results_tmp2 rfl _ _ _, rfl, hbV⟩
theorem wpListIn_make_fullB {F : Fence} {n : Nat} {P : Program} (w : World) {ops : Array Oper} {rest : List Oper} {o : Oper} {a : Act} {Q : Exit → Act → World → Prop}
    (hg : o.guard = none) (l c : Operand) (t : TypeId) (hop : o.op = Op.makeSlice t l c)
    (base : Nat) (e : TypeId) (i : TypeInfo) (z : Value) (size : Nat) (h1 : P.underlying t = some (.slice e)) (h2 : P.info? e = some i) (h3 : i.zero = some z) (h4 : i.size = size)
    (kl kc : IntKind) (L C : Int) (m : Nat) (hl : a.eval l = .int kl L) (hc : a.eval c = .int kc C) (hL : L = (m : Int)) (hC : C = (m : Int)) (b2 : i.bytes * m ≤ 281474976710656) (b3 : m ≤ maxLen) (b4 : base ≤ w.heap.size)
    (hK : ∀ w', w'.ownsRow base e size (.slice (some ⟨w.heap.size, 0, none⟩) m m) m (madeCells z.cells (m * size)).toList → w.grownBy w' none → wpListIn F n P ops Q rest (a.put o.dst (.slice (some ⟨w.heap.size, 0, none⟩) m m)) w') :
    wpListIn F n P ops Q (o :: rest) a w := by
  refine wpListIn_plain hg fun K hK' => ?_
  obtain ⟨w', hrun, r1, r2⟩ := run_make_full (P := P) w base t e i z size h1 h2 h3 h4 kl kc m b2 b3 b4
  subst hL
  subst hC
  unfold Oper.wpIn
  refine ⟨?_, ?_⟩
  · simp [Oper.about, hop]
  · rw [Oper.semAt_plain F _ _ (by rw [hop]; intro c hc'; cases hc')]
    simp [execOp, hop, hl, hc, hrun, Result.andThen]
    exact hK' _ _ (hK w' r1 r2)
theorem row_grown {w w' : World} {B g n : Nat} {xs : List Int} {row : Option Nat} (h : Row w B g n xs) (hg : w.grownBy w' row) (hne : some g ≠ row) : Row w' B g n xs := by
  refine ⟨h.1, h.2.1, ?_⟩
  rcases h.2.2 with h' | ⟨b, cap, cur, e, h1, h2, h3⟩
  · exact .inl h'
  · refine .inr ⟨b, cap, cur, e, h1, ?_, h3⟩
    have : g = b := (by simpa using e : g = b ∧ n = cap).1
    subst this
    rw [hg.block g (Array.getElem?_eq_some_iff.1 h2).1 hne]; exact h2
theorem row_obj {w : World} {B g n : Nat} {xs : List Int} (h : Row w B g n xs) (hn : 1 ≤ n) : ∃ o, w.heap[g]? = some o ∧ o.isCells = true := by
  rcases h.2.2 with ⟨h', _⟩ | ⟨b, cap, cur, e, h1, h2, h3⟩
  · cases h'
  · have : g = b := (by simpa using e : g = b ∧ n = cap).1
    subst this
    exact ⟨_, h2, rfl⟩
/-- What is needed for some pieces. -/
def needL (xs : List Int) (m a : Nat) (pre : List Nat) : List Int := pre.foldl (fun ys x => maxTo ys (cntTo (pieceL xs a (x * a)) m (pieceL xs a (x * a)).length) m) (List.replicate m 0)
theorem needL_snoc (xs : List Int) (m a : Nat) (pre : List Nat) (x : Nat) : needL xs m a (pre ++ [x]) = maxTo (needL xs m a pre) (cntTo (pieceL xs a (x * a)) m (pieceL xs a (x * a)).length) m := by simp [needL]
theorem needL_upto (xs : List Int) (m a c : Nat) : needL xs m a (upto id c) = needTo xs m a c := by
  induction c with
  | zero => rfl
  | succ c ih => rw [upto_succ, needL_snoc, ih]; rfl
theorem needL_len (xs : List Int) (m a : Nat) (pre : List Nat) : (needL xs m a pre).length = m := by
  rcases List.eq_nil_or_concat pre with rfl | ⟨pre, x, rfl⟩
  · simp [needL]
  · rw [List.concat_eq_append, needL_snoc, maxTo_len, needL_len xs m a pre]
termination_by pre.length
theorem needL_bd (xs : List Int) (m a : Nat) (pre : List Nat) (j : Nat) : 0 ≤ nth (needL xs m a pre) j ∧ nth (needL xs m a pre) j ≤ xs.length := by
  rcases List.eq_nil_or_concat pre with rfl | ⟨pre, x, rfl⟩
  · rw [show needL xs m a [] = List.replicate m 0 from rfl, rep_nth]; omega
  · rw [List.concat_eq_append, needL_snoc]
    refine maxTo_bd (fun j => needL_bd xs m a pre j) (fun j => ?_) m j
    have := cntTo_bd (pieceL xs a (x * a)) m (pieceL xs a (x * a)).length j
    have h2 := pieceL_len xs a (x * a)
    omega
termination_by pre.length
/-- What holds between the pieces. -/
structure NdI (n₀ : Nat) (w : World) (B9 G N : Nat) (xs : List Int) (a : Nat) (pre : List Nat) (W : World) : Prop where
  b9 : Boxed W B9 22 (.slice (some ⟨G, 0, none⟩) N N)
  row : Row W n₀ G N (needL xs N a pre)
  bx : Boxed W n₀ 3 (.int .i64 (N : Int))
  below : Below n₀ w W
  big : B9 + 3 ≤ W.heap.size
theorem NdI.own {n₀ : Nat} {w : World} {B9 G N : Nat} {xs : List Int} {a B : Nat} (hB : n₀ ≤ B) (hN : 1 ≤ N) (hw : n₀ ≤ w.heap.size) : OwnFrom B (NdI n₀ w B9 G N xs a) := by
  rintro pre W W' row ⟨h1, h2, h3, h4, h5⟩ hg hr
  have hc : ∀ k, (∃ o, W.heap[k]? = some o ∧ o.isCells = true) → some k ≠ row := by
    rintro k ⟨o, ho, hc⟩ e
    obtain ⟨_, o', ho', hc'⟩ := hr k e.symm
    rw [ho] at ho'
    cases ho'
    rw [hc] at hc'
    cases hc'
  exact ⟨h1.kept hg (hc _ ⟨_, h1, rfl⟩), row_grown h2 hg (hc _ (row_obj h2 hN)), h3.kept hg (hc _ ⟨_, h3, rfl⟩), h4.grown hg (Nat.le_trans hw h4.size) (fun k e => Nat.le_trans hB (hr k e).1), Nat.le_trans h5 hg.size⟩
/-- What holds within a piece. -/
structure NdJ (w W : World) (B9 G N g2 : Nat) (Y Z : List Int) (k : Nat) (V : World) : Prop where
  b9 : Boxed V B9 22 (.slice (some ⟨G, 0, none⟩) N N)
  row : Row V w.heap.size G N (maxTo Y Z k)
  row2 : Row V W.heap.size g2 N Z
  bx : Boxed V w.heap.size 3 (.int .i64 (N : Int))
  below : Below w.heap.size w V
  keeps : KeepsOthers W V
  kp : KpC (B9 + 1) (B9 + 1 + 1) W V
theorem KpC_of_below {Bs Bn : Nat} {W V : World} (h : Below W.heap.size W V) (h1 : Bs < W.heap.size) (h2 : Bn < W.heap.size) : KpC Bs Bn W V := ⟨h.size, h.block _ h1, h.block _ h2⟩
theorem boxed_other {V : World} {B : Nat} {t : TypeId} {v : Value} (h : Boxed V B t v) {p : Addr} (hp : p.block ≠ B) (u : Value) : Boxed (V.setCell p u) B t v := (Below.heap_setCell V p u B (Ne.symm hp)).trans h
theorem NdJ.next {w W : World} {B9 G N g2 : Nat} {Y Z : List Int} {k : Nat} {V V0 : World} (J : NdJ w W B9 G N g2 Y Z k V) (hb : Below V.heap.size V V0) (hG0 : w.heap.size < G) (hG : G < B9) (hg : g2 ≠ G) (hbig : B9 + 3 ≤ W.heap.size) {M : Int} (hS : maxTo Y Z (k + 1) = (maxTo Y Z k).set k M) : NdJ w W B9 G N g2 Y Z (k + 1) (V0.setCell ⟨G, k, none⟩ (.int .i64 M)) := by
  have h1 := J.row.kept hb J.row.lt.2
  have hko : KeepsOthers V V0 := ⟨hb.size, fun j o hj _ => (hb.block j (Array.getElem?_eq_some_iff.1 hj).1).trans hj⟩
  have hsz : V0.heap.size = (V0.setCell ⟨G, k, none⟩ (.int .i64 M)).heap.size := by simp [World.setCell]
  have hb9 := J.b9.lt
  refine ⟨boxed_other (boxed_below J.b9 hb) (by show G ≠ B9; omega) _, by rw [hS]; exact h1.set k M, row_other (J.row2.kept hb J.row2.lt.2) (Ne.symm hg) _ _, boxed_other (boxed_below J.bx hb) (by show G ≠ w.heap.size; omega) _, (J.below.trans (hb.mono J.below.size)).setCell (p := ⟨G, k, none⟩) (by show w.heap.size ≤ G; omega) _, J.keeps.trans (hko.trans (KeepsOthers.setCell _ _ _)), ?_⟩
  have hV : W.heap.size ≤ V.heap.size := J.keeps.size
  exact (J.kp.trans (KpC_of_below hb (by omega) (by omega))).trans ⟨by rw [← hsz]; exact Nat.le_refl _, Below.heap_setCell _ _ _ _ (by show B9 + 1 ≠ G; omega), Below.heap_setCell _ _ _ _ (by show B9 + 1 + 1 ≠ G; omega)⟩
theorem chunk_any (p : Option Addr) (n c a : Nat) (ha : 1 ≤ a) (ha2 : a ≤ 1000) (w : World) : Calls Try.prog 25 #[.slice p n c, .int .i64 (a : Int)] w fun e w' => e = .returned (.func (.func 43) #[] #[.pointer (some ⟨w.heap.size, 0, none⟩), .pointer (some ⟨w.heap.size + 1, 0, none⟩)]) ∧ (w.alloc (.cells #[.slice p n c] 22)).alloc (.cells #[.int .i64 (a : Int)] 3) = w' := by
  have h1 : (1 : Int) ≤ (a : Int) := by omega
  go_enter Try.func25, Try.ntmps25
  go_wp2
  go_ret
  exact ⟨rfl, rfl⟩
theorem chunk_stops (F : Fence) (n : Nat) (h93 : F.fn 43) (hro : F.round = none) (hn : 1 ≤ n) (Bs Bn m c a q o : Nat) (p : Option Addr) (hp : p = some ⟨q, o, none⟩ ∨ m = 0) (w : World) (hcs : w.cell? ⟨Bs, 0, none⟩ = some (.slice p m c)) (hcn : w.cell? ⟨Bn, 0, none⟩ = some (.int .i64 (a : Int))) (hm : m ≤ 1000) (hmc : m ≤ c) (ha : 1 ≤ a) (ha2 : a ≤ 1000) :
    SeqStopsK F n Try.prog 43 #[.pointer (some ⟨Bs, 0, none⟩), .pointer (some ⟨Bn, 0, none⟩)] (encP q o m a) (KpC Bs Bn) (fun ys => ys = upto id (manyP m a)) (fun _ => True) (manyP m a) w := fun l J Jx W hW hJ _ hY h0 =>
  chunk1_in F n h93 hro hn l Bs Bn m c a q o p hp J Jx hY W hJ h0 (cell_tr hW hcs) (cell_tr hW hcn) hm hmc ha ha2
set_option maxRecDepth 100000 in
set_option maxHeartbeats 8000000 in
theorem need_bad3 (p : Option Addr) (q o : Nat) (xs : List Int) (n c : Nat) (hx : Hid (xs.length = n)) (hn : n ≤ 1000) (hnc : n ≤ c) (hp : p = some ⟨q, o, none⟩ ∨ n = 0) (N a : Nat) (HB1 : Hid (outB 1 32 (N : Int) = false)) (HB2 : Hid (outB 1 400 (a : Int) = false)) (hN1 : 1 ≤ N) (hN2 : N ≤ 32) (ha1 : 1 ≤ a) (ha2 : a ≤ 400) (E : Int) (hE : Hid (regE xs N = E)) (hE0 : E ≠ 0) (w : World) (hR : Reads w p xs) :
    CallsIn Fence.wide 6 Try.prog 8 #[.slice p n c, .int .i64 (N : Int), .int .i64 (a : Int)] w fun e w' => e = .returned (.tuple #[.slice none 0 0, .int .i64 E]) ∧ Below w.heap.size w w' := by
  have hBx := Boxed.new w 3 (.int .i64 (N : Int))
  have hbo : (w.alloc (.cells #[.int .i64 (N : Int)] 3)).cell? ⟨w.heap.size, 0, none⟩ = some (.int .i64 (N : Int)) := by simp
  have hB0 : Below w.heap.size w (w.alloc (.cells #[.int .i64 (N : Int)] 3)) := (Below.refl _ _).alloc (Nat.le_refl _) _
  refine callsIn_of_wp_marks Try.func8 rfl trivial ?_ rfl
  simp only [Try.ntmps8, List.size_toArray, List.length_cons, List.length_nil, Nat.reduceAdd, Nat.reduceSub, Array.replicate_succ, Array.replicate_zero, List.push_toArray, List.append_toArray, List.nil_append, List.cons_append]
  gi_wp2_with fail
  refine wpIn_region_mono follows_mixedB [some 13, some 14, some 15, some 16, some 17, some 18, some 19, some 20] (by kernel_rfl) (NdR (N : Int) (a : Int) false false) (NdR.stab _ _ _ _) ?step ?fin
  case step =>
    intro i hi a1 V FD
    have hi : i < 8 := hi
    have e : i = 0 ∨ i = 1 ∨ i = 2 ∨ i = 3 ∨ i = 4 ∨ i = 5 ∨ i = 6 ∨ i = 7 := by omega
    clear hi
    rcases e with rfl | rfl | rfl | rfl | rfl | rfl | rfl | rfl
    · refine wpOpIn_step rfl (fun K hK => ?_)
      refine Eq.mpr (if_pos (by rfl)) ?_
      go_simp
      gi_wp2_with fail
      refine ⟨trivial, ?_⟩
      refine (callsIn_wide.2 (outside_fn 1 32 _)).mono ?_
      rintro e V2 ⟨⟨x, rfl, hx⟩, hb2⟩
      exact hK _ _ ⟨_, rfl, hx, hb2⟩
    · have e4 : a1.tmps[4]?.getD undef = .pointer (some ⟨w.heap.size, 0, none⟩) := (FD.kept 4 (by kernel_rfl)).trans rfl
      have hc4 : V.cell? ⟨w.heap.size, 0, none⟩ = some (.int .i64 (N : Int)) := cell_tr FD.below hbo
      refine wpOpIn_step rfl (fun K hK => ?_)
      refine Eq.mpr (if_pos (by rfl)) ?_
      go_simp
      exact hK _ _ ⟨_, rfl, rfl, Below.refl _ _⟩
    · obtain ⟨x, ⟨p1, p2, rfl, h1, h2⟩, ht⟩ := FD.dep 0 (by kernel_rfl)
      have e13 := ht 13 rfl
      have e14 : a1.tmps[14]?.getD undef = .int .i64 (N : Int) := by
        obtain ⟨x, hx, ht⟩ := FD.dep 1 (by kernel_rfl)
        rw [ht 14 rfl]; exact hx
      refine wpOpIn_step rfl (fun K hK => ?_)
      refine Eq.mpr (if_pos (by rfl)) ?_
      go_simp
      gi_wp2_with fail
      refine ⟨trivial, ?_⟩
      refine (callsIn_wide.2 (outside1_anyI (N : Int) 1 32 p1 p2 _ h1 h2)).mono ?_
      rintro e V2 ⟨rfl, rfl⟩
      rw [HB1.out]
      exact hK _ _ ⟨_, rfl, rfl, Below.refl _ _⟩
    · have e15 : a1.tmps[15]?.getD undef = .bool false := by
        obtain ⟨x, hx, ht⟩ := FD.dep 2 (by kernel_rfl)
        rw [ht 15 rfl]; exact hx
      refine wpOpIn_step rfl (fun K hK => ?_)
      refine Eq.mpr (if_pos (by rfl)) ?_
      go_simp
      exact hK _ _ ⟨_, rfl, rfl, Below.refl _ _⟩
    · have e16 : a1.tmps[16]?.getD undef = .bool false := by
        obtain ⟨x, hx, ht⟩ := FD.dep 3 (by kernel_rfl)
        rw [ht 16 rfl]; exact hx
      refine wpOpIn_step rfl (fun K hK => ?_)
      refine Eq.mpr (if_pos (wanted_of rfl rfl e16)) ?_
      go_simp
      gi_wp2_with fail
      refine ⟨trivial, ?_⟩
      refine (callsIn_wide.2 (outside_fn 1 400 _)).mono ?_
      rintro e V2 ⟨⟨x, rfl, hx⟩, hb2⟩
      exact hK _ _ ⟨_, rfl, fun _ => hx, hb2⟩
    · have e16 : a1.tmps[16]?.getD undef = .bool false := by
        obtain ⟨x, hx, ht⟩ := FD.dep 3 (by kernel_rfl)
        rw [ht 16 rfl]; exact hx
      have e2 : a1.tmps[2]?.getD undef = .int .i64 (a : Int) := (FD.kept 2 (by kernel_rfl)).trans rfl
      refine wpOpIn_step rfl (fun K hK => ?_)
      refine Eq.mpr (if_pos (wanted_of rfl rfl e16)) ?_
      go_simp
      exact hK _ _ ⟨_, rfl, fun _ => rfl, Below.refl _ _⟩
    · have e16 : a1.tmps[16]?.getD undef = .bool false := by
        obtain ⟨x, hx, ht⟩ := FD.dep 3 (by kernel_rfl)
        rw [ht 16 rfl]; exact hx
      obtain ⟨x, hx4, ht⟩ := FD.dep 4 (by kernel_rfl)
      obtain ⟨p1, p2, rfl, h1, h2⟩ := hx4 rfl
      have e17 := ht 17 rfl
      have e18 : a1.tmps[18]?.getD undef = .int .i64 (a : Int) := by
        obtain ⟨x, hx, ht⟩ := FD.dep 5 (by kernel_rfl)
        rw [ht 18 rfl]; exact hx rfl
      refine wpOpIn_step rfl (fun K hK => ?_)
      refine Eq.mpr (if_pos (wanted_of rfl rfl e16)) ?_
      go_simp
      gi_wp2_with fail
      refine ⟨trivial, ?_⟩
      refine (callsIn_wide.2 (outside1_anyI (a : Int) 1 400 p1 p2 _ h1 h2)).mono ?_
      rintro e V2 ⟨rfl, rfl⟩
      rw [HB2.out]
      exact hK _ _ ⟨_, rfl, fun _ => rfl, Below.refl _ _⟩
    · have e16 : a1.tmps[16]?.getD undef = .bool false := by
        obtain ⟨x, hx, ht⟩ := FD.dep 3 (by kernel_rfl)
        rw [ht 16 rfl]; exact hx
      have e19 : a1.tmps[19]?.getD undef = .bool false := by
        obtain ⟨x, hx, ht⟩ := FD.dep 6 (by kernel_rfl)
        rw [ht 19 rfl]; exact hx rfl
      refine wpOpIn_step rfl (fun K hK => ?_)
      refine Eq.mpr (if_pos (by rfl)) ?_
      go_simp
      exact hK _ _ ⟨_, rfl, rfl, Below.refl _ _⟩
  case fin =>
    intro v V hb hv
    have h7 : v 7 = .bool false := hv 7 (by decide)
    have hbV : Below w.heap.size w V := hB0.trans (hb.mono hB0.size)
    have hboV := cell_tr hb hbo
    have hbxV := boxed_below hBx hb
    simp only [finD, List.set_cons_succ, List.set_cons_zero, h7]
    generalize v 0 = x0
    generalize v 1 = x1
    generalize v 2 = x2
    generalize v 3 = x3
    generalize v 4 = x4
    generalize v 5 = x5
    generalize v 6 = x6
    clear hv h7
    have hRV := hR.below hbV (Nat.le_refl _)
    have hq : (E == 0) = false := by simp [hE0]
    have hq2 : (E != 0) = true := by simp [hE0]
    clear hE0 hb hB0 hbo
    gi_wp2_with fail
    refine ⟨trivial, ?_⟩
    refine (callsIn_wide.2 (checkRegister_any _ xs n c hx (by omega) N ⟨by omega, by omega⟩ _ hRV)).mono ?_
    rintro e w3 ⟨rfl, hb3⟩
    rw [hE.out]
    gi_wp2
    exact ⟨_, results_tmp2 rfl _ _ _, rfl, tr hbV hb3⟩
set_option maxRecDepth 100000 in
set_option maxHeartbeats 8000000 in
theorem need_ok (p : Option Addr) (q o : Nat) (xs : List Int) (n c : Nat) (hx : Hid (xs.length = n)) (hn : n ≤ 1000) (hnc : n ≤ c) (hp : p = some ⟨q, o, none⟩ ∨ n = 0) (N a : Nat) (HB1 : Hid (outB 1 32 (N : Int) = false)) (HB2 : Hid (outB 1 400 (a : Int) = false)) (hN1 : 1 ≤ N) (hN2 : N ≤ 32) (ha1 : 1 ≤ a) (ha2 : a ≤ 400) (hr : Hid (regE xs N = 0)) (w : World) (hR : Reads w p xs) :
    CallsIn Fence.wide 6 Try.prog 8 #[.slice p n c, .int .i64 (N : Int), .int .i64 (a : Int)] w fun e w' => (∃ p1 c1, e = .returned (.tuple #[.slice p1 N c1, .int .i64 0]) ∧ Reads w' p1 (needTo xs N a (manyP n a))) ∧ Below w.heap.size w w' := by
  obtain ⟨i0, hi, hz0, hz1, hz2⟩ := info_parts info_intH
  have hBx := Boxed.new w 3 (.int .i64 (N : Int))
  have hbo : (w.alloc (.cells #[.int .i64 (N : Int)] 3)).cell? ⟨w.heap.size, 0, none⟩ = some (.int .i64 (N : Int)) := by simp
  have hB0 : Below w.heap.size w (w.alloc (.cells #[.int .i64 (N : Int)] 3)) := (Below.refl _ _).alloc (Nat.le_refl _) _
  refine callsIn_of_wp_marks Try.func8 rfl trivial ?_ rfl
  simp only [Try.ntmps8, List.size_toArray, List.length_cons, List.length_nil, Nat.reduceAdd, Nat.reduceSub, Array.replicate_succ, Array.replicate_zero, List.push_toArray, List.append_toArray, List.nil_append, List.cons_append]
  gi_wp2_with fail
  refine wpIn_region_mono follows_mixedB [some 13, some 14, some 15, some 16, some 17, some 18, some 19, some 20] (by kernel_rfl) (NdR (N : Int) (a : Int) false false) (NdR.stab _ _ _ _) ?step ?fin
  case step =>
    intro i hi a1 V FD
    have hi : i < 8 := hi
    have e : i = 0 ∨ i = 1 ∨ i = 2 ∨ i = 3 ∨ i = 4 ∨ i = 5 ∨ i = 6 ∨ i = 7 := by omega
    clear hi
    rcases e with rfl | rfl | rfl | rfl | rfl | rfl | rfl | rfl
    · refine wpOpIn_step rfl (fun K hK => ?_)
      refine Eq.mpr (if_pos (by rfl)) ?_
      go_simp
      gi_wp2_with fail
      refine ⟨trivial, ?_⟩
      refine (callsIn_wide.2 (outside_fn 1 32 _)).mono ?_
      rintro e V2 ⟨⟨x, rfl, hx⟩, hb2⟩
      exact hK _ _ ⟨_, rfl, hx, hb2⟩
    · have e4 : a1.tmps[4]?.getD undef = .pointer (some ⟨w.heap.size, 0, none⟩) := (FD.kept 4 (by kernel_rfl)).trans rfl
      have hc4 : V.cell? ⟨w.heap.size, 0, none⟩ = some (.int .i64 (N : Int)) := cell_tr FD.below hbo
      refine wpOpIn_step rfl (fun K hK => ?_)
      refine Eq.mpr (if_pos (by rfl)) ?_
      go_simp
      exact hK _ _ ⟨_, rfl, rfl, Below.refl _ _⟩
    · obtain ⟨x, ⟨p1, p2, rfl, h1, h2⟩, ht⟩ := FD.dep 0 (by kernel_rfl)
      have e13 := ht 13 rfl
      have e14 : a1.tmps[14]?.getD undef = .int .i64 (N : Int) := by
        obtain ⟨x, hx, ht⟩ := FD.dep 1 (by kernel_rfl)
        rw [ht 14 rfl]; exact hx
      refine wpOpIn_step rfl (fun K hK => ?_)
      refine Eq.mpr (if_pos (by rfl)) ?_
      go_simp
      gi_wp2_with fail
      refine ⟨trivial, ?_⟩
      refine (callsIn_wide.2 (outside1_anyI (N : Int) 1 32 p1 p2 _ h1 h2)).mono ?_
      rintro e V2 ⟨rfl, rfl⟩
      rw [HB1.out]
      exact hK _ _ ⟨_, rfl, rfl, Below.refl _ _⟩
    · have e15 : a1.tmps[15]?.getD undef = .bool false := by
        obtain ⟨x, hx, ht⟩ := FD.dep 2 (by kernel_rfl)
        rw [ht 15 rfl]; exact hx
      refine wpOpIn_step rfl (fun K hK => ?_)
      refine Eq.mpr (if_pos (by rfl)) ?_
      go_simp
      exact hK _ _ ⟨_, rfl, rfl, Below.refl _ _⟩
    · have e16 : a1.tmps[16]?.getD undef = .bool false := by
        obtain ⟨x, hx, ht⟩ := FD.dep 3 (by kernel_rfl)
        rw [ht 16 rfl]; exact hx
      refine wpOpIn_step rfl (fun K hK => ?_)
      refine Eq.mpr (if_pos (wanted_of rfl rfl e16)) ?_
      go_simp
      gi_wp2_with fail
      refine ⟨trivial, ?_⟩
      refine (callsIn_wide.2 (outside_fn 1 400 _)).mono ?_
      rintro e V2 ⟨⟨x, rfl, hx⟩, hb2⟩
      exact hK _ _ ⟨_, rfl, fun _ => hx, hb2⟩
    · have e16 : a1.tmps[16]?.getD undef = .bool false := by
        obtain ⟨x, hx, ht⟩ := FD.dep 3 (by kernel_rfl)
        rw [ht 16 rfl]; exact hx
      have e2 : a1.tmps[2]?.getD undef = .int .i64 (a : Int) := (FD.kept 2 (by kernel_rfl)).trans rfl
      refine wpOpIn_step rfl (fun K hK => ?_)
      refine Eq.mpr (if_pos (wanted_of rfl rfl e16)) ?_
      go_simp
      exact hK _ _ ⟨_, rfl, fun _ => rfl, Below.refl _ _⟩
    · have e16 : a1.tmps[16]?.getD undef = .bool false := by
        obtain ⟨x, hx, ht⟩ := FD.dep 3 (by kernel_rfl)
        rw [ht 16 rfl]; exact hx
      obtain ⟨x, hx4, ht⟩ := FD.dep 4 (by kernel_rfl)
      obtain ⟨p1, p2, rfl, h1, h2⟩ := hx4 rfl
      have e17 := ht 17 rfl
      have e18 : a1.tmps[18]?.getD undef = .int .i64 (a : Int) := by
        obtain ⟨x, hx, ht⟩ := FD.dep 5 (by kernel_rfl)
        rw [ht 18 rfl]; exact hx rfl
      refine wpOpIn_step rfl (fun K hK => ?_)
      refine Eq.mpr (if_pos (wanted_of rfl rfl e16)) ?_
      go_simp
      gi_wp2_with fail
      refine ⟨trivial, ?_⟩
      refine (callsIn_wide.2 (outside1_anyI (a : Int) 1 400 p1 p2 _ h1 h2)).mono ?_
      rintro e V2 ⟨rfl, rfl⟩
      rw [HB2.out]
      exact hK _ _ ⟨_, rfl, fun _ => rfl, Below.refl _ _⟩
    · have e16 : a1.tmps[16]?.getD undef = .bool false := by
        obtain ⟨x, hx, ht⟩ := FD.dep 3 (by kernel_rfl)
        rw [ht 16 rfl]; exact hx
      have e19 : a1.tmps[19]?.getD undef = .bool false := by
        obtain ⟨x, hx, ht⟩ := FD.dep 6 (by kernel_rfl)
        rw [ht 19 rfl]; exact hx rfl
      refine wpOpIn_step rfl (fun K hK => ?_)
      refine Eq.mpr (if_pos (by rfl)) ?_
      go_simp
      exact hK _ _ ⟨_, rfl, rfl, Below.refl _ _⟩
  case fin =>
    intro v V hb hv
    have h7 : v 7 = .bool false := hv 7 (by decide)
    have hbV : Below w.heap.size w V := hB0.trans (hb.mono hB0.size)
    have hboV := cell_tr hb hbo
    have hbxV := boxed_below hBx hb
    simp only [finD, List.set_cons_succ, List.set_cons_zero, h7]
    generalize v 0 = x0
    generalize v 1 = x1
    generalize v 2 = x2
    generalize v 3 = x3
    generalize v 4 = x4
    generalize v 5 = x5
    generalize v 6 = x6
    clear hv h7
    have hRV := hR.below hbV (Nat.le_refl _)
    clear hb hB0 hbo
    gi_wp2_with fail
    refine ⟨trivial, ?_⟩
    refine (callsIn_wide.2 (checkRegister_any _ xs n c hx (by omega) N ⟨by omega, by omega⟩ _ hRV)).mono ?_
    rintro e w3 ⟨rfl, hb3⟩
    rw [hr.out]
    have hbo3 := cell_tr hb3 hboV
    have hB3 := tr hbV hb3
    have hbx3 := boxed_below hbxV hb3
    clear hb3 hboV hbV hRV hbxV hBx
    gi_wp2_with (gi_at_make; refine wpListIn_make_fullB _ rfl _ _ 22 rfl w.heap.size 3 i0 (.int .i64 0) 1 Try.underlying22 hi hz0 hz1 .i64 .i64 _ _ N rfl rfl rfl rfl ?c1 ?c2 ?c3 ?_)
    case c1 => rw [hz2]; omega
    case c2 => unfold maxLen; omega
    case c3 => exact hB3.size
    intro w4 hown hgr
    have hrow4 := Row.made hown
    have hB4 : Below w.heap.size w w4 := hB3.grown hgr hB3.size (fun k e => by cases e)
    have hbx4 := hbx3.kept hgr (by simp)
    have hbo4 := hbx4.cell
    have hG : w3.heap.size < w4.heap.size := hrow4.lt.2
    obtain ⟨G, hGe⟩ : ∃ G, w3.heap.size = G := ⟨_, rfl⟩
    rw [hGe] at hrow4 hG ⊢
    have hG0 : w.heap.size < G := by rw [← hGe]; exact hbx3.lt
    clear hown hgr hGe hB3 hbx3 hbo3
    gi_wp2_with fail
    refine ⟨trivial, ?_⟩
    refine (callsIn_wide.2 (chunk_any _ n c a ha1 (by omega) _)).mono ?_
    rintro e w5 ⟨rfl, rfl⟩
    gi_wp2_with fail
    have hs5 : (((w4.alloc (.cells #[.slice (some ⟨G, 0, none⟩) N N] 22)).alloc (.cells #[.slice p n c] 22)).alloc (.cells #[.int .i64 (a : Int)] 3)).heap.size = w4.heap.size + 3 := by simp
    have hb9 : Boxed (((w4.alloc (.cells #[.slice (some ⟨G, 0, none⟩) N N] 22)).alloc (.cells #[.slice p n c] 22)).alloc (.cells #[.int .i64 (a : Int)] 3)) w4.heap.size 22 (.slice (some ⟨G, 0, none⟩) N N) := ((Boxed.new w4 _ _).alloc _).alloc _
    have hcs : (((w4.alloc (.cells #[.slice (some ⟨G, 0, none⟩) N N] 22)).alloc (.cells #[.slice p n c] 22)).alloc (.cells #[.int .i64 (a : Int)] 3)).cell? ⟨w4.heap.size + 1, 0, none⟩ = some (.slice p n c) := by
      have h := ((Boxed.new (w4.alloc (.cells #[.slice (some ⟨G, 0, none⟩) N N] 22)) 22 (.slice p n c)).alloc (.cells #[.int .i64 (a : Int)] 3)).cell
      rw [World.size_alloc] at h
      exact h
    have hcn : (((w4.alloc (.cells #[.slice (some ⟨G, 0, none⟩) N N] 22)).alloc (.cells #[.slice p n c] 22)).alloc (.cells #[.int .i64 (a : Int)] 3)).cell? ⟨w4.heap.size + 1 + 1, 0, none⟩ = some (.int .i64 (a : Int)) := by
      have h := (Boxed.new ((w4.alloc (.cells #[.slice (some ⟨G, 0, none⟩) N N] 22)).alloc (.cells #[.slice p n c] 22)) 3 (.int .i64 (a : Int))).cell
      rw [World.size_alloc, World.size_alloc] at h
      exact h
    have hB5 : Below w4.heap.size w4 (((w4.alloc (.cells #[.slice (some ⟨G, 0, none⟩) N N] 22)).alloc (.cells #[.slice p n c] 22)).alloc (.cells #[.int .i64 (a : Int)] 3)) := (((Below.refl _ _).alloc (Nat.le_refl _) _).alloc (by simp) _).alloc (by simp; omega) _
    have hrow5 : Row _ w.heap.size G N (List.replicate N 0) := hrow4.kept hB5 hG
    have hbx5 := boxed_below hbx4 hB5
    have hBw5 := hB4.trans (hB5.mono hB4.size)
    generalize (((w4.alloc (.cells #[.slice (some ⟨G, 0, none⟩) N N] 22)).alloc (.cells #[.slice p n c] 22)).alloc (.cells #[.int .i64 (a : Int)] 3)) = W5 at hs5 hb9 hcs hcn hB5 hrow5 hbx5 hBw5 ⊢
    obtain ⟨B9, hB9⟩ : ∃ B9, w4.heap.size = B9 := ⟨_, rfl⟩
    rw [hB9] at hs5 hb9 hcs hcn hG ⊢
    clear hB9 hB5 hrow4 hbx4 hbo4 hB4
    refine wpIn_rangeFunc_ownG (F := Fence.wide) rfl (by omega) (gf := 43) (lb := #[.pointer (some ⟨B9 + 1, 0, none⟩), .pointer (some ⟨B9 + 1 + 1, 0, none⟩)]) rfl trivial (enters_of Try.func43 (by kernel_rfl) rfl)
      (chunk_stops Fence.wide (6 - 1) trivial rfl (by omega) (B9 + 1) (B9 + 1 + 1) n c a q o p hp W5 hcs hcn (by omega) hnc ha1 (by omega)) KpC.trans (KpC.put (by omega) (by omega)) (Below.refl _ _) (fun _ => rfl)
      (NdI w.heap.size w B9 G N xs a)
      (fun _ _ _ => False)
      (NdI.own (by omega) hN1 (by omega))
      (fun _ _ _ _ _ hs _ _ => hs)
      ⟨hb9, hrow5, hbx5, hBw5, by omega⟩
      (fun x => { tmps := #[.slice p n c, .int .i64 (N : Int), .int .i64 (a : Int), undef, .pointer (some ⟨w.heap.size, 0, none⟩), undef, .slice none 0 0, .int .i64 0, .int .i64 0, .pointer (some ⟨B9, 0, none⟩), .slice (some ⟨q, o + x * a, none⟩) (min a (n - x * a)) (min a (n - x * a)), undef, undef, x0, x1, x2, x3, x4, x5, x6, .bool false, .slice p n c, .int .i64 (N : Int), .int .i64 0, .int .i64 0, .bool false, undef, .int .i64 (N : Int), .slice (some ⟨G, 0, none⟩) N N, .slice p n c, .int .i64 (a : Int), .func (.func 43) #[] #[.pointer (some ⟨B9 + 1, 0, none⟩), .pointer (some ⟨B9 + 1 + 1, 0, none⟩)], .slice (some ⟨q, o + x * a, none⟩) (min a (n - x * a)) (min a (n - x * a)), undef, undef, undef, undef, undef, undef, undef, undef, undef, undef, undef, undef, undef, undef, undef, undef, undef, undef, undef, undef], defers := [] }) ?assign ?body ?done ?stop
    case assign =>
      intro l x W K hK
      unfold encP
      gi_wp2
      exact hK
    case body =>
      rintro l pre x W ⟨h9, hrw, hbx, hBW, hbig⟩ hlen
      obtain rfl : p = some ⟨q, o, none⟩ := hp.resolve_right (by rintro rfl; simp [manyP] at hlen; have := Nat.div_eq_of_lt (show a - 1 < a by omega); omega)
      have hpl := pieceL_len xs a (x * a)
      rw [hx.out] at hpl
      have hPR := piece_reads a (x * a) (hR.below hBW (Nat.le_refl _))
      have hPI := Lib.hid (piece_in (a := a) (s := x * a) (inReg_of hr.out).1)
      have HNX := Lib.hid (needL_snoc xs N a pre x)
      obtain ⟨ps, hps⟩ : ∃ ps, pieceL xs a (x * a) = ps := ⟨_, rfl⟩
      obtain ⟨m, hmm⟩ : ∃ m, min a (n - x * a) = m := ⟨_, rfl⟩
      obtain ⟨oo, hoo⟩ : ∃ oo, o + x * a = oo := ⟨_, rfl⟩
      rw [hps] at hpl hPR hPI HNX
      rw [hmm] at hpl ⊢
      rw [hoo] at hPR ⊢
      have hmn : m ≤ 1000 := by omega
      have Hpl := Lib.hid hpl
      obtain ⟨Y, hY⟩ : ∃ Y, needL xs N a pre = Y := ⟨_, rfl⟩
      have hYb := fun j => needL_bd xs N a pre j
      rw [hx.out] at hYb
      have hYl := needL_len xs N a pre
      rw [hY] at hrw HNX hYb hYl
      have HYb := Lib.hid hYb
      have HYl := Lib.hid hYl
      have hbo := hbx.cell
      clear hpl hps hmm hoo hY hYb hYl hlen
      gi_wp2_with fail
      refine ⟨trivial, ?_⟩
      refine (CallsIn.inRound l (callsIn_wide.2 (counted_any _ ps m m Hpl hmn N (by omega) hPI _ hPR))).mono ?_
      rintro e w6 ⟨g2, rfl, hrow6, hb6⟩
      rw [Hpl.out] at HNX
      obtain ⟨Z, hZ⟩ : ∃ Z, cntTo ps N m = Z := ⟨_, rfl⟩
      have hZb := fun j => cntTo_bd ps N m j
      rw [hZ] at hrow6 HNX hZb
      have HZb := Lib.hid hZb
      clear hZ hZb hPR hPI
      have I0 : NdJ w W B9 G N g2 Y Z 0 w6 := ⟨boxed_below h9 hb6, hrw.kept hb6 hrw.lt.2, hrow6, boxed_below hbx hb6, hBW.trans (hb6.mono hBW.size), (show KeepsOthers W w6 from ⟨hb6.size, fun k o' hk _ => (hb6.block k (Array.getElem?_eq_some_iff.1 hk).1).trans hk⟩), KpC_of_below hb6 (by omega) (by omega)⟩
      have hgG : g2 ≠ G := by have := hrow6.lt.1; have := hrw.lt.2; omega
      clear h9 hrw hrow6 hbx hb6 hbo
      gi_wp2
      gi_loopw [11, 12, 37] (fun _ _ i wz => ∃ k : Nat, k ≤ N ∧ i = .int .i64 (k : Int) ∧ Hid (NdJ w W B9 G N g2 Y Z k wz)) (fun _ _ i _ => N - (intOf i).toNat)
      case atStart => exact ⟨0, by omega, rfl, I0⟩
      case round =>
        obtain ⟨k, hk, rfl, HJ⟩ := hrel
        by_cases hlt : k < N
        · have J := HJ.out
          obtain ⟨z, hz⟩ : ∃ z, nth Z k = z := ⟨_, rfl⟩
          obtain ⟨y, hy⟩ : ∃ y, nth Y k = y := ⟨_, rfl⟩
          obtain ⟨M, hM⟩ : ∃ M, max y z = M := ⟨_, rfl⟩
          have hcz := J.row2.cell hlt
          rw [hz] at hcz
          have hcy := J.row.cell hlt
          rw [maxTo_ahead Y Z k k (Nat.le_refl _), hy] at hcy
          have HS := Lib.hid (show maxTo Y Z (k + 1) = (maxTo Y Z k).set k M by rw [maxTo, hy, hz, hM])
          have hzb := HZb.out k
          have hyb := HYb.out k
          rw [hz] at hzb
          rw [hy] at hyb
          obtain ⟨hz0, hz1⟩ := hzb
          obtain ⟨hy0, hy1⟩ := hyb
          have hkN : (k : Int) < (N : Int) := by omega
          have hM3 : (if y < z then z else y) = M := by rw [← hM]; split <;> omega
          clear hz hy
          gi_wp2
          refine wpIn_region_last follows_mixedB [some 42, some 43, some 44, some 45, some 46, some 47, some 48, some 49, some 50, none] (by kernel_rfl) [(.slice (some ⟨G, 0, none⟩) N N), (.int .i64 (k : Int)), (.slice (some ⟨G, 0, none⟩) N N), (.int .i64 (k : Int)), (.pointer (some ⟨G, k, none⟩)), (.int .i64 y), (.int .i64 z), (.int .i64 M), (.pointer (some ⟨G, k, none⟩))] rfl (by kernel_rfl) (fun x V' => x = undef ∧ ∃ V0 : World, Below wr.heap.size wr V0 ∧ V' = V0.setCell ⟨G, k, none⟩ (.int .i64 M)) ?step ?last ?fin
          case step =>
            intro i hi a1 V FD
            have hi : i < 9 := hi
            have e : i = 0 ∨ i = 1 ∨ i = 2 ∨ i = 3 ∨ i = 4 ∨ i = 5 ∨ i = 6 ∨ i = 7 ∨ i = 8 := by omega
            clear hi
            rcases e with rfl | rfl | rfl | rfl | rfl | rfl | rfl | rfl | rfl
            · have e9 : a1.tmps[9]?.getD undef = (.pointer (some ⟨B9, 0, none⟩)) := (FD.kept 9 (by kernel_rfl)).trans rfl
              refine wpOpIn_step rfl (fun K hK => ?_)
              refine Eq.mpr (if_pos (by rfl)) ?_
              have hc9 := (boxed_below J.b9 FD.below).cell
              go_simp
              exact hK _ _ ⟨rfl, Below.refl _ _⟩
            · have e11 : a1.tmps[11]?.getD undef = (.int .i64 (k : Int)) := (FD.kept 11 (by kernel_rfl)).trans rfl
              refine wpOpIn_step rfl (fun K hK => ?_)
              refine Eq.mpr (if_pos (by rfl)) ?_
              go_simp
              exact hK _ _ ⟨rfl, Below.refl _ _⟩
            · have e9 : a1.tmps[9]?.getD undef = (.pointer (some ⟨B9, 0, none⟩)) := (FD.kept 9 (by kernel_rfl)).trans rfl
              refine wpOpIn_step rfl (fun K hK => ?_)
              refine Eq.mpr (if_pos (by rfl)) ?_
              have hc9 := (boxed_below J.b9 FD.below).cell
              go_simp
              exact hK _ _ ⟨rfl, Below.refl _ _⟩
            · have e11 : a1.tmps[11]?.getD undef = (.int .i64 (k : Int)) := (FD.kept 11 (by kernel_rfl)).trans rfl
              refine wpOpIn_step rfl (fun K hK => ?_)
              refine Eq.mpr (if_pos (by rfl)) ?_
              go_simp
              exact hK _ _ ⟨rfl, Below.refl _ _⟩
            · have e44 : a1.tmps[44]?.getD undef = (.slice (some ⟨G, 0, none⟩) N N) := FD.dep 2 44 (by kernel_rfl) rfl
              have e45 : a1.tmps[45]?.getD undef = (.int .i64 (k : Int)) := FD.dep 3 45 (by kernel_rfl) rfl
              refine wpOpIn_step rfl (fun K hK => ?_)
              refine Eq.mpr (if_pos (by rfl)) ?_
              go_simp
              exact hK _ _ ⟨rfl, Below.refl _ _⟩
            · have e46 : a1.tmps[46]?.getD undef = (.pointer (some ⟨G, k, none⟩)) := FD.dep 4 46 (by kernel_rfl) rfl
              refine wpOpIn_step rfl (fun K hK => ?_)
              refine Eq.mpr (if_pos (by rfl)) ?_
              have hcG : V.cell? ⟨G, k, none⟩ = some (.int .i64 y) := cell_tr FD.below hcy
              go_simp
              exact hK _ _ ⟨rfl, Below.refl _ _⟩
            · have e12 : a1.tmps[12]?.getD undef = (.int .i64 z) := (FD.kept 12 (by kernel_rfl)).trans rfl
              refine wpOpIn_step rfl (fun K hK => ?_)
              refine Eq.mpr (if_pos (by rfl)) ?_
              go_simp
              exact hK _ _ ⟨rfl, Below.refl _ _⟩
            · have e47 : a1.tmps[47]?.getD undef = (.int .i64 y) := FD.dep 5 47 (by kernel_rfl) rfl
              have e48 : a1.tmps[48]?.getD undef = (.int .i64 z) := FD.dep 6 48 (by kernel_rfl) rfl
              refine wpOpIn_step rfl (fun K hK => ?_)
              refine Eq.mpr (if_pos (by rfl)) ?_
              go_simp
              exact hK _ _ ⟨rfl, Below.refl _ _⟩
            · have e42 : a1.tmps[42]?.getD undef = (.slice (some ⟨G, 0, none⟩) N N) := FD.dep 0 42 (by kernel_rfl) rfl
              have e43 : a1.tmps[43]?.getD undef = (.int .i64 (k : Int)) := FD.dep 1 43 (by kernel_rfl) rfl
              refine wpOpIn_step rfl (fun K hK => ?_)
              refine Eq.mpr (if_pos (by rfl)) ?_
              go_simp
              exact hK _ _ ⟨rfl, Below.refl _ _⟩
          case last =>
            intro a1 V FD
            have e50 : a1.tmps[50]?.getD undef = (.pointer (some ⟨G, k, none⟩)) := FD.dep 8 50 (by kernel_rfl) rfl
            have e49 : a1.tmps[49]?.getD undef = (.int .i64 M) := FD.dep 7 49 (by kernel_rfl) rfl
            refine wpOpIn_step rfl (fun K hK => ?_)
            refine Eq.mpr (if_pos (by rfl)) ?_
            have hrk := J.row.kept FD.below J.row.lt.2
            have hcG : V.cell? ⟨G, k, none⟩ = some (.int .i64 y) := cell_tr FD.below hcy
            have hfG : V.frozen? ⟨G, k, none⟩ = false := hrk.frozen k
            have hbV := FD.below
            go_simp
            exact hK _ _ ⟨undef, rfl, rfl, V, hbV, rfl⟩
          case fin =>
            intro x V hL
            simp only [finV, List.cons_append, List.nil_append, List.set_cons_succ, List.set_cons_zero]
            obtain ⟨rfl, V0, hbV, rfl⟩ := hL
            have HJ2 := Lib.hid (J.next hbV hG0 hG hgG hbig HS.out)
            gi_wp2
            go_roundw
            case rel => exact ⟨k + 1, by omega, by go_num, HJ2⟩
            case measure => simp [intOf]; omega
        · obtain rfl : k = N := by omega
          gi_wp2
          have J := HJ.out
          exact ⟨J.keeps.from _, J.kp, J.b9, by rw [HNX.out]; exact J.row, J.bx, J.below, Nat.le_trans hbig J.keeps.size⟩
    case done =>
      rintro D ys W hD rfl ⟨h9, hrw, hbx, hBW, hbig⟩ hK
      have hc9 := h9.cell
      rw [needL_upto] at hrw
      gi_wp2
      refine ⟨by simp, .inl ⟨_, _, rfl, run_takeDeferred hK, ?_⟩⟩
      have hg := grownBy_putObj' W D (.deferred none)
      exact ⟨_, results_tmp2 rfl _ _ _, ⟨_, _, rfl, (row_grown hrw hg (by simp; omega)).reads⟩, hBW.grown hg hBW.size (fun k e => by cases e; omega)⟩
    case stop =>
      rintro D cc pre W _ _ h _
      exact h.elim
end Go.Proofs.Ytahmhdjoaoldcaa
