/-
  The circle of houses: joined.
-/
import Derived.Test.YtdnccdobnhbpeaaDoorHoJ
import Derived.Test.YtdnccdobnhbpeaaDoorHoJ1
namespace Go.Proofs.YtdnccdobnhbpeaaDoor
open Go Go.RowKit Go.Maps Go.ChangeShapes Go.WideElems
set_option linter.unusedVariables false

theorem info_int1 : (Tryd.prog.info? 3).map (fun i => (i.zero, i.size, i.bytes)) = some (some (.int .i64 0), 1, 8) := by kernel_rfl
theorem zeroSI (w : World) : (zeroValue 25).run Tryd.prog w = .ok (.slice none 0 0) w := by kernel_rfl
theorem blk_newN {W : World} {n : Nat} (t : TypeId) (cs : Array Value) (h : W.heap.size = n) : Blk (W.alloc (.cells cs t)) n t cs := by subst h; exact Blk.new _ _ _
theorem obj_newN {W : World} {n : Nat} (o : Obj) (h : W.heap.size = n) : (W.alloc o).heap[n]? = some o := by subst h; exact heap_alloc_new W o
theorem info_circle : (Tryd.prog.info? 84).map (·.size) = some 13 := by kernel_rfl
theorem keyedF : Keyed Tryd.prog 22 := int_keyed Tryd.underlying22
/-- The houses below k (counted from 1) that have a figure. -/
def standL (s : List Int) (f : Int) (k : Nat) : List Int := ((List.range k).filter fun j => decide (nth s j = f)).map fun j : Nat => (j : Int) + 1
def stD (s : List Int) (f : Int) (k : Nat) : DataW Unit := if standL s f k = [] then .nil else .slice (lits .i64 (standL s f k)) []
theorem groups_alloc {w : World} {P : Program} {k : TypeId} {base : Nat} {e : TypeId} {q : IntKind} {b n : Nat} {D : DataW Unit} (h : w.ownsGroups P k base e q b n D) (o : Obj) : (w.alloc o).ownsGroups P k base e q b n D := by
  obtain ⟨es, clock, hb, F, hs, rfl, hbb, hlen, hap⟩ := h
  obtain ⟨F1, hmap, _⟩ := F.stay (R' := rowElem (w.alloc o) base e q) (fun x _ z hz => by obtain ⟨zs, ho, rfl⟩ := rowElem_inv hz; exact rowElem_mk ⟨ho.1.alloc _, ho.2⟩)
  refine ⟨es, clock, (Below.heap_alloc w o b (Array.getElem?_eq_some_iff.1 hb).1).trans hb, F1, hs, by rw [hmap], hbb, fun x hx zs hz => ?_, hap⟩
  obtain ⟨y, hy⟩ := F.reads x hx
  obtain ⟨z, hz2⟩ : ∃ z, rowElem (H := Unit) w base e q x.val = some z := by
    unfold rd at hy
    cases hr : rowElem (H := Unit) w base e q x.val with
    | none => simp [hr] at hy
    | some z => exact ⟨z, rfl⟩
  obtain ⟨zs0, ho, rfl⟩ := rowElem_inv hz2
  have : zs = zs0 := hz.unique ⟨ho.1.alloc _, ho.2⟩
  rw [this]
  exact hlen x hx zs0 ho
theorem groups_kept {w w2 : World} {row : Option Nat} {P : Program} {k : TypeId} {base : Nat} {e : TypeId} {q : IntKind} {b n : Nat} {D : DataW Unit} (h : w.ownsGroups P k base e q b n D) (hg : w.grownBy w2 row) (hr : ∀ r, row = some r → r ≠ b ∧ r < base) : w2.ownsGroups P k base e q b n D := by
  obtain ⟨es, clock, hb, F, hs, rfl, hbb, hlen, hap⟩ := h
  have hne : ∀ v zs, w.ownsInts base e q v zs → v.ownBlock = none ∨ v.ownBlock ≠ row := fun v zs ho => by
    cases hv : v.ownBlock with
    | none => exact .inl rfl
    | some g =>
      refine .inr fun e' => ?_
      have h1 := (ho.1.lt g hv).1
      have h2 := (hr g e'.symm).2
      omega
  obtain ⟨F1, hmap, _⟩ := F.stay (R' := rowElem w2 base e q) (fun x _ z hz => by obtain ⟨zs, ho, rfl⟩ := rowElem_inv hz; exact rowElem_mk ⟨ho.1.kept hg (hne _ _ ho), ho.2⟩)
  refine ⟨es, clock, (hg.block b (Array.getElem?_eq_some_iff.1 hb).1 (fun e' => (hr b e'.symm).1 rfl)).trans hb, F1, hs, by rw [hmap], hbb, fun x hx zs hz => ?_, hap⟩
  obtain ⟨y, hy⟩ := F.reads x hx
  obtain ⟨z, hz2, _⟩ := rd_val hy
  obtain ⟨zs0, ho, rfl⟩ := rowElem_inv hz2
  have : zs = zs0 := hz.unique ⟨ho.1.kept hg (hne _ _ ho), ho.2⟩
  rw [this]
  exact hlen x hx zs0 ho
theorem groups_isMap {w : World} {P : Program} {k : TypeId} {base : Nat} {e : TypeId} {q : IntKind} {b n : Nat} {D : DataW Unit} (h : w.ownsGroups P k base e q b n D) : IsMap D := by
  obtain ⟨es, clock, hb, F, hs, rfl, hbb, hlen, hap⟩ := h
  exact ⟨_, rfl⟩
theorem standL_yes {s : List Int} {f : Int} {k : Nat} (h : nth s k = f) : standL s f (k + 1) = standL s f k ++ [(k : Int) + 1] := by simp [standL, List.range_succ, List.filter_append, h]
theorem standL_no {s : List Int} {f : Int} {k : Nat} (h : nth s k ≠ f) : standL s f (k + 1) = standL s f k := by simp [standL, List.range_succ, List.filter_append, h]
theorem lits_inj : ∀ {xs ys : List Int}, (lits (H := Unit) .i64 xs) = lits .i64 ys → xs = ys
  | [], [], _ => rfl
  | [], y :: ys, h => by simp [lits] at h
  | x :: xs, [], h => by simp [lits] at h
  | x :: xs, y :: ys, h => by
    simp only [lits, List.map_cons, List.cons.injEq, DataW.lit.injEq, Lit.int.injEq, true_and] at h
    rw [h.1, lits_inj (show lits (H := Unit) .i64 xs = lits .i64 ys from h.2)]
/-- What the look-up gave is the houses up to now. -/
theorem look_stand {s : List Int} {f : Int} {k : Nat} {w : World} {base : Nat} {v : Value} {zs : List Int} (hoi : w.ownsInts base 3 .i64 v zs) (h : stD s f k = rowDatum .i64 v zs) : zs = standL s f k := by
  unfold stD at h
  split at h
  · rename_i h0
    rcases hoi.datum (H := Unit) with ⟨_, h1⟩ | h1
    · rw [h1, h0]
    · rw [h1] at h
      cases h
  · rename_i h0
    rcases hoi.datum (H := Unit) with ⟨h1, _⟩ | h1
    · rw [h1] at h
      cases h
    · rw [h1] at h
      injection h with h2
      exact (lits_inj h2).symm
theorem stand_step {s : List Int} {f : Int} {k : Nat} {w w2 : World} {base : Nat} {v v' : Value} {zs : List Int} {D : DataW Unit} (hm : IsMap D) (hD : ∀ g : Int, D.atKey (.int .i64 g) .nil = stD s g k) (hf : nth s k = f)
    (hoi : w.ownsInts base 3 .i64 v zs) (hat : D.atKey (.int .i64 f) .nil = rowDatum .i64 v zs) (ho2 : w2.ownsInts base 3 .i64 v' (zs ++ [(k : Int) + 1])) (g : Int) :
    (D.put (.int .i64 f) (rowDatum .i64 v' (zs ++ [(k : Int) + 1]))).atKey (.int .i64 g) .nil = stD s g (k + 1) := by
  by_cases hg : g = f
  · subst hg
    rw [atKey_put_same hm (show WideAt.IsKeyLit (.int .i64 g) from trivial), ho2.datum_pos (by simp)]
    have hz := look_stand hoi ((hD g).symm.trans hat)
    unfold stD
    rw [standL_yes hf, if_neg (by simp), hz]
  · rw [atKey_put_other (by intro e; injection e with _ e2; exact hg e2), hD g]
    unfold stD
    rw [standL_no (fun e => hg (e.symm.trans hf))]
/-- What stays throughout. -/
structure GJ (w : World) (base mb S R : Nat) (cs rs : Array Value) (V : World) : Prop where
  st : Blk V S 84 cs
  rs : Blk V R 84 rs
  bl : Below w.heap.size w V
  sz : base ≤ V.heap.size
theorem GJ.grown {w : World} {base mb S R : Nat} {cs rs : Array Value} {V V2 : World} {row : Option Nat} (h : GJ w base mb S R cs rs V) (hg : V.grownBy V2 row) (hS : S < base) (hR : R < base) (hSm : S ≠ mb) (hRm : R ≠ mb) (hw : w.heap.size ≤ mb) (hwb : w.heap.size ≤ base) (hr : ∀ r, row = some r → base ≤ r ∨ r = mb) : GJ w base mb S R cs rs V2 :=
  ⟨(hg.block S h.st.lt (fun e => by rcases hr S e.symm with h | h <;> omega)).trans h.st, (hg.block R h.rs.lt (fun e => by rcases hr R e.symm with h | h <;> omega)).trans h.rs, h.bl.grown hg h.bl.size (fun j e => by rcases hr j e with h | h <;> omega), Nat.le_trans h.sz hg.size⟩

/-- What holds between the operations of the region. -/
structure RJ (w wr : World) (base mb S R : Nat) (cs rs : Array Value) (f : Int) (k : Nat) (D : DataW Unit) (b : Nat) (v v' : Value) (V1 : World) : Prop where
  g : GJ w base mb S R cs rs V1
  early : b.testBit 10 = false → V1 = if b.testBit 9 = true then wr.drew.alloc (.cells #[.int .i64 ((k : Int) + 1)] 3) else wr.drew
  dep : b.testBit 10 = true → b.testBit 9 = true ∧ b.testBit 6 = true
  dep2 : b.testBit 11 = true → b.testBit 10 = true
  look : b.testBit 6 = true → ∃ zs, Look Tryd.prog 82 22 base 3 .i64 mb k D (.int .i64 f) (.int .i64 f) (wr.drew.alloc (.cells #[.int .i64 ((k : Int) + 1)] 3)) v zs ∧
    (b.testBit 10 = true → b.testBit 11 = false → (wr.drew.alloc (.cells #[.int .i64 ((k : Int) + 1)] 3)).grownBy V1 v.ownBlock ∧ V1.ownsInts base 3 .i64 v' (zs ++ [(k : Int) + 1]) ∧ (v'.ownBlock = v.ownBlock ∨ ∃ g, v'.ownBlock = some g ∧ (wr.drew.alloc (.cells #[.int .i64 ((k : Int) + 1)] 3)).heap.size ≤ g)) ∧
    (b.testBit 11 = true → V1.ownsGroups Tryd.prog 22 base 3 .i64 mb (k + 1) (D.put (.int .i64 f) (rowDatum .i64 v' (zs ++ [(k : Int) + 1]))) ∧ ∃ V2 : World, V2.ownsInts base 3 .i64 v' (zs ++ [(k : Int) + 1]))
theorem RJ.keep {w wr : World} {base mb S R : Nat} {cs rs : Array Value} {f : Int} {k : Nat} {D : DataW Unit} {b : Nat} {v v' : Value} {V1 : World} (h : RJ w wr base mb S R cs rs f k D b v v' V1) {i : Nat} (h6 : i ≠ 6) (h9 : i ≠ 9) (h10 : i ≠ 10) (h11 : i ≠ 11) : RJ w wr base mb S R cs rs f k D (b ||| 2 ^ i) v v' V1 := by
  have e : ∀ x, x ≠ i → (b ||| 2 ^ i).testBit x = b.testBit x := fun x hx => by rw [tbJ]; simp [Ne.symm hx]
  refine ⟨h.g, ?_, ?_, ?_, ?_⟩
  · rw [e 10 h10.symm, e 9 h9.symm]; exact h.early
  · rw [e 10 h10.symm, e 9 h9.symm, e 6 h6.symm]; exact h.dep
  · rw [e 10 h10.symm, e 11 h11.symm]; exact h.dep2
  · rw [e 10 h10.symm, e 11 h11.symm, e 6 h6.symm]; exact h.look

set_option maxRecDepth 100000 in
set_option maxHeartbeats 8000000 in
theorem joined_any (s0 s1 s2 s3 s4 s5 s6 s7 s8 s9 s10 s11 : Int) (hfig : Hid (∀ j, j < 12 → Fig (nth [s0, s1, s2, s3, s4, s5, s6, s7, s8, s9, s10, s11] j))) (w : World) :
    Calls Tryd.prog 45 #[.agg #[.int .i64 s0, .int .i64 s1, .int .i64 s2, .int .i64 s3, .int .i64 s4, .int .i64 s5, .int .i64 s6, .int .i64 s7, .int .i64 s8, .int .i64 s9, .int .i64 s10, .int .i64 s11]] w fun e w' => ∃ (base mb : Nat) (D : DataW Unit), e = .returned (.agg #[.int .i64 s0, .int .i64 s1, .int .i64 s2, .int .i64 s3, .int .i64 s4, .int .i64 s5, .int .i64 s6, .int .i64 s7, .int .i64 s8, .int .i64 s9, .int .i64 s10, .int .i64 s11, .map (some mb)]) ∧ w.heap.size ≤ mb ∧ w'.ownsGroups Tryd.prog 22 base 3 .i64 mb 12 D ∧ (∀ f : Int, D.atKey (.int .i64 f) .nil = stD [s0, s1, s2, s3, s4, s5, s6, s7, s8, s9, s10, s11] f 12) ∧ Below w.heap.size w w' := by
  have hmm := @run_makeMap Tryd.prog
  go_enter Tryd.func45, Tryd.ntmps45
  go_wp2_with fail
  clear hmm
  obtain ⟨base, hbase⟩ : ∃ n, w.heap.size + 1 + 1 + 1 + 1 = n := ⟨_, rfl⟩
  obtain ⟨S, hS⟩ : ∃ n, w.heap.size + 1 + 1 + 1 = n := ⟨_, rfl⟩
  rw [hS]
  obtain ⟨mb, hmb⟩ : ∃ n, w.heap.size + 1 + 1 = n := ⟨_, rfl⟩
  rw [hmb]
  have HSZ := Lib.hid (show base = w.heap.size + 4 ∧ S = w.heap.size + 3 ∧ mb = w.heap.size + 2 by omega)
  clear hbase hS hmb
  go_loopw [10] (fun i wr => ∃ (k : Nat) (D : DataW Unit), k ≤ 12 ∧ i = .int .i64 k ∧ Hid (wr.ownsGroups Tryd.prog 22 base 3 .i64 mb k D) ∧ Hid (∀ f : Int, D.atKey (.int .i64 f) .nil = stD [s0, s1, s2, s3, s4, s5, s6, s7, s8, s9, s10, s11] f k) ∧ Hid (GJ w base mb S (w.heap.size + 1) #[.int .i64 s0, .int .i64 s1, .int .i64 s2, .int .i64 s3, .int .i64 s4, .int .i64 s5, .int .i64 s6, .int .i64 s7, .int .i64 s8, .int .i64 s9, .int .i64 s10, .int .i64 s11, .map (some mb)] #[.int .i64 0, .int .i64 0, .int .i64 0, .int .i64 0, .int .i64 0, .int .i64 0, .int .i64 0, .int .i64 0, .int .i64 0, .int .i64 0, .int .i64 0, .int .i64 0, .map none] wr)) (fun i _ => 12 - (intOf i).toNat)
  case atStart =>
    obtain ⟨z1, z2, z3⟩ := HSZ.out
    refine ⟨0, .map [], by omega, rfl, Lib.hid ⟨#[], 0, ?_, ⟨by simp, Go.MapKept.stamped_empty 0, by simp⟩, Nat.le_refl _, rfl, by omega, by simp, by simp⟩, Lib.hid (fun f => ?_), Lib.hid ⟨blk_newN _ _ (by simp; omega), Blk.alloc (Blk.alloc (blk_newN _ _ (by simp)) _) _, (((((Below.refl _ _).alloc (Nat.le_refl _) _).alloc (by simp) _).alloc (by simp; omega) _).alloc (by simp; omega) _), by simp; omega⟩⟩
    · refine (Below.heap_alloc _ _ mb (by simp; omega)).trans ?_
      exact obj_newN _ (by simp; omega)
    · simp only [stD, standL, List.range_zero, List.filter_nil, List.map_nil, if_pos]
      rfl
  case round =>
    obtain ⟨k, D, hk, rfl, HOG, HAT, HG⟩ := hrel
    by_cases hlt : k < 12
    · have hx : ∀ w : World, (Instr.index 24 (.agg #[.int .i64 s0, .int .i64 s1, .int .i64 s2, .int .i64 s3, .int .i64 s4, .int .i64 s5, .int .i64 s6, .int .i64 s7, .int .i64 s8, .int .i64 s9, .int .i64 s10, .int .i64 s11]) (.int .i64 k)).run Tryd.prog w = .ok (.int .i64 (nth [s0, s1, s2, s3, s4, s5, s6, s7, s8, s9, s10, s11] k)) w := fun w => index_arr (P := Tryd.prog) (t := 24) Tryd.underlying24 Tryd.underlying22 info_fig (s := [s0, s1, s2, s3, s4, s5, s6, s7, s8, s9, s10, s11]) rfl hlt w
      have hd : decide ((k : Int) < 12) = true := decide_eq_true (by omega)
      have HF := Lib.hid (hfig.out k hlt)
      obtain ⟨f, hf⟩ : ∃ f, nth [s0, s1, s2, s3, s4, s5, s6, s7, s8, s9, s10, s11] k = f := ⟨_, rfl⟩
      have HFE := Lib.hid hf
      rw [hf] at HF
      simp only [hf] at hx
      clear hf
      have HKEY := Lib.hid (show keyOf Tryd.prog 22 (.int .i64 f) = some (.int .i64 f) from keyOf_int_mk Tryd.underlying22 (by have := HF.out; unfold Fig at this; simp [Lit.wf, IntKind.min, IntKind.max, IntKind.signed, IntKind.bits]; omega))
      go_wp2
      clear hx hd
      have e8 : IntKind.i64.wrap ((k : Int) + 1) = (k : Int) + 1 := IntWalk.i64_in _ (by omega)
      refine wp_region_inv follows_mixed depsJ ?ok (fun b a V1 => ∃ v v', Hid (RJ w wr base mb S (w.heap.size + 1) #[.int .i64 s0, .int .i64 s1, .int .i64 s2, .int .i64 s3, .int .i64 s4, .int .i64 s5, .int .i64 s6, .int .i64 s7, .int .i64 s8, .int .i64 s9, .int .i64 s10, .int .i64 s11, .map (some mb)] #[.int .i64 0, .int .i64 0, .int .i64 0, .int .i64 0, .int .i64 0, .int .i64 0, .int .i64 0, .int .i64 0, .int .i64 0, .int .i64 0, .int .i64 0, .int .i64 0, .map none] f k D b v v' V1) ∧ a = actJ (.agg #[.int .i64 s0, .int .i64 s1, .int .i64 s2, .int .i64 s3, .int .i64 s4, .int .i64 s5, .int .i64 s6, .int .i64 s7, .int .i64 s8, .int .i64 s9, .int .i64 s10, .int .i64 s11]) (.pointer (some ⟨w.heap.size, 0, none⟩)) (.pointer (some ⟨w.heap.size + 1, 0, none⟩)) (.pointer (some ⟨S, 0, none⟩)) (.int .i64 (k : Int)) (.int .i64 f) (.agg #[.int .i64 s0, .int .i64 s1, .int .i64 s2, .int .i64 s3, .int .i64 s4, .int .i64 s5, .int .i64 s6, .int .i64 s7, .int .i64 s8, .int .i64 s9, .int .i64 s10, .int .i64 s11]) (.map (some mb)) (.agg #[.int .i64 s0, .int .i64 s1, .int .i64 s2, .int .i64 s3, .int .i64 s4, .int .i64 s5, .int .i64 s6, .int .i64 s7, .int .i64 s8, .int .i64 s9, .int .i64 s10, .int .i64 s11, .map (some mb)]) (.agg #[.int .i64 s0, .int .i64 s1, .int .i64 s2, .int .i64 s3, .int .i64 s4, .int .i64 s5, .int .i64 s6, .int .i64 s7, .int .i64 s8, .int .i64 s9, .int .i64 s10, .int .i64 s11]) (.int .i64 (k : Int)) (.bool true) (.int .i64 (k : Int)) (.int .i64 f) u14 u15 u16 u17 u18 u19 u20 u21 u22 u23 u24 u25 undef b (.pointer (some ⟨S, 12, none⟩)) (.map (some mb)) (.int .i64 f) (.pointer (some ⟨S, 12, none⟩)) (.map (some mb)) (.int .i64 f) v (.int .i64 (k : Int)) (.int .i64 ((k : Int) + 1)) (.slice (some ⟨wr.heap.size, 0, none⟩) 1 1) v') ?start ?step ?fin
      case ok => exact regionJ_ok
      case start =>
        refine ⟨undef, undef, ⟨⟨HG.out.st, HG.out.rs, HG.out.bl.drew, HG.out.sz⟩, fun _ => by simp, fun e => by simp at e, fun e => by simp at e, fun e => by simp at e⟩, by simp [actJ]⟩
      case fin =>
        rintro a V1 ⟨v, v', HRJ, ha⟩
        have HR := HRJ.out
        obtain ⟨zs, hl, _, hC⟩ := HR.look (by decide)
        obtain ⟨hog, V2, ho2⟩ := hC (by decide)
        have HOG2 := Lib.hid hog
        have HAT2 := Lib.hid (fun g => stand_step (groups_isMap HOG.out) HAT.out HFE.out hl.2.1 hl.1 ho2 g)
        have HG2 := Lib.hid HR.g
        clear HR HRJ hl hC hog ho2
        generalize D.put (.int .i64 f) (rowDatum .i64 v' (zs ++ [(k : Int) + 1])) = D2 at HOG2 HAT2
        have ea : a = ({ tmps := #[(.agg #[.int .i64 s0, .int .i64 s1, .int .i64 s2, .int .i64 s3, .int .i64 s4, .int .i64 s5, .int .i64 s6, .int .i64 s7, .int .i64 s8, .int .i64 s9, .int .i64 s10, .int .i64 s11]), (.pointer (some ⟨w.heap.size, 0, none⟩)), (.pointer (some ⟨w.heap.size + 1, 0, none⟩)), (.pointer (some ⟨S, 0, none⟩)), (.int .i64 (k : Int)), (.int .i64 f), (.agg #[.int .i64 s0, .int .i64 s1, .int .i64 s2, .int .i64 s3, .int .i64 s4, .int .i64 s5, .int .i64 s6, .int .i64 s7, .int .i64 s8, .int .i64 s9, .int .i64 s10, .int .i64 s11]), (.map (some mb)), (.agg #[.int .i64 s0, .int .i64 s1, .int .i64 s2, .int .i64 s3, .int .i64 s4, .int .i64 s5, .int .i64 s6, .int .i64 s7, .int .i64 s8, .int .i64 s9, .int .i64 s10, .int .i64 s11, .map (some mb)]), (.agg #[.int .i64 s0, .int .i64 s1, .int .i64 s2, .int .i64 s3, .int .i64 s4, .int .i64 s5, .int .i64 s6, .int .i64 s7, .int .i64 s8, .int .i64 s9, .int .i64 s10, .int .i64 s11]), (.int .i64 (k : Int)), (.bool true), (.int .i64 (k : Int)), (.int .i64 f), (.pointer (some ⟨S, 12, none⟩)), (.map (some mb)), (.int .i64 f), (.pointer (some ⟨S, 12, none⟩)), (.map (some mb)), (.int .i64 f), v, (.int .i64 (k : Int)), (.int .i64 ((k : Int) + 1)), (.slice (some ⟨wr.heap.size, 0, none⟩) 1 1), v', u25, undef], defers := [] } : Act) := ha.trans rfl
        clear ha
        subst ea
        go_wp2
        go_roundw
        case rel => exact ⟨k + 1, D2, by omega, by go_num, HOG2, HAT2, HG2⟩
        case measure => simp [intOf]; omega
      case step =>
        rintro b a V1 ⟨v, v', HRJ, rfl⟩ i hi hb hd
        have hi12 : i < 12 := hi
        clear hi
        have e : i = 0 ∨ i = 1 ∨ i = 2 ∨ i = 3 ∨ i = 4 ∨ i = 5 ∨ i = 6 ∨ i = 7 ∨ i = 8 ∨ i = 9 ∨ i = 10 ∨ i = 11 := by omega
        rcases e with rfl | rfl | rfl | rfl | rfl | rfl | rfl | rfl | rfl | rfl | rfl | rfl
        · have HR := HRJ.out
          have ev3 : (actJ (.agg #[.int .i64 s0, .int .i64 s1, .int .i64 s2, .int .i64 s3, .int .i64 s4, .int .i64 s5, .int .i64 s6, .int .i64 s7, .int .i64 s8, .int .i64 s9, .int .i64 s10, .int .i64 s11]) (.pointer (some ⟨w.heap.size, 0, none⟩)) (.pointer (some ⟨w.heap.size + 1, 0, none⟩)) (.pointer (some ⟨S, 0, none⟩)) (.int .i64 (k : Int)) (.int .i64 f) (.agg #[.int .i64 s0, .int .i64 s1, .int .i64 s2, .int .i64 s3, .int .i64 s4, .int .i64 s5, .int .i64 s6, .int .i64 s7, .int .i64 s8, .int .i64 s9, .int .i64 s10, .int .i64 s11]) (.map (some mb)) (.agg #[.int .i64 s0, .int .i64 s1, .int .i64 s2, .int .i64 s3, .int .i64 s4, .int .i64 s5, .int .i64 s6, .int .i64 s7, .int .i64 s8, .int .i64 s9, .int .i64 s10, .int .i64 s11, .map (some mb)]) (.agg #[.int .i64 s0, .int .i64 s1, .int .i64 s2, .int .i64 s3, .int .i64 s4, .int .i64 s5, .int .i64 s6, .int .i64 s7, .int .i64 s8, .int .i64 s9, .int .i64 s10, .int .i64 s11]) (.int .i64 (k : Int)) (.bool true) (.int .i64 (k : Int)) (.int .i64 f) u14 u15 u16 u17 u18 u19 u20 u21 u22 u23 u24 u25 undef b (.pointer (some ⟨S, 12, none⟩)) (.map (some mb)) (.int .i64 f) (.pointer (some ⟨S, 12, none⟩)) (.map (some mb)) (.int .i64 f) v (.int .i64 (k : Int)) (.int .i64 ((k : Int) + 1)) (.slice (some ⟨wr.heap.size, 0, none⟩) 1 1) v').tmps[3]?.getD undef = (.pointer (some ⟨S, 0, none⟩)) := rfl
          refine wpOp_step rfl (fun K hK => ?_)
          refine Eq.mpr (if_pos (by rfl)) ?_
          generalize hact : actJ (.agg #[.int .i64 s0, .int .i64 s1, .int .i64 s2, .int .i64 s3, .int .i64 s4, .int .i64 s5, .int .i64 s6, .int .i64 s7, .int .i64 s8, .int .i64 s9, .int .i64 s10, .int .i64 s11]) (.pointer (some ⟨w.heap.size, 0, none⟩)) (.pointer (some ⟨w.heap.size + 1, 0, none⟩)) (.pointer (some ⟨S, 0, none⟩)) (.int .i64 (k : Int)) (.int .i64 f) (.agg #[.int .i64 s0, .int .i64 s1, .int .i64 s2, .int .i64 s3, .int .i64 s4, .int .i64 s5, .int .i64 s6, .int .i64 s7, .int .i64 s8, .int .i64 s9, .int .i64 s10, .int .i64 s11]) (.map (some mb)) (.agg #[.int .i64 s0, .int .i64 s1, .int .i64 s2, .int .i64 s3, .int .i64 s4, .int .i64 s5, .int .i64 s6, .int .i64 s7, .int .i64 s8, .int .i64 s9, .int .i64 s10, .int .i64 s11, .map (some mb)]) (.agg #[.int .i64 s0, .int .i64 s1, .int .i64 s2, .int .i64 s3, .int .i64 s4, .int .i64 s5, .int .i64 s6, .int .i64 s7, .int .i64 s8, .int .i64 s9, .int .i64 s10, .int .i64 s11]) (.int .i64 (k : Int)) (.bool true) (.int .i64 (k : Int)) (.int .i64 f) u14 u15 u16 u17 u18 u19 u20 u21 u22 u23 u24 u25 undef b (.pointer (some ⟨S, 12, none⟩)) (.map (some mb)) (.int .i64 f) (.pointer (some ⟨S, 12, none⟩)) (.map (some mb)) (.int .i64 f) v (.int .i64 (k : Int)) (.int .i64 ((k : Int) + 1)) (.slice (some ⟨wr.heap.size, 0, none⟩) 1 1) v' = act at ev3 ⊢
          clear HR
          go_simp
          refine hK _ _ ?_
          rw [← hact]
          exact ⟨v, v', Lib.hid (HRJ.out.keep (by omega) (by omega) (by omega) (by omega)), actJ_0 ..⟩
        · have HR := HRJ.out
          have ev14 : (actJ (.agg #[.int .i64 s0, .int .i64 s1, .int .i64 s2, .int .i64 s3, .int .i64 s4, .int .i64 s5, .int .i64 s6, .int .i64 s7, .int .i64 s8, .int .i64 s9, .int .i64 s10, .int .i64 s11]) (.pointer (some ⟨w.heap.size, 0, none⟩)) (.pointer (some ⟨w.heap.size + 1, 0, none⟩)) (.pointer (some ⟨S, 0, none⟩)) (.int .i64 (k : Int)) (.int .i64 f) (.agg #[.int .i64 s0, .int .i64 s1, .int .i64 s2, .int .i64 s3, .int .i64 s4, .int .i64 s5, .int .i64 s6, .int .i64 s7, .int .i64 s8, .int .i64 s9, .int .i64 s10, .int .i64 s11]) (.map (some mb)) (.agg #[.int .i64 s0, .int .i64 s1, .int .i64 s2, .int .i64 s3, .int .i64 s4, .int .i64 s5, .int .i64 s6, .int .i64 s7, .int .i64 s8, .int .i64 s9, .int .i64 s10, .int .i64 s11, .map (some mb)]) (.agg #[.int .i64 s0, .int .i64 s1, .int .i64 s2, .int .i64 s3, .int .i64 s4, .int .i64 s5, .int .i64 s6, .int .i64 s7, .int .i64 s8, .int .i64 s9, .int .i64 s10, .int .i64 s11]) (.int .i64 (k : Int)) (.bool true) (.int .i64 (k : Int)) (.int .i64 f) u14 u15 u16 u17 u18 u19 u20 u21 u22 u23 u24 u25 undef b (.pointer (some ⟨S, 12, none⟩)) (.map (some mb)) (.int .i64 f) (.pointer (some ⟨S, 12, none⟩)) (.map (some mb)) (.int .i64 f) v (.int .i64 (k : Int)) (.int .i64 ((k : Int) + 1)) (.slice (some ⟨wr.heap.size, 0, none⟩) 1 1) v').tmps[14]?.getD undef = (.pointer (some ⟨S, 12, none⟩)) := by
            show (if b.testBit 0 = true then _ else _) = _
            rw [if_pos (hd 0 (by simp [depsJ]))]
          have hc := HR.g.st.cell 12
          rw [show (#[.int .i64 s0, .int .i64 s1, .int .i64 s2, .int .i64 s3, .int .i64 s4, .int .i64 s5, .int .i64 s6, .int .i64 s7, .int .i64 s8, .int .i64 s9, .int .i64 s10, .int .i64 s11, .map (some mb)] : Array Value)[12]? = some (.map (some mb)) from rfl] at hc
          refine wpOp_step rfl (fun K hK => ?_)
          refine Eq.mpr (if_pos (by rfl)) ?_
          generalize hact : actJ (.agg #[.int .i64 s0, .int .i64 s1, .int .i64 s2, .int .i64 s3, .int .i64 s4, .int .i64 s5, .int .i64 s6, .int .i64 s7, .int .i64 s8, .int .i64 s9, .int .i64 s10, .int .i64 s11]) (.pointer (some ⟨w.heap.size, 0, none⟩)) (.pointer (some ⟨w.heap.size + 1, 0, none⟩)) (.pointer (some ⟨S, 0, none⟩)) (.int .i64 (k : Int)) (.int .i64 f) (.agg #[.int .i64 s0, .int .i64 s1, .int .i64 s2, .int .i64 s3, .int .i64 s4, .int .i64 s5, .int .i64 s6, .int .i64 s7, .int .i64 s8, .int .i64 s9, .int .i64 s10, .int .i64 s11]) (.map (some mb)) (.agg #[.int .i64 s0, .int .i64 s1, .int .i64 s2, .int .i64 s3, .int .i64 s4, .int .i64 s5, .int .i64 s6, .int .i64 s7, .int .i64 s8, .int .i64 s9, .int .i64 s10, .int .i64 s11, .map (some mb)]) (.agg #[.int .i64 s0, .int .i64 s1, .int .i64 s2, .int .i64 s3, .int .i64 s4, .int .i64 s5, .int .i64 s6, .int .i64 s7, .int .i64 s8, .int .i64 s9, .int .i64 s10, .int .i64 s11]) (.int .i64 (k : Int)) (.bool true) (.int .i64 (k : Int)) (.int .i64 f) u14 u15 u16 u17 u18 u19 u20 u21 u22 u23 u24 u25 undef b (.pointer (some ⟨S, 12, none⟩)) (.map (some mb)) (.int .i64 f) (.pointer (some ⟨S, 12, none⟩)) (.map (some mb)) (.int .i64 f) v (.int .i64 (k : Int)) (.int .i64 ((k : Int) + 1)) (.slice (some ⟨wr.heap.size, 0, none⟩) 1 1) v' = act at ev14 ⊢
          clear HR
          go_simp
          refine hK _ _ ?_
          rw [← hact]
          exact ⟨v, v', Lib.hid (HRJ.out.keep (by omega) (by omega) (by omega) (by omega)), actJ_1 ..⟩
        · have HR := HRJ.out
          have ev5 : (actJ (.agg #[.int .i64 s0, .int .i64 s1, .int .i64 s2, .int .i64 s3, .int .i64 s4, .int .i64 s5, .int .i64 s6, .int .i64 s7, .int .i64 s8, .int .i64 s9, .int .i64 s10, .int .i64 s11]) (.pointer (some ⟨w.heap.size, 0, none⟩)) (.pointer (some ⟨w.heap.size + 1, 0, none⟩)) (.pointer (some ⟨S, 0, none⟩)) (.int .i64 (k : Int)) (.int .i64 f) (.agg #[.int .i64 s0, .int .i64 s1, .int .i64 s2, .int .i64 s3, .int .i64 s4, .int .i64 s5, .int .i64 s6, .int .i64 s7, .int .i64 s8, .int .i64 s9, .int .i64 s10, .int .i64 s11]) (.map (some mb)) (.agg #[.int .i64 s0, .int .i64 s1, .int .i64 s2, .int .i64 s3, .int .i64 s4, .int .i64 s5, .int .i64 s6, .int .i64 s7, .int .i64 s8, .int .i64 s9, .int .i64 s10, .int .i64 s11, .map (some mb)]) (.agg #[.int .i64 s0, .int .i64 s1, .int .i64 s2, .int .i64 s3, .int .i64 s4, .int .i64 s5, .int .i64 s6, .int .i64 s7, .int .i64 s8, .int .i64 s9, .int .i64 s10, .int .i64 s11]) (.int .i64 (k : Int)) (.bool true) (.int .i64 (k : Int)) (.int .i64 f) u14 u15 u16 u17 u18 u19 u20 u21 u22 u23 u24 u25 undef b (.pointer (some ⟨S, 12, none⟩)) (.map (some mb)) (.int .i64 f) (.pointer (some ⟨S, 12, none⟩)) (.map (some mb)) (.int .i64 f) v (.int .i64 (k : Int)) (.int .i64 ((k : Int) + 1)) (.slice (some ⟨wr.heap.size, 0, none⟩) 1 1) v').tmps[5]?.getD undef = (.int .i64 f) := rfl
          refine wpOp_step rfl (fun K hK => ?_)
          refine Eq.mpr (if_pos (by rfl)) ?_
          generalize hact : actJ (.agg #[.int .i64 s0, .int .i64 s1, .int .i64 s2, .int .i64 s3, .int .i64 s4, .int .i64 s5, .int .i64 s6, .int .i64 s7, .int .i64 s8, .int .i64 s9, .int .i64 s10, .int .i64 s11]) (.pointer (some ⟨w.heap.size, 0, none⟩)) (.pointer (some ⟨w.heap.size + 1, 0, none⟩)) (.pointer (some ⟨S, 0, none⟩)) (.int .i64 (k : Int)) (.int .i64 f) (.agg #[.int .i64 s0, .int .i64 s1, .int .i64 s2, .int .i64 s3, .int .i64 s4, .int .i64 s5, .int .i64 s6, .int .i64 s7, .int .i64 s8, .int .i64 s9, .int .i64 s10, .int .i64 s11]) (.map (some mb)) (.agg #[.int .i64 s0, .int .i64 s1, .int .i64 s2, .int .i64 s3, .int .i64 s4, .int .i64 s5, .int .i64 s6, .int .i64 s7, .int .i64 s8, .int .i64 s9, .int .i64 s10, .int .i64 s11, .map (some mb)]) (.agg #[.int .i64 s0, .int .i64 s1, .int .i64 s2, .int .i64 s3, .int .i64 s4, .int .i64 s5, .int .i64 s6, .int .i64 s7, .int .i64 s8, .int .i64 s9, .int .i64 s10, .int .i64 s11]) (.int .i64 (k : Int)) (.bool true) (.int .i64 (k : Int)) (.int .i64 f) u14 u15 u16 u17 u18 u19 u20 u21 u22 u23 u24 u25 undef b (.pointer (some ⟨S, 12, none⟩)) (.map (some mb)) (.int .i64 f) (.pointer (some ⟨S, 12, none⟩)) (.map (some mb)) (.int .i64 f) v (.int .i64 (k : Int)) (.int .i64 ((k : Int) + 1)) (.slice (some ⟨wr.heap.size, 0, none⟩) 1 1) v' = act at ev5 ⊢
          clear HR
          go_simp
          refine hK _ _ ?_
          rw [← hact]
          exact ⟨v, v', Lib.hid (HRJ.out.keep (by omega) (by omega) (by omega) (by omega)), actJ_2 ..⟩
        · have HR := HRJ.out
          have ev3 : (actJ (.agg #[.int .i64 s0, .int .i64 s1, .int .i64 s2, .int .i64 s3, .int .i64 s4, .int .i64 s5, .int .i64 s6, .int .i64 s7, .int .i64 s8, .int .i64 s9, .int .i64 s10, .int .i64 s11]) (.pointer (some ⟨w.heap.size, 0, none⟩)) (.pointer (some ⟨w.heap.size + 1, 0, none⟩)) (.pointer (some ⟨S, 0, none⟩)) (.int .i64 (k : Int)) (.int .i64 f) (.agg #[.int .i64 s0, .int .i64 s1, .int .i64 s2, .int .i64 s3, .int .i64 s4, .int .i64 s5, .int .i64 s6, .int .i64 s7, .int .i64 s8, .int .i64 s9, .int .i64 s10, .int .i64 s11]) (.map (some mb)) (.agg #[.int .i64 s0, .int .i64 s1, .int .i64 s2, .int .i64 s3, .int .i64 s4, .int .i64 s5, .int .i64 s6, .int .i64 s7, .int .i64 s8, .int .i64 s9, .int .i64 s10, .int .i64 s11, .map (some mb)]) (.agg #[.int .i64 s0, .int .i64 s1, .int .i64 s2, .int .i64 s3, .int .i64 s4, .int .i64 s5, .int .i64 s6, .int .i64 s7, .int .i64 s8, .int .i64 s9, .int .i64 s10, .int .i64 s11]) (.int .i64 (k : Int)) (.bool true) (.int .i64 (k : Int)) (.int .i64 f) u14 u15 u16 u17 u18 u19 u20 u21 u22 u23 u24 u25 undef b (.pointer (some ⟨S, 12, none⟩)) (.map (some mb)) (.int .i64 f) (.pointer (some ⟨S, 12, none⟩)) (.map (some mb)) (.int .i64 f) v (.int .i64 (k : Int)) (.int .i64 ((k : Int) + 1)) (.slice (some ⟨wr.heap.size, 0, none⟩) 1 1) v').tmps[3]?.getD undef = (.pointer (some ⟨S, 0, none⟩)) := rfl
          refine wpOp_step rfl (fun K hK => ?_)
          refine Eq.mpr (if_pos (by rfl)) ?_
          generalize hact : actJ (.agg #[.int .i64 s0, .int .i64 s1, .int .i64 s2, .int .i64 s3, .int .i64 s4, .int .i64 s5, .int .i64 s6, .int .i64 s7, .int .i64 s8, .int .i64 s9, .int .i64 s10, .int .i64 s11]) (.pointer (some ⟨w.heap.size, 0, none⟩)) (.pointer (some ⟨w.heap.size + 1, 0, none⟩)) (.pointer (some ⟨S, 0, none⟩)) (.int .i64 (k : Int)) (.int .i64 f) (.agg #[.int .i64 s0, .int .i64 s1, .int .i64 s2, .int .i64 s3, .int .i64 s4, .int .i64 s5, .int .i64 s6, .int .i64 s7, .int .i64 s8, .int .i64 s9, .int .i64 s10, .int .i64 s11]) (.map (some mb)) (.agg #[.int .i64 s0, .int .i64 s1, .int .i64 s2, .int .i64 s3, .int .i64 s4, .int .i64 s5, .int .i64 s6, .int .i64 s7, .int .i64 s8, .int .i64 s9, .int .i64 s10, .int .i64 s11, .map (some mb)]) (.agg #[.int .i64 s0, .int .i64 s1, .int .i64 s2, .int .i64 s3, .int .i64 s4, .int .i64 s5, .int .i64 s6, .int .i64 s7, .int .i64 s8, .int .i64 s9, .int .i64 s10, .int .i64 s11]) (.int .i64 (k : Int)) (.bool true) (.int .i64 (k : Int)) (.int .i64 f) u14 u15 u16 u17 u18 u19 u20 u21 u22 u23 u24 u25 undef b (.pointer (some ⟨S, 12, none⟩)) (.map (some mb)) (.int .i64 f) (.pointer (some ⟨S, 12, none⟩)) (.map (some mb)) (.int .i64 f) v (.int .i64 (k : Int)) (.int .i64 ((k : Int) + 1)) (.slice (some ⟨wr.heap.size, 0, none⟩) 1 1) v' = act at ev3 ⊢
          clear HR
          go_simp
          refine hK _ _ ?_
          rw [← hact]
          exact ⟨v, v', Lib.hid (HRJ.out.keep (by omega) (by omega) (by omega) (by omega)), actJ_3 ..⟩
        · have HR := HRJ.out
          have ev17 : (actJ (.agg #[.int .i64 s0, .int .i64 s1, .int .i64 s2, .int .i64 s3, .int .i64 s4, .int .i64 s5, .int .i64 s6, .int .i64 s7, .int .i64 s8, .int .i64 s9, .int .i64 s10, .int .i64 s11]) (.pointer (some ⟨w.heap.size, 0, none⟩)) (.pointer (some ⟨w.heap.size + 1, 0, none⟩)) (.pointer (some ⟨S, 0, none⟩)) (.int .i64 (k : Int)) (.int .i64 f) (.agg #[.int .i64 s0, .int .i64 s1, .int .i64 s2, .int .i64 s3, .int .i64 s4, .int .i64 s5, .int .i64 s6, .int .i64 s7, .int .i64 s8, .int .i64 s9, .int .i64 s10, .int .i64 s11]) (.map (some mb)) (.agg #[.int .i64 s0, .int .i64 s1, .int .i64 s2, .int .i64 s3, .int .i64 s4, .int .i64 s5, .int .i64 s6, .int .i64 s7, .int .i64 s8, .int .i64 s9, .int .i64 s10, .int .i64 s11, .map (some mb)]) (.agg #[.int .i64 s0, .int .i64 s1, .int .i64 s2, .int .i64 s3, .int .i64 s4, .int .i64 s5, .int .i64 s6, .int .i64 s7, .int .i64 s8, .int .i64 s9, .int .i64 s10, .int .i64 s11]) (.int .i64 (k : Int)) (.bool true) (.int .i64 (k : Int)) (.int .i64 f) u14 u15 u16 u17 u18 u19 u20 u21 u22 u23 u24 u25 undef b (.pointer (some ⟨S, 12, none⟩)) (.map (some mb)) (.int .i64 f) (.pointer (some ⟨S, 12, none⟩)) (.map (some mb)) (.int .i64 f) v (.int .i64 (k : Int)) (.int .i64 ((k : Int) + 1)) (.slice (some ⟨wr.heap.size, 0, none⟩) 1 1) v').tmps[17]?.getD undef = (.pointer (some ⟨S, 12, none⟩)) := by
            show (if b.testBit 3 = true then _ else _) = _
            rw [if_pos (hd 3 (by simp [depsJ]))]
          have hc := HR.g.st.cell 12
          rw [show (#[.int .i64 s0, .int .i64 s1, .int .i64 s2, .int .i64 s3, .int .i64 s4, .int .i64 s5, .int .i64 s6, .int .i64 s7, .int .i64 s8, .int .i64 s9, .int .i64 s10, .int .i64 s11, .map (some mb)] : Array Value)[12]? = some (.map (some mb)) from rfl] at hc
          refine wpOp_step rfl (fun K hK => ?_)
          refine Eq.mpr (if_pos (by rfl)) ?_
          generalize hact : actJ (.agg #[.int .i64 s0, .int .i64 s1, .int .i64 s2, .int .i64 s3, .int .i64 s4, .int .i64 s5, .int .i64 s6, .int .i64 s7, .int .i64 s8, .int .i64 s9, .int .i64 s10, .int .i64 s11]) (.pointer (some ⟨w.heap.size, 0, none⟩)) (.pointer (some ⟨w.heap.size + 1, 0, none⟩)) (.pointer (some ⟨S, 0, none⟩)) (.int .i64 (k : Int)) (.int .i64 f) (.agg #[.int .i64 s0, .int .i64 s1, .int .i64 s2, .int .i64 s3, .int .i64 s4, .int .i64 s5, .int .i64 s6, .int .i64 s7, .int .i64 s8, .int .i64 s9, .int .i64 s10, .int .i64 s11]) (.map (some mb)) (.agg #[.int .i64 s0, .int .i64 s1, .int .i64 s2, .int .i64 s3, .int .i64 s4, .int .i64 s5, .int .i64 s6, .int .i64 s7, .int .i64 s8, .int .i64 s9, .int .i64 s10, .int .i64 s11, .map (some mb)]) (.agg #[.int .i64 s0, .int .i64 s1, .int .i64 s2, .int .i64 s3, .int .i64 s4, .int .i64 s5, .int .i64 s6, .int .i64 s7, .int .i64 s8, .int .i64 s9, .int .i64 s10, .int .i64 s11]) (.int .i64 (k : Int)) (.bool true) (.int .i64 (k : Int)) (.int .i64 f) u14 u15 u16 u17 u18 u19 u20 u21 u22 u23 u24 u25 undef b (.pointer (some ⟨S, 12, none⟩)) (.map (some mb)) (.int .i64 f) (.pointer (some ⟨S, 12, none⟩)) (.map (some mb)) (.int .i64 f) v (.int .i64 (k : Int)) (.int .i64 ((k : Int) + 1)) (.slice (some ⟨wr.heap.size, 0, none⟩) 1 1) v' = act at ev17 ⊢
          clear HR
          go_simp
          refine hK _ _ ?_
          rw [← hact]
          exact ⟨v, v', Lib.hid (HRJ.out.keep (by omega) (by omega) (by omega) (by omega)), actJ_4 ..⟩
        · have HR := HRJ.out
          have ev5 : (actJ (.agg #[.int .i64 s0, .int .i64 s1, .int .i64 s2, .int .i64 s3, .int .i64 s4, .int .i64 s5, .int .i64 s6, .int .i64 s7, .int .i64 s8, .int .i64 s9, .int .i64 s10, .int .i64 s11]) (.pointer (some ⟨w.heap.size, 0, none⟩)) (.pointer (some ⟨w.heap.size + 1, 0, none⟩)) (.pointer (some ⟨S, 0, none⟩)) (.int .i64 (k : Int)) (.int .i64 f) (.agg #[.int .i64 s0, .int .i64 s1, .int .i64 s2, .int .i64 s3, .int .i64 s4, .int .i64 s5, .int .i64 s6, .int .i64 s7, .int .i64 s8, .int .i64 s9, .int .i64 s10, .int .i64 s11]) (.map (some mb)) (.agg #[.int .i64 s0, .int .i64 s1, .int .i64 s2, .int .i64 s3, .int .i64 s4, .int .i64 s5, .int .i64 s6, .int .i64 s7, .int .i64 s8, .int .i64 s9, .int .i64 s10, .int .i64 s11, .map (some mb)]) (.agg #[.int .i64 s0, .int .i64 s1, .int .i64 s2, .int .i64 s3, .int .i64 s4, .int .i64 s5, .int .i64 s6, .int .i64 s7, .int .i64 s8, .int .i64 s9, .int .i64 s10, .int .i64 s11]) (.int .i64 (k : Int)) (.bool true) (.int .i64 (k : Int)) (.int .i64 f) u14 u15 u16 u17 u18 u19 u20 u21 u22 u23 u24 u25 undef b (.pointer (some ⟨S, 12, none⟩)) (.map (some mb)) (.int .i64 f) (.pointer (some ⟨S, 12, none⟩)) (.map (some mb)) (.int .i64 f) v (.int .i64 (k : Int)) (.int .i64 ((k : Int) + 1)) (.slice (some ⟨wr.heap.size, 0, none⟩) 1 1) v').tmps[5]?.getD undef = (.int .i64 f) := rfl
          refine wpOp_step rfl (fun K hK => ?_)
          refine Eq.mpr (if_pos (by rfl)) ?_
          generalize hact : actJ (.agg #[.int .i64 s0, .int .i64 s1, .int .i64 s2, .int .i64 s3, .int .i64 s4, .int .i64 s5, .int .i64 s6, .int .i64 s7, .int .i64 s8, .int .i64 s9, .int .i64 s10, .int .i64 s11]) (.pointer (some ⟨w.heap.size, 0, none⟩)) (.pointer (some ⟨w.heap.size + 1, 0, none⟩)) (.pointer (some ⟨S, 0, none⟩)) (.int .i64 (k : Int)) (.int .i64 f) (.agg #[.int .i64 s0, .int .i64 s1, .int .i64 s2, .int .i64 s3, .int .i64 s4, .int .i64 s5, .int .i64 s6, .int .i64 s7, .int .i64 s8, .int .i64 s9, .int .i64 s10, .int .i64 s11]) (.map (some mb)) (.agg #[.int .i64 s0, .int .i64 s1, .int .i64 s2, .int .i64 s3, .int .i64 s4, .int .i64 s5, .int .i64 s6, .int .i64 s7, .int .i64 s8, .int .i64 s9, .int .i64 s10, .int .i64 s11, .map (some mb)]) (.agg #[.int .i64 s0, .int .i64 s1, .int .i64 s2, .int .i64 s3, .int .i64 s4, .int .i64 s5, .int .i64 s6, .int .i64 s7, .int .i64 s8, .int .i64 s9, .int .i64 s10, .int .i64 s11]) (.int .i64 (k : Int)) (.bool true) (.int .i64 (k : Int)) (.int .i64 f) u14 u15 u16 u17 u18 u19 u20 u21 u22 u23 u24 u25 undef b (.pointer (some ⟨S, 12, none⟩)) (.map (some mb)) (.int .i64 f) (.pointer (some ⟨S, 12, none⟩)) (.map (some mb)) (.int .i64 f) v (.int .i64 (k : Int)) (.int .i64 ((k : Int) + 1)) (.slice (some ⟨wr.heap.size, 0, none⟩) 1 1) v' = act at ev5 ⊢
          clear HR
          go_simp
          refine hK _ _ ?_
          rw [← hact]
          exact ⟨v, v', Lib.hid (HRJ.out.keep (by omega) (by omega) (by omega) (by omega)), actJ_5 ..⟩
        · have HR := HRJ.out
          have h10 : b.testBit 10 = false := by
            cases h : b.testBit 10
            · rfl
            · rw [(HR.dep h).2] at hb; cases hb
          have h11 : b.testBit 11 = false := by
            cases h : b.testBit 11
            · rfl
            · rw [HR.dep2 h] at h10; cases h10
          have hV := HR.early h10
          have e : ∀ x, x ≠ 6 → (b ||| 2 ^ 6).testBit x = b.testBit x := fun x hx => by rw [tbJ]; simp [Ne.symm hx]
          have HOG1 : V1.ownsGroups Tryd.prog 22 base 3 .i64 mb k D := by
            rw [hV]
            split
            · exact groups_alloc HOG.out _
            · exact HOG.out
          refine wpOp_step rfl (fun K hK => ?_)
          refine Eq.mpr (if_pos (by rfl)) ?_
          refine oper_lookup_groups (.tmp 18) (.tmp 19) 82 rfl 22 25 3 .i64 keyedF Tryd.underlying82 (zeroSI _) base mb k D (by show (if b.testBit 4 = true then _ else _) = _; rw [if_pos (hd 4 (by simp [depsJ]))]) HOG1 (by unfold maxLen; omega) (.int .i64 f) (.int .i64 f) (by show (if b.testBit 5 = true then _ else _) = _; rw [if_pos (hd 5 (by simp [depsJ]))]) HKEY.out ?_
          intro v2 zs hat hoi hzl hback
          refine hK _ _ ?_
          refine ⟨v2, v', Lib.hid ⟨HR.g, fun h => by rw [e 9 (by omega)]; exact hV, fun h => (by rw [e 10 (by omega), h10] at h; cases h), fun h => (by rw [e 11 (by omega), h11] at h; cases h), fun _ => ⟨zs, ?_, fun h => (by rw [e 10 (by omega), h10] at h; cases h), fun h => (by rw [e 11 (by omega), h11] at h; cases h)⟩⟩, ?_⟩
          · have hl : Look Tryd.prog 82 22 base 3 .i64 mb k D (.int .i64 f) (.int .i64 f) V1 v2 zs := ⟨hat, hoi, hzl, hback⟩
            rw [hV] at hl
            split at hl
            · exact hl
            · exact hl.alloc _
          · rw [actJ_any6 (h := hb) (y := v2)]
            exact actJ_6 ..
        · have HR := HRJ.out
          have ev4 : (actJ (.agg #[.int .i64 s0, .int .i64 s1, .int .i64 s2, .int .i64 s3, .int .i64 s4, .int .i64 s5, .int .i64 s6, .int .i64 s7, .int .i64 s8, .int .i64 s9, .int .i64 s10, .int .i64 s11]) (.pointer (some ⟨w.heap.size, 0, none⟩)) (.pointer (some ⟨w.heap.size + 1, 0, none⟩)) (.pointer (some ⟨S, 0, none⟩)) (.int .i64 (k : Int)) (.int .i64 f) (.agg #[.int .i64 s0, .int .i64 s1, .int .i64 s2, .int .i64 s3, .int .i64 s4, .int .i64 s5, .int .i64 s6, .int .i64 s7, .int .i64 s8, .int .i64 s9, .int .i64 s10, .int .i64 s11]) (.map (some mb)) (.agg #[.int .i64 s0, .int .i64 s1, .int .i64 s2, .int .i64 s3, .int .i64 s4, .int .i64 s5, .int .i64 s6, .int .i64 s7, .int .i64 s8, .int .i64 s9, .int .i64 s10, .int .i64 s11, .map (some mb)]) (.agg #[.int .i64 s0, .int .i64 s1, .int .i64 s2, .int .i64 s3, .int .i64 s4, .int .i64 s5, .int .i64 s6, .int .i64 s7, .int .i64 s8, .int .i64 s9, .int .i64 s10, .int .i64 s11]) (.int .i64 (k : Int)) (.bool true) (.int .i64 (k : Int)) (.int .i64 f) u14 u15 u16 u17 u18 u19 u20 u21 u22 u23 u24 u25 undef b (.pointer (some ⟨S, 12, none⟩)) (.map (some mb)) (.int .i64 f) (.pointer (some ⟨S, 12, none⟩)) (.map (some mb)) (.int .i64 f) v (.int .i64 (k : Int)) (.int .i64 ((k : Int) + 1)) (.slice (some ⟨wr.heap.size, 0, none⟩) 1 1) v').tmps[4]?.getD undef = (.int .i64 (k : Int)) := rfl
          refine wpOp_step rfl (fun K hK => ?_)
          refine Eq.mpr (if_pos (by rfl)) ?_
          generalize hact : actJ (.agg #[.int .i64 s0, .int .i64 s1, .int .i64 s2, .int .i64 s3, .int .i64 s4, .int .i64 s5, .int .i64 s6, .int .i64 s7, .int .i64 s8, .int .i64 s9, .int .i64 s10, .int .i64 s11]) (.pointer (some ⟨w.heap.size, 0, none⟩)) (.pointer (some ⟨w.heap.size + 1, 0, none⟩)) (.pointer (some ⟨S, 0, none⟩)) (.int .i64 (k : Int)) (.int .i64 f) (.agg #[.int .i64 s0, .int .i64 s1, .int .i64 s2, .int .i64 s3, .int .i64 s4, .int .i64 s5, .int .i64 s6, .int .i64 s7, .int .i64 s8, .int .i64 s9, .int .i64 s10, .int .i64 s11]) (.map (some mb)) (.agg #[.int .i64 s0, .int .i64 s1, .int .i64 s2, .int .i64 s3, .int .i64 s4, .int .i64 s5, .int .i64 s6, .int .i64 s7, .int .i64 s8, .int .i64 s9, .int .i64 s10, .int .i64 s11, .map (some mb)]) (.agg #[.int .i64 s0, .int .i64 s1, .int .i64 s2, .int .i64 s3, .int .i64 s4, .int .i64 s5, .int .i64 s6, .int .i64 s7, .int .i64 s8, .int .i64 s9, .int .i64 s10, .int .i64 s11]) (.int .i64 (k : Int)) (.bool true) (.int .i64 (k : Int)) (.int .i64 f) u14 u15 u16 u17 u18 u19 u20 u21 u22 u23 u24 u25 undef b (.pointer (some ⟨S, 12, none⟩)) (.map (some mb)) (.int .i64 f) (.pointer (some ⟨S, 12, none⟩)) (.map (some mb)) (.int .i64 f) v (.int .i64 (k : Int)) (.int .i64 ((k : Int) + 1)) (.slice (some ⟨wr.heap.size, 0, none⟩) 1 1) v' = act at ev4 ⊢
          clear HR
          go_simp
          refine hK _ _ ?_
          rw [← hact]
          exact ⟨v, v', Lib.hid (HRJ.out.keep (by omega) (by omega) (by omega) (by omega)), actJ_7 ..⟩
        · have HR := HRJ.out
          have ev21 : (actJ (.agg #[.int .i64 s0, .int .i64 s1, .int .i64 s2, .int .i64 s3, .int .i64 s4, .int .i64 s5, .int .i64 s6, .int .i64 s7, .int .i64 s8, .int .i64 s9, .int .i64 s10, .int .i64 s11]) (.pointer (some ⟨w.heap.size, 0, none⟩)) (.pointer (some ⟨w.heap.size + 1, 0, none⟩)) (.pointer (some ⟨S, 0, none⟩)) (.int .i64 (k : Int)) (.int .i64 f) (.agg #[.int .i64 s0, .int .i64 s1, .int .i64 s2, .int .i64 s3, .int .i64 s4, .int .i64 s5, .int .i64 s6, .int .i64 s7, .int .i64 s8, .int .i64 s9, .int .i64 s10, .int .i64 s11]) (.map (some mb)) (.agg #[.int .i64 s0, .int .i64 s1, .int .i64 s2, .int .i64 s3, .int .i64 s4, .int .i64 s5, .int .i64 s6, .int .i64 s7, .int .i64 s8, .int .i64 s9, .int .i64 s10, .int .i64 s11, .map (some mb)]) (.agg #[.int .i64 s0, .int .i64 s1, .int .i64 s2, .int .i64 s3, .int .i64 s4, .int .i64 s5, .int .i64 s6, .int .i64 s7, .int .i64 s8, .int .i64 s9, .int .i64 s10, .int .i64 s11]) (.int .i64 (k : Int)) (.bool true) (.int .i64 (k : Int)) (.int .i64 f) u14 u15 u16 u17 u18 u19 u20 u21 u22 u23 u24 u25 undef b (.pointer (some ⟨S, 12, none⟩)) (.map (some mb)) (.int .i64 f) (.pointer (some ⟨S, 12, none⟩)) (.map (some mb)) (.int .i64 f) v (.int .i64 (k : Int)) (.int .i64 ((k : Int) + 1)) (.slice (some ⟨wr.heap.size, 0, none⟩) 1 1) v').tmps[21]?.getD undef = (.int .i64 (k : Int)) := by
            show (if b.testBit 7 = true then _ else _) = _
            rw [if_pos (hd 7 (by simp [depsJ]))]
          refine wpOp_step rfl (fun K hK => ?_)
          refine Eq.mpr (if_pos (by rfl)) ?_
          generalize hact : actJ (.agg #[.int .i64 s0, .int .i64 s1, .int .i64 s2, .int .i64 s3, .int .i64 s4, .int .i64 s5, .int .i64 s6, .int .i64 s7, .int .i64 s8, .int .i64 s9, .int .i64 s10, .int .i64 s11]) (.pointer (some ⟨w.heap.size, 0, none⟩)) (.pointer (some ⟨w.heap.size + 1, 0, none⟩)) (.pointer (some ⟨S, 0, none⟩)) (.int .i64 (k : Int)) (.int .i64 f) (.agg #[.int .i64 s0, .int .i64 s1, .int .i64 s2, .int .i64 s3, .int .i64 s4, .int .i64 s5, .int .i64 s6, .int .i64 s7, .int .i64 s8, .int .i64 s9, .int .i64 s10, .int .i64 s11]) (.map (some mb)) (.agg #[.int .i64 s0, .int .i64 s1, .int .i64 s2, .int .i64 s3, .int .i64 s4, .int .i64 s5, .int .i64 s6, .int .i64 s7, .int .i64 s8, .int .i64 s9, .int .i64 s10, .int .i64 s11, .map (some mb)]) (.agg #[.int .i64 s0, .int .i64 s1, .int .i64 s2, .int .i64 s3, .int .i64 s4, .int .i64 s5, .int .i64 s6, .int .i64 s7, .int .i64 s8, .int .i64 s9, .int .i64 s10, .int .i64 s11]) (.int .i64 (k : Int)) (.bool true) (.int .i64 (k : Int)) (.int .i64 f) u14 u15 u16 u17 u18 u19 u20 u21 u22 u23 u24 u25 undef b (.pointer (some ⟨S, 12, none⟩)) (.map (some mb)) (.int .i64 f) (.pointer (some ⟨S, 12, none⟩)) (.map (some mb)) (.int .i64 f) v (.int .i64 (k : Int)) (.int .i64 ((k : Int) + 1)) (.slice (some ⟨wr.heap.size, 0, none⟩) 1 1) v' = act at ev21 ⊢
          clear HR
          go_simp
          try rw [e8]
          refine hK _ _ ?_
          rw [← hact]
          exact ⟨v, v', Lib.hid (HRJ.out.keep (by omega) (by omega) (by omega) (by omega)), actJ_8 ..⟩
        · have HR := HRJ.out
          have h10 : b.testBit 10 = false := by
            cases h : b.testBit 10
            · rfl
            · rw [(HR.dep h).1] at hb; cases hb
          have h11 : b.testBit 11 = false := by
            cases h : b.testBit 11
            · rfl
            · rw [HR.dep2 h] at h10; cases h10
          have hV := HR.early h10
          rw [if_neg (by rw [hb]; simp)] at hV
          have e : ∀ x, x ≠ 9 → (b ||| 2 ^ 9).testBit x = b.testBit x := fun x hx => by rw [tbJ]; simp [Ne.symm hx]
          have HNEW : Hid (RJ w wr base mb S (w.heap.size + 1) #[.int .i64 s0, .int .i64 s1, .int .i64 s2, .int .i64 s3, .int .i64 s4, .int .i64 s5, .int .i64 s6, .int .i64 s7, .int .i64 s8, .int .i64 s9, .int .i64 s10, .int .i64 s11, .map (some mb)] #[.int .i64 0, .int .i64 0, .int .i64 0, .int .i64 0, .int .i64 0, .int .i64 0, .int .i64 0, .int .i64 0, .int .i64 0, .int .i64 0, .int .i64 0, .int .i64 0, .map none] f k D (b ||| 2 ^ 9) v v' (V1.alloc (.cells #[.int .i64 ((k : Int) + 1)] 3))) := by
            refine ⟨HR.g.grown (World.grownBy_alloc V1 _ none) (by have := HSZ.out; omega) (by have := HSZ.out; omega) (by have := HSZ.out; omega) (by have := HSZ.out; omega) (by have := HSZ.out; omega) (by have := HSZ.out; omega) (fun r e => by cases e), ?_, ?_, ?_, ?_⟩
            · intro _
              rw [tbJ, hV]
              simp
            · intro h
              rw [e 10 (by omega), h10] at h
              cases h
            · intro h
              rw [e 11 (by omega), h11] at h
              cases h
            · intro h
              rw [e 6 (by omega)] at h
              obtain ⟨zs, h1, h2, h3⟩ := HR.look h
              refine ⟨zs, h1, fun h => ?_, fun h => ?_⟩
              · rw [e 10 (by omega), h10] at h
                cases h
              · rw [e 11 (by omega), h11] at h
                cases h
          have hsz : V1.heap.size = wr.heap.size := by rw [hV]; rfl
          have ev22 : (actJ (.agg #[.int .i64 s0, .int .i64 s1, .int .i64 s2, .int .i64 s3, .int .i64 s4, .int .i64 s5, .int .i64 s6, .int .i64 s7, .int .i64 s8, .int .i64 s9, .int .i64 s10, .int .i64 s11]) (.pointer (some ⟨w.heap.size, 0, none⟩)) (.pointer (some ⟨w.heap.size + 1, 0, none⟩)) (.pointer (some ⟨S, 0, none⟩)) (.int .i64 (k : Int)) (.int .i64 f) (.agg #[.int .i64 s0, .int .i64 s1, .int .i64 s2, .int .i64 s3, .int .i64 s4, .int .i64 s5, .int .i64 s6, .int .i64 s7, .int .i64 s8, .int .i64 s9, .int .i64 s10, .int .i64 s11]) (.map (some mb)) (.agg #[.int .i64 s0, .int .i64 s1, .int .i64 s2, .int .i64 s3, .int .i64 s4, .int .i64 s5, .int .i64 s6, .int .i64 s7, .int .i64 s8, .int .i64 s9, .int .i64 s10, .int .i64 s11, .map (some mb)]) (.agg #[.int .i64 s0, .int .i64 s1, .int .i64 s2, .int .i64 s3, .int .i64 s4, .int .i64 s5, .int .i64 s6, .int .i64 s7, .int .i64 s8, .int .i64 s9, .int .i64 s10, .int .i64 s11]) (.int .i64 (k : Int)) (.bool true) (.int .i64 (k : Int)) (.int .i64 f) u14 u15 u16 u17 u18 u19 u20 u21 u22 u23 u24 u25 undef b (.pointer (some ⟨S, 12, none⟩)) (.map (some mb)) (.int .i64 f) (.pointer (some ⟨S, 12, none⟩)) (.map (some mb)) (.int .i64 f) v (.int .i64 (k : Int)) (.int .i64 ((k : Int) + 1)) (.slice (some ⟨wr.heap.size, 0, none⟩) 1 1) v').tmps[22]?.getD undef = .int .i64 ((k : Int) + 1) := by
            show (if b.testBit 8 = true then _ else _) = _
            rw [if_pos (hd 8 (by simp [depsJ]))]
          refine wpOp_step rfl (fun K hK => ?_)
          refine Eq.mpr (if_pos (by rfl)) ?_
          generalize hact : actJ (.agg #[.int .i64 s0, .int .i64 s1, .int .i64 s2, .int .i64 s3, .int .i64 s4, .int .i64 s5, .int .i64 s6, .int .i64 s7, .int .i64 s8, .int .i64 s9, .int .i64 s10, .int .i64 s11]) (.pointer (some ⟨w.heap.size, 0, none⟩)) (.pointer (some ⟨w.heap.size + 1, 0, none⟩)) (.pointer (some ⟨S, 0, none⟩)) (.int .i64 (k : Int)) (.int .i64 f) (.agg #[.int .i64 s0, .int .i64 s1, .int .i64 s2, .int .i64 s3, .int .i64 s4, .int .i64 s5, .int .i64 s6, .int .i64 s7, .int .i64 s8, .int .i64 s9, .int .i64 s10, .int .i64 s11]) (.map (some mb)) (.agg #[.int .i64 s0, .int .i64 s1, .int .i64 s2, .int .i64 s3, .int .i64 s4, .int .i64 s5, .int .i64 s6, .int .i64 s7, .int .i64 s8, .int .i64 s9, .int .i64 s10, .int .i64 s11, .map (some mb)]) (.agg #[.int .i64 s0, .int .i64 s1, .int .i64 s2, .int .i64 s3, .int .i64 s4, .int .i64 s5, .int .i64 s6, .int .i64 s7, .int .i64 s8, .int .i64 s9, .int .i64 s10, .int .i64 s11]) (.int .i64 (k : Int)) (.bool true) (.int .i64 (k : Int)) (.int .i64 f) u14 u15 u16 u17 u18 u19 u20 u21 u22 u23 u24 u25 undef b (.pointer (some ⟨S, 12, none⟩)) (.map (some mb)) (.int .i64 f) (.pointer (some ⟨S, 12, none⟩)) (.map (some mb)) (.int .i64 f) v (.int .i64 (k : Int)) (.int .i64 ((k : Int) + 1)) (.slice (some ⟨wr.heap.size, 0, none⟩) 1 1) v' = act at ev22 ⊢
          clear HR hV
          go_simp
          refine hK _ _ ?_
          rw [← hact]
          exact ⟨v, v', HNEW, actJ_9 ..⟩
        · have HR := HRJ.out
          have h10 := hb
          have h11 : b.testBit 11 = false := by
            cases h : b.testBit 11
            · rfl
            · rw [HR.dep2 h] at h10; cases h10
          have h6 := hd 6 (by simp [depsJ])
          have h9 := hd 9 (by simp [depsJ])
          have hV := HR.early h10
          rw [if_pos h9] at hV
          have e : ∀ x, x ≠ 10 → (b ||| 2 ^ 10).testBit x = b.testBit x := fun x hx => by rw [tbJ]; simp [Ne.symm hx]
          obtain ⟨zs, hl, _, _⟩ := HR.look h6
          obtain ⟨i0, hi0, hz0, hz1, hz2⟩ := info_parts info_int1
          refine wpOp_step rfl (fun K hK => ?_)
          refine Eq.mpr (if_pos (by rfl)) ?_
          refine oper_append_own_at (.tmp 20) (.tmp 23) 25 rfl base 3 i0 (.int .i64 0) 1 8 Tryd.underlying25 hi0 hz0 hz1 hz2 rfl (by decide) v zs.length (zs.map (Value.int .i64)) (by show (if b.testBit 6 = true then _ else _) = _; rw [if_pos h6]) (by rw [hV]; exact hl.2.1.1) ⟨wr.heap.size, 0, none⟩ 1 1 [.int .i64 ((k : Int) + 1)] (by show (if b.testBit 9 = true then _ else _) = _; rw [if_pos h9]) rfl (by rw [hV]; exact cell_one_new wr.drew _ _) (ints_oneCell .i64 [(k : Int) + 1]) (by have := hl.2.2.1; unfold maxLen; omega) (by have := hl.2.2.1; omega) HR.g.sz ?_
          intro v2 w2 hown2 hgr2 _ hloc2
          refine hK _ _ ?_
          refine ⟨v, v2, Lib.hid ⟨?_, fun h => (by rw [tbJ] at h; simp at h), fun _ => by rw [e 9 (by omega), e 6 (by omega)]; exact ⟨h9, h6⟩, fun h => (by rw [e 11 (by omega), h11] at h; cases h), fun _ => ⟨zs, hl, fun _ _ => ⟨?_, ?_, ?_⟩, fun h => (by rw [e 11 (by omega), h11] at h; cases h)⟩⟩, ?_⟩
          · refine HR.g.grown hgr2 (by have := HSZ.out; omega) (by have := HSZ.out; omega) (by have := HSZ.out; omega) (by have := HSZ.out; omega) (by have := HSZ.out; omega) (by have := HSZ.out; omega) (fun r er => .inl (hl.2.1.1.lt r er).1)
          · rw [← hV]; exact hgr2
          · exact hl.2.1.appended hown2 (by simp [Lit.wf, IntKind.min, IntKind.max, IntKind.signed, IntKind.bits]; omega)
          · rw [← hV]
            rcases hloc2 with h | h
            · exact .inl h
            · exact .inr ⟨_, h, Nat.le_refl _⟩
          · rw [actJ_any10 (h := hb) (y := v2)]
            exact actJ_10 ..
        · have HR := HRJ.out
          have h10 := hd 10 (by simp [depsJ])
          have h1 := hd 1 (by simp [depsJ])
          have h2 := hd 2 (by simp [depsJ])
          obtain ⟨h9, h6⟩ := HR.dep h10
          have e : ∀ x, x ≠ 11 → (b ||| 2 ^ 11).testBit x = b.testBit x := fun x hx => by rw [tbJ]; simp [Ne.symm hx]
          obtain ⟨zs, hl, hB, _⟩ := HR.look h6
          obtain ⟨hg, ho, hloc⟩ := hB h10 hb
          refine wpOp_step rfl (fun K hK => ?_)
          refine Eq.mpr (if_pos (by rfl)) ?_
          refine oper_mapUpdate_back (.tmp 15) (.tmp 16) (.tmp 24) 82 rfl hl.2.2.2 (by show (if b.testBit 1 = true then _ else _) = _; rw [if_pos h1]) (by show (if b.testBit 2 = true then _ else _) = _; rw [if_pos h2]) (by show (if b.testBit 10 = true then _ else _) = _; rw [if_pos h10]) hg ho (by have := hl.2.2.1; simp; omega) hloc ?_
          intro w2 hown2 hgr2
          refine hK _ _ ?_
          refine ⟨v, v', Lib.hid ⟨?_, fun h => (by rw [e 10 (by omega), h10] at h; cases h), fun _ => by rw [e 9 (by omega), e 6 (by omega)]; exact ⟨h9, h6⟩, fun _ => by rw [e 10 (by omega)]; exact h10, fun _ => ⟨zs, hl, fun _ h => (by rw [tbJ] at h; simp at h), fun _ => ⟨hown2, _, ho⟩⟩⟩, actJ_11 ..⟩
          refine HR.g.grown hgr2 (by have := HSZ.out; omega) (by have := HSZ.out; omega) (by have := HSZ.out; omega) (by have := HSZ.out; omega) (by have := HSZ.out; omega) (by have := HSZ.out; omega) (fun r er => .inr (by cases er; rfl))
    · obtain rfl : k = 12 := by omega
      have hd : decide (((12 : Nat) : Int) < 12) = false := by decide
      have HI13 := Lib.hid (show (Tryd.prog.info? 84).map (·.size) = some (#[.int .i64 s0, .int .i64 s1, .int .i64 s2, .int .i64 s3, .int .i64 s4, .int .i64 s5, .int .i64 s6, .int .i64 s7, .int .i64 s8, .int .i64 s9, .int .i64 s10, .int .i64 s11, .map (some mb)] : Array Value).size from info_circle)
      have HRS := HG.out.rs
      have HST := HG.out.st
      go_wp2_with (first
        | (refine wpList_load_row rfl 84 (.tmp 3) rfl S rfl 84 #[.int .i64 s0, .int .i64 s1, .int .i64 s2, .int .i64 s3, .int .i64 s4, .int .i64 s5, .int .i64 s6, .int .i64 s7, .int .i64 s8, .int .i64 s9, .int .i64 s10, .int .i64 s11, .map (some mb)] (0, 0) _ HST Tryd.underlying84 rfl HI13.out ?_)
        | (refine wpList_store_row rfl 84 (.tmp 2) (.tmp 26) rfl (w.heap.size + 1) #[.int .i64 s0, .int .i64 s1, .int .i64 s2, .int .i64 s3, .int .i64 s4, .int .i64 s5, .int .i64 s6, .int .i64 s7, .int .i64 s8, .int .i64 s9, .int .i64 s10, .int .i64 s11, .map (some mb)] rfl rfl 84 _ HRS HI13.out rfl (by simp [Value.oneCell']) ?_) | fail)
      exact bodyPost_ret (v := .agg #[.int .i64 s0, .int .i64 s1, .int .i64 s2, .int .i64 s3, .int .i64 s4, .int .i64 s5, .int .i64 s6, .int .i64 s7, .int .i64 s8, .int .i64 s9, .int .i64 s10, .int .i64 s11, .map (some mb)]) (results_cell_row Tryd.results45 _ _ (w.heap.size + 1) 84 _ (0, 0) _ rfl (HRS.row _) Tryd.underlying84 rfl HI13.out) rfl ⟨base, mb, D, rfl, by have := HSZ.out; omega, groups_kept HOG.out (row := some (w.heap.size + 1)) ⟨rfl, rfl, rfl, by simp [World.setRow], fun j hj hne => setRow_other wr (w.heap.size + 1) j _ (fun e => hne (by rw [e]))⟩ (fun r e => by cases e; have := HSZ.out; omega), HAT.out, below_setRow HG.out.bl (by omega) _⟩
end Go.Proofs.YtdnccdobnhbpeaaDoor
