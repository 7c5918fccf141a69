/-
  The circle of houses: the region that joins, whose order is drawn.
-/
import Derived.Test.YtdnccdobnhbpeaaDoorHoB
import Derived.Test.YtdnccdobnhbpeaaDoorReg
import Derived.Maps.OwnRows
import Derived.Maps.OwnOps
import Derived.Maps.AppendAt
import Derived.Maps.Views
import Derived.RegionTactic
import Derived.OwnWalk
namespace Go.Proofs.YtdnccdobnhbpeaaDoor
open Go Go.RowKit Go.Maps
set_option linter.unusedVariables false

theorem tbJ (b i x : Nat) : (b ||| 2 ^ i).testBit x = (b.testBit x || decide (i = x)) := by rw [Nat.testBit_or, Nat.testBit_two_pow]
section
variable {H : Type} {P : Program} {o : Oper} {a : Act} {w : World} {K : Act → World → Prop} {Q : Exit → Act → World → Prop}
theorem oper_lookup_groups (m x : Operand) (t : TypeId) (hop : o.op = Op.lookup t m x false)
    (k E e : TypeId) (q : IntKind) (KK : Keyed P k) (ht : P.underlying t = some (.map k E)) (hz : (zeroValue E).run P w = .ok (.slice none 0 0) w) (base b n : Nat) (D : DataW H)
    (hm : a.eval m = .map (some b)) (hown : w.ownsGroups P k base e q b n D) (hn : n < maxLen) (key : Value) (kl : Lit) (hx : a.eval x = key) (hkey : keyOf P k key = some kl)
    (hK : ∀ v zs, D.atKey kl .nil = rowDatum q v zs → w.ownsInts base e q v zs → zs.length ≤ n → w.groupBack P t k base e q b n D key kl v → K (a.put o.dst v) w) : Oper.wp P o a w K Q := by
  obtain ⟨v, zs, hrun, hat, hoi, hzl, hback⟩ := hown.at KK ht hz hn hkey
  unfold Oper.wp
  simp [execOp, hop, hm, hx, hrun, Result.andThen]
  exact hK v zs hat hoi hzl hback
theorem oper_mapUpdate_back (m x v : Operand) (t : TypeId) (hop : o.op = Op.mapUpdate t m x v)
    {w0 : World} {k : TypeId} {base : Nat} {e : TypeId} {q : IntKind} {b n : Nat} {D : DataW H} {key : Value} {kl : Lit} {u v' : Value} {zs' : List Int}
    (hback : w0.groupBack P t k base e q b n D key kl u) (hm : a.eval m = .map (some b)) (hx : a.eval x = key) (hv : a.eval v = v')
    (hgr : w0.grownBy w u.ownBlock) (hown' : w.ownsInts base e q v' zs') (hl' : zs'.length ≤ n + 1) (hloc : v'.ownBlock = u.ownBlock ∨ ∃ g, v'.ownBlock = some g ∧ w0.heap.size ≤ g)
    (hK : ∀ w2, w2.ownsGroups P k base e q b (n + 1) (D.put kl (rowDatum q v' zs')) → w.grownBy w2 (some b) → K (a.put o.dst undef) w2) : Oper.wp P o a w K Q := by
  obtain ⟨w2, hrun, r1, r2⟩ := hback w v' zs' hgr hown' hl' hloc
  unfold Oper.wp
  simp [execOp, hop, hm, hx, hv, hrun, Result.andThen]
  exact hK w2 r1 r2
theorem oper_append_own_at (s x : Operand) (t : TypeId)
    (ho : o.op = .call { callee := .builtin .append, args := #[s, x], argTypes := #[t, t] })
    (base : Nat) (e : TypeId) (i : TypeInfo) (z : Value) (size bytes : Nat) (ht : P.underlying t = some (.slice e)) (hi : P.info? e = some i) (hz : i.zero = some z)
    (hsize : i.size = size) (hby : i.bytes = bytes) (hzs : z.cells.size = size) (hsz : 0 < size)
    (v : Value) (n : Nat) (xs : List Value) (hs : a.eval s = v) (hown : w.ownsRow base e size v n xs)
    (ad : Addr) (m c : Nat) (news : List Value) (hx : a.eval x = .slice (some ad) m c) (hl : news.length = m * size) (hnews : ∀ j u, news[j]? = some u → w.cell? (ad.add j) = some u) (h1 : ∀ u ∈ news, u.oneCell' = true)
    (h63 : n + m ≤ maxLen) (hbytes : (n + m) * bytes ≤ 140737488355328) (hbase : base ≤ w.heap.size)
    (h : ∀ v' w', w'.ownsRow base e size v' (n + m) (xs ++ news) → w.grownBy w' v.ownBlock → (v' = .slice none 0 0 ↔ v = .slice none 0 0 ∧ m = 0) → (v'.ownBlock = v.ownBlock ∨ v'.ownBlock = some w.heap.size) → K (a.put o.dst v') w') : Oper.wp P o a w K Q := by
  obtain ⟨v', w', hr, h2, h3, h4, h5⟩ := run_append_own_at (P := P) w base t o.type e i z size bytes ht hi hz hsize hby hzs hsz v n xs hown ad m c news hl hnews h1 h63 hbytes hbase
  unfold Oper.wp execOp
  simp only [ho, resolve, invoke, builtin, Sem.run_bind, Sem.run_pure, Result.andThen_ok, List.map_toArray, List.map_cons, List.map_nil, hs, hx, hr]
  exact h v' w' h2 h3 h4 h5
/-- What a look-up hands over. -/
def Look (P : Program) (t k : TypeId) (base : Nat) (e : TypeId) (q : IntKind) (b n : Nat) (D : DataW H) (key : Value) (kl : Lit) (w : World) (v : Value) (zs : List Int) : Prop :=
  D.atKey kl .nil = rowDatum q v zs ∧ w.ownsInts base e q v zs ∧ zs.length ≤ n ∧ w.groupBack P t k base e q b n D key kl v
theorem Look.alloc {t k : TypeId} {base : Nat} {e : TypeId} {q : IntKind} {b n : Nat} {D : DataW H} {key : Value} {kl : Lit} {v : Value} {zs : List Int} (h : Look P t k base e q b n D key kl w v zs) (ob : Obj) :
    Look P t k base e q b n D key kl (w.alloc ob) v zs := by
  obtain ⟨h1, h2, h3, h4⟩ := h
  refine ⟨h1, ⟨h2.1.alloc _, h2.2⟩, h3, fun w1 v' zs' hg ho hl hloc => ?_⟩
  exact h4 w1 v' zs' ((World.grownBy_alloc w ob _).trans hg) ho hl (hloc.imp id fun ⟨g, e1, e2⟩ => ⟨g, e1, by simp at e2; omega⟩)
end
def depsJ (i : Nat) : List Nat := [[], [0], [], [], [3], [], [4, 5], [], [7], [8], [6, 9], [1, 2, 10]].getD i []
def actJ (s0 s1 s2 s3 s4 s5 s6 s7 s8 s9 s10 s11 s12 s13 u14 u15 u16 u17 u18 u19 u20 u21 u22 u23 u24 s25 s26 : Value) (b : Nat) (v14 v15 v16 v17 v18 v19 v20 v21 v22 v23 v24 : Value) : Act :=
  { tmps := #[s0, s1, s2, s3, s4, s5, s6, s7, s8, s9, s10, s11, s12, s13, if b.testBit 0 = true then v14 else u14, if b.testBit 1 = true then v15 else u15, if b.testBit 2 = true then v16 else u16, if b.testBit 3 = true then v17 else u17, if b.testBit 4 = true then v18 else u18, if b.testBit 5 = true then v19 else u19, if b.testBit 6 = true then v20 else u20, if b.testBit 7 = true then v21 else u21, if b.testBit 8 = true then v22 else u22, if b.testBit 9 = true then v23 else u23, if b.testBit 10 = true then v24 else u24, s25, s26], defers := [] }
section
variable (s0 s1 s2 s3 s4 s5 s6 s7 s8 s9 s10 s11 s12 s13 u14 u15 u16 u17 u18 u19 u20 u21 u22 u23 u24 s25 s26 : Value) (b : Nat) (v14 v15 v16 v17 v18 v19 v20 v21 v22 v23 v24 : Value)
theorem actJ_0 : (actJ s0 s1 s2 s3 s4 s5 s6 s7 s8 s9 s10 s11 s12 s13 u14 u15 u16 u17 u18 u19 u20 u21 u22 u23 u24 s25 s26 b v14 v15 v16 v17 v18 v19 v20 v21 v22 v23 v24).put (some 14) v14 = actJ s0 s1 s2 s3 s4 s5 s6 s7 s8 s9 s10 s11 s12 s13 u14 u15 u16 u17 u18 u19 u20 u21 u22 u23 u24 s25 s26 (b ||| 2 ^ 0) v14 v15 v16 v17 v18 v19 v20 v21 v22 v23 v24 := by
  unfold actJ
  simp only [tbJ]
  simp [Act.put]
theorem actJ_1 : (actJ s0 s1 s2 s3 s4 s5 s6 s7 s8 s9 s10 s11 s12 s13 u14 u15 u16 u17 u18 u19 u20 u21 u22 u23 u24 s25 s26 b v14 v15 v16 v17 v18 v19 v20 v21 v22 v23 v24).put (some 15) v15 = actJ s0 s1 s2 s3 s4 s5 s6 s7 s8 s9 s10 s11 s12 s13 u14 u15 u16 u17 u18 u19 u20 u21 u22 u23 u24 s25 s26 (b ||| 2 ^ 1) v14 v15 v16 v17 v18 v19 v20 v21 v22 v23 v24 := by
  unfold actJ
  simp only [tbJ]
  simp [Act.put]
theorem actJ_2 : (actJ s0 s1 s2 s3 s4 s5 s6 s7 s8 s9 s10 s11 s12 s13 u14 u15 u16 u17 u18 u19 u20 u21 u22 u23 u24 s25 s26 b v14 v15 v16 v17 v18 v19 v20 v21 v22 v23 v24).put (some 16) v16 = actJ s0 s1 s2 s3 s4 s5 s6 s7 s8 s9 s10 s11 s12 s13 u14 u15 u16 u17 u18 u19 u20 u21 u22 u23 u24 s25 s26 (b ||| 2 ^ 2) v14 v15 v16 v17 v18 v19 v20 v21 v22 v23 v24 := by
  unfold actJ
  simp only [tbJ]
  simp [Act.put]
theorem actJ_3 : (actJ s0 s1 s2 s3 s4 s5 s6 s7 s8 s9 s10 s11 s12 s13 u14 u15 u16 u17 u18 u19 u20 u21 u22 u23 u24 s25 s26 b v14 v15 v16 v17 v18 v19 v20 v21 v22 v23 v24).put (some 17) v17 = actJ s0 s1 s2 s3 s4 s5 s6 s7 s8 s9 s10 s11 s12 s13 u14 u15 u16 u17 u18 u19 u20 u21 u22 u23 u24 s25 s26 (b ||| 2 ^ 3) v14 v15 v16 v17 v18 v19 v20 v21 v22 v23 v24 := by
  unfold actJ
  simp only [tbJ]
  simp [Act.put]
theorem actJ_4 : (actJ s0 s1 s2 s3 s4 s5 s6 s7 s8 s9 s10 s11 s12 s13 u14 u15 u16 u17 u18 u19 u20 u21 u22 u23 u24 s25 s26 b v14 v15 v16 v17 v18 v19 v20 v21 v22 v23 v24).put (some 18) v18 = actJ s0 s1 s2 s3 s4 s5 s6 s7 s8 s9 s10 s11 s12 s13 u14 u15 u16 u17 u18 u19 u20 u21 u22 u23 u24 s25 s26 (b ||| 2 ^ 4) v14 v15 v16 v17 v18 v19 v20 v21 v22 v23 v24 := by
  unfold actJ
  simp only [tbJ]
  simp [Act.put]
theorem actJ_5 : (actJ s0 s1 s2 s3 s4 s5 s6 s7 s8 s9 s10 s11 s12 s13 u14 u15 u16 u17 u18 u19 u20 u21 u22 u23 u24 s25 s26 b v14 v15 v16 v17 v18 v19 v20 v21 v22 v23 v24).put (some 19) v19 = actJ s0 s1 s2 s3 s4 s5 s6 s7 s8 s9 s10 s11 s12 s13 u14 u15 u16 u17 u18 u19 u20 u21 u22 u23 u24 s25 s26 (b ||| 2 ^ 5) v14 v15 v16 v17 v18 v19 v20 v21 v22 v23 v24 := by
  unfold actJ
  simp only [tbJ]
  simp [Act.put]
theorem actJ_6 : (actJ s0 s1 s2 s3 s4 s5 s6 s7 s8 s9 s10 s11 s12 s13 u14 u15 u16 u17 u18 u19 u20 u21 u22 u23 u24 s25 s26 b v14 v15 v16 v17 v18 v19 v20 v21 v22 v23 v24).put (some 20) v20 = actJ s0 s1 s2 s3 s4 s5 s6 s7 s8 s9 s10 s11 s12 s13 u14 u15 u16 u17 u18 u19 u20 u21 u22 u23 u24 s25 s26 (b ||| 2 ^ 6) v14 v15 v16 v17 v18 v19 v20 v21 v22 v23 v24 := by
  unfold actJ
  simp only [tbJ]
  simp [Act.put]
theorem actJ_7 : (actJ s0 s1 s2 s3 s4 s5 s6 s7 s8 s9 s10 s11 s12 s13 u14 u15 u16 u17 u18 u19 u20 u21 u22 u23 u24 s25 s26 b v14 v15 v16 v17 v18 v19 v20 v21 v22 v23 v24).put (some 21) v21 = actJ s0 s1 s2 s3 s4 s5 s6 s7 s8 s9 s10 s11 s12 s13 u14 u15 u16 u17 u18 u19 u20 u21 u22 u23 u24 s25 s26 (b ||| 2 ^ 7) v14 v15 v16 v17 v18 v19 v20 v21 v22 v23 v24 := by
  unfold actJ
  simp only [tbJ]
  simp [Act.put]
theorem actJ_8 : (actJ s0 s1 s2 s3 s4 s5 s6 s7 s8 s9 s10 s11 s12 s13 u14 u15 u16 u17 u18 u19 u20 u21 u22 u23 u24 s25 s26 b v14 v15 v16 v17 v18 v19 v20 v21 v22 v23 v24).put (some 22) v22 = actJ s0 s1 s2 s3 s4 s5 s6 s7 s8 s9 s10 s11 s12 s13 u14 u15 u16 u17 u18 u19 u20 u21 u22 u23 u24 s25 s26 (b ||| 2 ^ 8) v14 v15 v16 v17 v18 v19 v20 v21 v22 v23 v24 := by
  unfold actJ
  simp only [tbJ]
  simp [Act.put]
theorem actJ_9 : (actJ s0 s1 s2 s3 s4 s5 s6 s7 s8 s9 s10 s11 s12 s13 u14 u15 u16 u17 u18 u19 u20 u21 u22 u23 u24 s25 s26 b v14 v15 v16 v17 v18 v19 v20 v21 v22 v23 v24).put (some 23) v23 = actJ s0 s1 s2 s3 s4 s5 s6 s7 s8 s9 s10 s11 s12 s13 u14 u15 u16 u17 u18 u19 u20 u21 u22 u23 u24 s25 s26 (b ||| 2 ^ 9) v14 v15 v16 v17 v18 v19 v20 v21 v22 v23 v24 := by
  unfold actJ
  simp only [tbJ]
  simp [Act.put]
theorem actJ_10 : (actJ s0 s1 s2 s3 s4 s5 s6 s7 s8 s9 s10 s11 s12 s13 u14 u15 u16 u17 u18 u19 u20 u21 u22 u23 u24 s25 s26 b v14 v15 v16 v17 v18 v19 v20 v21 v22 v23 v24).put (some 24) v24 = actJ s0 s1 s2 s3 s4 s5 s6 s7 s8 s9 s10 s11 s12 s13 u14 u15 u16 u17 u18 u19 u20 u21 u22 u23 u24 s25 s26 (b ||| 2 ^ 10) v14 v15 v16 v17 v18 v19 v20 v21 v22 v23 v24 := by
  unfold actJ
  simp only [tbJ]
  simp [Act.put]
theorem actJ_11 : (actJ s0 s1 s2 s3 s4 s5 s6 s7 s8 s9 s10 s11 s12 s13 u14 u15 u16 u17 u18 u19 u20 u21 u22 u23 u24 s25 s26 b v14 v15 v16 v17 v18 v19 v20 v21 v22 v23 v24).put none undef = actJ s0 s1 s2 s3 s4 s5 s6 s7 s8 s9 s10 s11 s12 s13 u14 u15 u16 u17 u18 u19 u20 u21 u22 u23 u24 s25 s26 (b ||| 2 ^ 11) v14 v15 v16 v17 v18 v19 v20 v21 v22 v23 v24 := by
  unfold actJ
  simp only [tbJ]
  simp [Act.put]
theorem actJ_any6 (h : b.testBit 6 = false) (y : Value) : actJ s0 s1 s2 s3 s4 s5 s6 s7 s8 s9 s10 s11 s12 s13 u14 u15 u16 u17 u18 u19 u20 u21 u22 u23 u24 s25 s26 b v14 v15 v16 v17 v18 v19 v20 v21 v22 v23 v24 = actJ s0 s1 s2 s3 s4 s5 s6 s7 s8 s9 s10 s11 s12 s13 u14 u15 u16 u17 u18 u19 u20 u21 u22 u23 u24 s25 s26 b v14 v15 v16 v17 v18 v19 y v21 v22 v23 v24 := by
  unfold actJ
  simp [h]
theorem actJ_any10 (h : b.testBit 10 = false) (y : Value) : actJ s0 s1 s2 s3 s4 s5 s6 s7 s8 s9 s10 s11 s12 s13 u14 u15 u16 u17 u18 u19 u20 u21 u22 u23 u24 s25 s26 b v14 v15 v16 v17 v18 v19 v20 v21 v22 v23 v24 = actJ s0 s1 s2 s3 s4 s5 s6 s7 s8 s9 s10 s11 s12 s13 u14 u15 u16 u17 u18 u19 u20 u21 u22 u23 u24 s25 s26 b v14 v15 v16 v17 v18 v19 v20 v21 v22 v23 y := by
  unfold actJ
  simp [h]
end
end Go.Proofs.YtdnccdobnhbpeaaDoor
