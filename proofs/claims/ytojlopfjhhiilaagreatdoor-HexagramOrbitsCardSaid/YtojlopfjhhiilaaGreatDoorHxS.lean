/-
  Package hexagram: what operations reach.
-/
import Derived.Test.YtojlopfjhhiilaaGreatDoorHxR
namespace Go.Proofs.YtojlopfjhhiilaaGreatDoor
open Go Go.RowKit Go.Shelf Go.Maps
set_option linter.unusedVariables false

section
variable {F : Fence} {nF : Nat} {P : Program} {ops : Array Oper} {rest : List Oper} {o : Oper} {a : Act} {w : World} {Q : Exit → Act → World → Prop}
theorem wpListIn_store_row (hgd : o.guard = none) (ty : TypeId) (x y : Operand) (ho : o.op = .store ty x y)
    (g : Nat) (cells : Array Value) (hx : a.eval x = .pointer (some ⟨g, 0, none⟩)) (hy : a.eval y = .agg cells)
    (t : TypeId) (old : Array Value) (hg : w.heap[g]? = some (.cells old t (0, 0))) (hi : (P.info? ty).map (·.size) = some cells.size)
    (hold : old.size = cells.size) (h1 : cells.all (·.oneCell') = true)
    (h : wpListIn F nF P ops Q rest (a.put o.dst undef) (w.setRow g cells)) : wpListIn F nF P ops Q (o :: rest) a w := by
  refine wpListIn_plain hgd fun K' hK' => ?_
  unfold Oper.wpIn
  refine ⟨by simp [Oper.about, ho], ?_⟩
  rw [Oper.semAt_plain F _ _ (by rw [ho]; intro c hc'; cases hc')]
  unfold execOp
  simp only [ho, hx, hy, Instr.storeAt, Instr.sureAddr, Sem.run_bind, Sem.run_pure, Result.andThen_ok, run_storeVar_row w g t ty old cells hg hi hold h1]
  exact hK' _ _ h
end

attribute [local go_sem] Oper.semAt_some

theorem wpIn_cut0 {F : Fence} {rm : Nat} {P : Program} {s : Code} {K : Act → World → Prop} {Q' : Exit → Act → World → Prop} {a : Act} {w : World} (R : Act → World → Prop)
    (first : s.wpIn F rm P (Exit.then R Q') a w) (rest : ∀ a' w', R a' w' → K a' w') : s.wpIn F rm P (Exit.then K Q') a w := by
  refine wpIn_mono first ?_
  intro e a' w' hq
  cases e with
  | normal => exact rest _ _ hq
  | exit id => exact hq
  | goto l => exact hq
  | ret => exact hq
  | panic ch => exact hq
  | outgrown => exact hq
theorem keepsFrom_below {B : Nat} {V V' : World} (h : Below V.heap.size V V') : KeepsFrom B V V' := ⟨h.size, fun k o _ hk _ => (h.block k (Array.getElem?_eq_some_iff.1 hk).1).trans hk⟩
/-- One element more, if it is new. -/
def addF (fs : List Int) (x : Int) : List Int := if x ∈ fs then fs else fs ++ [x]
/-- What operations make of x is added. -/
def stepF (x : Int) (fs : List Int) (os : List Nat) : List Int := os.foldl (fun fs o => addF fs (nth (opL o) x.toNat)) fs
theorem stepF_snoc (x : Int) (fs : List Int) (os : List Nat) (o : Nat) : stepF x fs (os ++ [o]) = addF (stepF x fs os) (nth (opL o) x.toNat) := by simp [stepF]
def reachTo (set first : Int) : Nat → List Int
  | 0 => [first]
  | k + 1 => if k < (reachTo set first k).length then stepF (nth (reachTo set first k) k) (reachTo set first k) (opsTo set 4) else reachTo set first k
theorem nth_append {xs ys : List Int} {k : Nat} (h : k < xs.length) : nth (xs ++ ys) k = nth xs k := by simp [nth, List.getElem?_append, h]
theorem addF_len (fs : List Int) (x : Int) : fs.length ≤ (addF fs x).length := by unfold addF; split <;> simp
theorem addF_nth {fs : List Int} {x : Int} {k : Nat} (h : k < fs.length) : nth (addF fs x) k = nth fs k := by
  unfold addF
  split
  · rfl
  · exact nth_append h
theorem stepF_len (x : Int) (fs : List Int) (os : List Nat) : fs.length ≤ (stepF x fs os).length ∧ ∀ k, k < fs.length → nth (stepF x fs os) k = nth fs k := by
  unfold stepF
  induction os generalizing fs with
  | nil => exact ⟨Nat.le_refl _, fun _ _ => rfl⟩
  | cons o r ih =>
    obtain ⟨h1, h2⟩ := ih (addF fs (nth (opL o) x.toNat))
    have h3 := addF_len fs (nth (opL o) x.toNat)
    exact ⟨Nat.le_trans h3 h1, fun k hk => (h2 k (by omega)).trans (addF_nth hk)⟩
/-- Hexagrams, none of which occurs twice. -/
def Hexes (fs : List Int) : Prop := fs.Nodup ∧ ∀ x ∈ fs, Hex x
theorem opL_hex (o : Nat) {x : Int} (hx : Hex x) : Hex (nth (opL o) x.toNat) := by
  obtain ⟨a, b⟩ := hx
  have : nth (opL o) x.toNat = opV x.toNat o := by
    unfold opL nth
    rw [List.getD_eq_getElem?_getD, List.getElem?_map, List.getElem?_range (by omega)]
    rfl
  rw [this]
  exact opV_hex _ _
theorem addF_hexes {fs : List Int} (h : Hexes fs) {x : Int} (hx : Hex x) : Hexes (addF fs x) := by
  unfold addF
  split
  · exact h
  · rename_i hn
    refine ⟨?_, fun y hy => ?_⟩
    · rw [List.nodup_append]
      exact ⟨h.1, by simp, fun a ha b hb e => by simp at hb; subst hb; exact hn (e ▸ ha)⟩
    · rcases List.mem_append.1 hy with hy | hy
      · exact h.2 y hy
      · simp at hy; subst hy; exact hx
theorem stepF_hexes {x : Int} (hx : Hex x) (os : List Nat) {fs : List Int} (h : Hexes fs) : Hexes (stepF x fs os) := by
  unfold stepF
  induction os generalizing fs with
  | nil => exact h
  | cons o r ih => exact ih (addF_hexes h (opL_hex o hx))
theorem reachTo_hexes {set first : Int} (hf : Hex first) (k : Nat) : Hexes (reachTo set first k) := by
  induction k with
  | zero => exact ⟨by simp [reachTo], fun x hx => by simp [reachTo] at hx; subst hx; exact hf⟩
  | succ k ih =>
    rw [reachTo]
    split
    · rename_i hk
      exact stepF_hexes (ih.2 _ (nth_mem hk)) _ ih
    · exact ih
theorem nodup_le : ∀ (n : Nat) (l : List Int), l.Nodup → (∀ x ∈ l, 0 ≤ x ∧ x < n) → l.length ≤ n := by
  intro n
  induction n with
  | zero =>
    intro l _ h
    cases l with
    | nil => simp
    | cons a r => have := h a (by simp); omega
  | succ n ih =>
    intro l hn h
    by_cases hm : (n : Int) ∈ l
    · have h1 := ih (l.erase n) (hn.erase _) (fun x hx => by
        have h2 := (List.Nodup.mem_erase_iff hn).1 hx
        have h3 := h x h2.2
        omega)
      rw [List.length_erase_of_mem hm] at h1
      omega
    · have := ih l hn (fun x hx => by
        have h3 := h x hx
        have : x ≠ n := fun e => hm (e ▸ hx)
        omega)
      omega
theorem Hexes.len {fs : List Int} (h : Hexes fs) : fs.length ≤ 64 := nodup_le 64 fs h.1 fun x hx => by obtain ⟨a, b⟩ := h.2 x hx; exact ⟨a, by omega⟩
theorem reachTo_end {set first : Int} {k : Nat} (h : (reachTo set first k).length ≤ k) (d : Nat) : reachTo set first (k + d) = reachTo set first k := by
  induction d with
  | zero => rfl
  | succ d ih =>
    rw [← Nat.add_assoc, reachTo, ih, if_neg (by omega)]

set_option maxHeartbeats 400000 in
theorem orbit1_any (x : Int) (hx : Hex x) (b o : Nat) (w : World) (hb : Blk w b 47 (arr (opL o))) :
    Calls Tryz.prog 16 #[.int .i64 x, .pointer (some ⟨b, 0, none⟩)] w fun e w' => e = .returned (.int .i64 (nth (opL o) x.toNat)) ∧ w = w' := by
  obtain ⟨x0, x1⟩ := hx
  have hc := hb.cell x.toNat
  rw [arr_get (by simp [opL]; omega)] at hc
  clear hb
  go_enter Tryz.func16, Tryz.ntmps16
  go_wp2
  go_ret
  exact ⟨rfl, rfl⟩
end Go.Proofs.YtojlopfjhhiilaaGreatDoor
