/-
  Arrays of 64 as keys of maps; sets of them as such maps.
-/
import Derived.Test.YtojlopfjhhiilaaGreatDoorHxYd
import Derived.Test.YtojlopfjhhiilaaGreatDoorHxX
namespace Go.Proofs.YtojlopfjhhiilaaGreatDoor
open Go Go.RowKit Go.Shelf Go.Maps
set_option linter.unusedVariables false

def klM (m : List Int) : Lit := .string (keyBytes (m.map (Lit.int .i64)))
theorem keyM : Maps.Keyed Tryz.prog 47 := Maps.Keyed.of_law (deep_law_laid hx_laidOut (m := 2) (by omega) (of_decide_eq_true (by kernel_rfl)) (by kernel_rfl) (by rw [Tryz.underlying47]))
theorem arrM : WideMaps.ArrKey Tryz.prog 47 3 64 := ⟨Tryz.underlying47, by kernel_rfl, by kernel_rfl, by kernel_rfl⟩
theorem size_typesM : ∃ m, Tryz.prog.types.size = m + 1 := ⟨Tryz.prog.types.size - 1, by have : 0 < Tryz.prog.types.size := of_decide_eq_true (by kernel_rfl); omega⟩
theorem mapM_all {α β : Type} {f : α → Option β} {g : α → β} : ∀ (L : List α), (∀ x ∈ L, f x = some (g x)) → List.mapM f L = some (L.map g)
  | [], _ => rfl
  | x :: L, h => by
    rw [List.mapM_cons, h x (by simp), mapM_all L (fun y hy => h y (by simp [hy]))]
    rfl
theorem flat_one {α β : Type} (g : α → β) (L : List α) : (L.map fun i => [g i]).flatten = L.map g := by
  induction L with
  | nil => rfl
  | cons x L ih => simp [ih]
theorem keyM_mk {m : List Int} (h : MapL m) : keyOf Tryz.prog 47 (.agg (arr m)) = some (klM m) := by
  have hkt := arrM.keyType size_typesM
  obtain ⟨d, hd⟩ := size_typesM
  have A := arrM
  have he := Tryz.underlying3
  unfold keyOf
  simp only [A.hu]
  rw [if_pos (by simp [hkt, Value.formed, A.hu, A.size, arr, h.1]), hd]
  unfold Program.keyLits
  simp only [A.hu, Value.cells]
  rw [if_pos (by rw [A.size]; simp [arr, h.1])]
  have hi : ∀ i ∈ List.range 64, Tryz.prog.keyLits (d + 1) 3 (List.take (Tryz.prog.cellsOf 3) (List.drop (i * Tryz.prog.cellsOf 3) (arr m).toList)) = some [Lit.int .i64 (nth m i)] := fun i hi => by
    have hi64 : i < 64 := by simpa using hi
    obtain ⟨b0, b1⟩ := h.nth hi64
    have hd2 : List.take 1 (List.drop i (arr m).toList) = [.int .i64 (nth m i)] := by
      have hl : i < (arr m).toList.length := by simp [arr, h.1]; exact hi64
      rw [List.drop_eq_getElem_cons hl]
      simp [arr, nth_eq (show i < m.length by rw [h.1]; exact hi64)]
    have hw : (Lit.int .i64 (nth m i)).wf = true := WalkArith.wf_i64 (by omega)
    rw [A.one, Nat.mul_one, hd2]
    simp [Program.keyLits, he, hw]
  rw [mapM_all _ hi, Option.map_some, Option.map_some, flat_one]
  have e : (List.range 64).map (fun i => Lit.int .i64 (nth m i)) = m.map (Lit.int .i64) := by
    apply List.ext_getElem
    · simp [h.1]
    · intro i h1 h2
      simp only [List.getElem_map, List.getElem_range]
      rw [nth_eq (by simpa using h2)]
  unfold klM
  rw [← e]
theorem klM_inj {m m' : List Int} (h : MapL m) (h' : MapL m') (e : klM m = klM m') : m = m' := by
  have k1 := keyM_mk h
  have k2 := keyM_mk h'
  rw [← e] at k2
  have := keyM.inj k1 k2
  simp only [arr, Value.agg.injEq] at this
  have h2 := congrArg Array.toList this
  simp only at h2
  exact (List.map_inj_right (fun a b hab => by injection hab)).1 h2

/-- The map of a set of maps: each is put at true. -/
def seenM (fs : List (List Int)) : DataW Value := fs.foldl (fun D m => D.put (klM m) (.lit (.bool true))) (.map [])
theorem seenM_snoc (fs : List (List Int)) (m : List Int) : seenM (fs ++ [m]) = (seenM fs).put (klM m) (.lit (.bool true)) := by simp [seenM]
theorem seenM_at (fs : List (List Int)) (hfs : Mapps fs) (y : List Int) (hy : MapL y) : (seenM fs).atKey (klM y) (.lit (.bool false)) = .lit (.bool (decide (y ∈ fs))) := by
  have key : ∀ (l : List (List Int)) (D : DataW Value), Mapps l → IsMap D → ∀ c : Bool, D.atKey (klM y) (.lit (.bool false)) = .lit (.bool c) → (l.foldl (fun D m => D.put (klM m) (.lit (.bool true))) D).atKey (klM y) (.lit (.bool false)) = .lit (.bool (c || decide (y ∈ l))) := by
    intro l
    induction l with
    | nil => intro D _ _ c h; simpa using h
    | cons x r ih =>
      intro D hl hD c h
      have hr : Mapps r := fun m hm => hl m (by simp [hm])
      rw [List.foldl_cons]
      by_cases e : y = x
      · subst e
        rw [ih _ hr (hD.put _ _) true (atKey_put_same (k := klM y) hD trivial _ _)]
        simp
      · have hne : klM y ≠ klM x := fun h0 => e (klM_inj hy (hl x (by simp)) h0)
        rw [ih _ hr (hD.put _ _) c (by rw [atKey_put_other hne]; exact h)]
        simp [e]
  have := key fs (.map []) hfs ⟨[], rfl⟩ false rfl
  simpa [seenM] using this
end Go.Proofs.YtojlopfjhhiilaaGreatDoor
