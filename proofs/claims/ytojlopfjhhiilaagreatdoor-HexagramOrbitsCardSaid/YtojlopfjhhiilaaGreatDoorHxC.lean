/-
  Package hexagram: blocks that are known whole; the lines of two hexagrams, and the hexagrams of lines.
-/
import Derived.Test.YtojlopfjhhiilaaGreatDoorHxB
import Derived.Laws.CopyOwn
import Derived.Deep.RegionLaw
import Derived.Deep.RegionHeld3
namespace Go.Proofs.YtojlopfjhhiilaaGreatDoor
open Go Go.RowKit
set_option linter.unusedVariables false

def Blk (w : World) (g : Nat) (t : TypeId) (cs : Array Value) : Prop := w.heap[g]? = some (.cells cs t (0, 0))
section
variable {w w' : World} {g : Nat} {t : TypeId} {cs : Array Value}
theorem Blk.lt (h : Blk w g t cs) : g < w.heap.size := by
  rcases Nat.lt_or_ge g w.heap.size with hlt | hge
  · exact hlt
  · unfold Blk at h; rw [Array.getElem?_eq_none hge] at h; cases h
theorem Blk.cell (h : Blk w g t cs) (i : Nat) : w.cell? ⟨g, i, none⟩ = cs[i]? := cell_of_row w g i cs t (0, 0) h
theorem Blk.frozen (h : Blk w g t cs) (i : Nat) : w.frozen? ⟨g, i, none⟩ = false := by
  unfold Blk at h
  simp [World.frozen?, h]
theorem Blk.new (w : World) (t : TypeId) (cs : Array Value) : Blk (w.alloc (.cells cs t)) w.heap.size t cs := heap_alloc_new w _
theorem Blk.alloc (h : Blk w g t cs) (o : Obj) : Blk (w.alloc o) g t cs := (Below.heap_alloc w o g h.lt).trans h
theorem Blk.set_ (h : Blk w g t cs) (i : Nat) (u : Value) : Blk (w.setCell ⟨g, i, none⟩ u) g t (cs.setIfInBounds i u) := by
  unfold Blk at h ⊢
  simp [World.setCell, Array.getElem?_modify, h]
theorem Blk.far (h : Blk w g t cs) {p : Addr} (hp : g ≠ p.block) (u : Value) : Blk (w.setCell p u) g t cs := (Below.heap_setCell w p u g hp).trans h
theorem Blk.below {B : Nat} (h : Blk w g t cs) (hb : Below B w w') (hg : g < B) : Blk w' g t cs := (hb.block g hg).trans h
theorem Blk.row (h : Blk w g t cs) (ds : Array Value) : Blk (w.setRow g ds) g t ds := setRow_heap w g cs ds t _ h
theorem Blk.at_ (h : Blk w g t cs) : ∀ j v, cs.toList[j]? = some v → w.cell? ((⟨g, 0, none⟩ : Addr).add j) = some v := fun j v hv => by
  rw [Go.WideShapes.add_plain, Nat.zero_add, h.cell]
  simpa using hv
end

/-- The ints of a list as an array's parts. -/
def arr (xs : List Int) : Array Value := (xs.map (Value.int .i64)).toArray
theorem arr_get {xs : List Int} {k : Nat} (h : k < xs.length) : (arr xs)[k]? = some (.int .i64 (nth xs k)) := by simp [arr, nth_eq h, h]
theorem arr_set (xs : List Int) (k : Nat) (v : Int) : (arr xs).setIfInBounds k (.int .i64 v) = arr (xs.set k v) := by simp [arr, List.map_set]
theorem arr_size (xs : List Int) : (arr xs).size = xs.length := by simp [arr]
theorem arr_one (xs : List Int) : (arr xs).all (·.oneCell') = true := by simp [arr, Value.oneCell']
theorem newAt {W : World} {o : Obj} {n : Nat} (h : W.heap.size = n) : (W.alloc o).heap[n]? = some o := by subst h; exact heap_alloc_new W o
theorem reads_at (W : World) (T : TypeId) (xs : List Int) (n : Nat) (h : W.heap.size = n) : Reads (W.alloc (.cells (arr xs) T)) (some ⟨n, 0, none⟩) xs := fun k hk =>
  ⟨n, 0, rfl, by subst h; rw [Nat.zero_add, (Blk.new W T (arr xs)).cell, arr_get hk]⟩
theorem Blk.reads {w : World} {g : Nat} {t : TypeId} {xs : List Int} (h : Blk w g t (arr xs)) : Reads w (some ⟨g, 0, none⟩) xs := fun k hk =>
  ⟨g, 0, rfl, by rw [Nat.zero_add, h.cell, arr_get hk]⟩
theorem results_cell_slot {P : Program} {fn : Func} {p q : Tmp} {ty : TypeId} (h : fn.results = #[.cell p ty, .tmp q]) (tmps : Array Value) (w : World) (g : Nat) (t : TypeId) (cs : Array Value) (fr : Nat × Nat) (d : TypeDesc)
    (hp : tmps.getD p undef = .pointer (some ⟨g, 0, none⟩)) (hg : w.heap[g]? = some (.cells cs t fr))
    (hu : P.underlying ty = some d) (hd : (match d with | .struct _ | .array _ _ => true | _ => false) = true) (hi : (P.info? ty).map (·.size) = some cs.size) (v : Value) (hv : tmps.getD q undef = v) :
    (results fn tmps).run P w = .ok (.tuple #[.agg cs, v]) w := by
  have hp' : tmps[p]?.getD undef = .pointer (some ⟨g, 0, none⟩) := by simpa using hp
  have hv' : tmps[q]?.getD undef = v := by simpa using hv
  simp [results, h, hp', hv', asAddr, run_loadVar_row w g t ty cs fr d hg hu hd hi]


theorem reads_new (w : World) (T : TypeId) (xs : List Int) : Reads (w.alloc (.cells (arr xs) T)) (some ⟨w.heap.size, 0, none⟩) xs := reads_at w T xs _ rfl
theorem below1 (W : World) (o : Obj) : Below W.heap.size W (W.alloc o) := (Below.refl _ _).alloc (Nat.le_refl _) _
theorem info_six : (Tryz.prog.info? 56).map (·.size) = some 6 := by kernel_rfl
theorem chkH_zero {xs : List Int} (h : chkH xs = 0) : ∀ k, k < xs.length → Hex (nth xs k) := fun k hk => by
  unfold chkH at h
  split at h
  · simp at h
  · rename_i h1
    simp [anyB, outB] at h1
    have := h1 _ (nth_mem hk)
    exact ⟨by omega, by omega⟩
theorem chkH_of {xs : List Int} (h : ∀ k, k < xs.length → Hex (nth xs k)) : chkH xs = 0 := by
  unfold chkH
  rw [if_neg]
  intro h1
  simp [anyB, outB] at h1
  obtain ⟨x, hx, h2⟩ := h1
  obtain ⟨i, hi, rfl⟩ := List.getElem_of_mem hx
  have := h i hi
  rw [nth_eq hi] at this
  obtain ⟨a, b⟩ := this
  omega
theorem chkH_or (xs : List Int) : chkH xs = 0 ∨ chkH xs = 3 := by unfold chkH; split <;> simp

/-- The line of a cast, by what it is in both hexagrams. -/
def castV (x y i : Int) : Int := if bitB x i = true then (if bitB y i = true then 7 else 9) else (if bitB y i = true then 6 else 8)
set_option maxHeartbeats 400000 in
theorem cast_any (x y i : Int) (hx0 : 0 ≤ x) (hx1 : x ≤ 63) (hy0 : 0 ≤ y) (hy1 : y ≤ 63) (hi0 : 0 ≤ i) (hi1 : i ≤ 5) (w : World) :
    Calls Tryz.prog 89 #[.int .i64 x, .int .i64 y, .int .i64 i] w fun e w' => e = .returned (.int .i64 (castV x y i)) ∧ w = w' := by
  have C1 := firm_any x i hx0 hx1 hi0 hi1 w
  have C2 := firm_any y i hy0 hy1 hi0 hi1 w
  obtain ⟨v, hv⟩ : ∃ v, castV x y i = v := ⟨_, rfl⟩
  cases h1 : bitB x i
  all_goals
    cases h2 : bitB y i
    all_goals
      unfold castV at hv
      rw [h1] at hv C1
      rw [h2] at hv C2
      simp only [Bool.false_eq_true, if_true, if_false] at hv
      have E := Lib.hid (show castV x y i = v by unfold castV; rw [h1, h2]; exact hv)
      subst hv
      rw [E.out]
      clear E h1 h2
      go_enter Tryz.func89, Tryz.ntmps89
      go_wp2_with fail
      refine C1.mono ?_
      rintro e w' ⟨rfl, rfl⟩
      go_wp2_with fail
      refine C2.mono ?_
      rintro e w' ⟨rfl, rfl⟩
      go_wp2
      go_ret
      exact ⟨rfl, rfl⟩

def zero6 : List Int := List.replicate 6 0
/-- The hexagrams of a cast. -/
def firstB (v : Int) : Bool := v == 7 || v == 9
def secondB (v : Int) : Bool := v == 7 || v == 6
def castE (m : List Int) : Int := if anyB (outB 6 9) m = true then 2 else 0
def castF (m : List Int) : Int := if anyB (outB 6 9) m = true then 0 else hexTo (fun i => firstB (nth m i)) 6
def castS (m : List Int) : Int := if anyB (outB 6 9) m = true then 0 else hexTo (fun i => secondB (nth m i)) 6
set_option maxHeartbeats 400000 in
theorem cast1_any (b i : Nat) (m : List Int) (hi : i < 6) (w : World) (hc : w.cell? ⟨b, i, none⟩ = some (.int .i64 (nth m i))) :
    Calls Tryz.prog 39 #[.int .i64 i, .pointer (some ⟨b, 0, none⟩)] w fun e w' => e = .returned (.bool (firstB (nth m i))) ∧ w = w' := by
  obtain ⟨v, hv⟩ : ∃ v, nth m i = v := ⟨_, rfl⟩
  rw [hv] at hc ⊢
  clear hv
  by_cases h7 : v = 7
  · subst h7
    go_enter Tryz.func39, Tryz.ntmps39
    go_wp2
    go_ret
    exact ⟨rfl, rfl⟩
  · have e1 : (v == 7) = false := by simpa using h7
    have e2 : decide (v = 7) = false := by simpa using h7
    clear h7
    have E := Lib.hid (show firstB v = (v == 9) by simp [firstB, e1])
    go_enter Tryz.func39, Tryz.ntmps39
    go_wp2
    go_ret
    exact ⟨by rw [E.out]; rfl, rfl⟩
set_option maxHeartbeats 400000 in
theorem cast2_any (b i : Nat) (m : List Int) (hi : i < 6) (w : World) (hc : w.cell? ⟨b, i, none⟩ = some (.int .i64 (nth m i))) :
    Calls Tryz.prog 40 #[.int .i64 i, .pointer (some ⟨b, 0, none⟩)] w fun e w' => e = .returned (.bool (secondB (nth m i))) ∧ w = w' := by
  obtain ⟨v, hv⟩ : ∃ v, nth m i = v := ⟨_, rfl⟩
  rw [hv] at hc ⊢
  clear hv
  by_cases h7 : v = 7
  · subst h7
    go_enter Tryz.func40, Tryz.ntmps40
    go_wp2
    go_ret
    exact ⟨rfl, rfl⟩
  · have e1 : (v == 7) = false := by simpa using h7
    have e2 : decide (v = 7) = false := by simpa using h7
    clear h7
    have E := Lib.hid (show secondB v = (v == 6) by simp [secondB, e1])
    go_enter Tryz.func40, Tryz.ntmps40
    go_wp2
    go_ret
    exact ⟨by rw [E.out]; rfl, rfl⟩

theorem outside_cI (lo hi : Int) (w : World) :
    Calls Tryz.prog 31 #[.int .i64 lo, .int .i64 hi] w fun e w' => ∃ a b, e = .returned (.func (.func 55) #[] #[.pointer (some a), .pointer (some b)]) ∧ w'.cell? a = some (.int .i64 lo) ∧ w'.cell? b = some (.int .i64 hi) ∧ Below w.heap.size w w' := by
  refine (outside_anyI lo hi w).mono ?_
  rintro e w' ⟨rfl, rfl⟩
  exact ⟨_, _, rfl, by go_cell, by go_cell, ((Below.refl _ _).alloc (Nat.le_refl _) _).alloc (by simp) _⟩
set_option maxRecDepth 100000 in
set_option maxHeartbeats 4000000 in
theorem castF_any (m0 m1 m2 m3 m4 m5 : Int) (w : World) :
    Calls Tryz.prog 23 #[.agg (arr [m0, m1, m2, m3, m4, m5])] w fun e w' => e = .returned (.tuple #[.int .i64 (castF [m0, m1, m2, m3, m4, m5]), .int .i64 (castS [m0, m1, m2, m3, m4, m5]), .int .i64 (castE [m0, m1, m2, m3, m4, m5])]) ∧ Below w.heap.size w w' := by
  have HM := Lib.hid (Blk.new w 56 (arr [m0, m1, m2, m3, m4, m5]))
  have hB0 : Below w.heap.size w (w.alloc (.cells (arr [m0, m1, m2, m3, m4, m5]) 56)) := (Below.refl _ _).alloc (Nat.le_refl _) _
  cases ha : anyB (outB 6 9) [m0, m1, m2, m3, m4, m5]
  · have HA := Lib.hid ha
    have E1 := Lib.hid (show castF [m0, m1, m2, m3, m4, m5] = hexTo (fun i => firstB (nth [m0, m1, m2, m3, m4, m5] i)) 6 by unfold castF; rw [ha]; rfl)
    have E2 := Lib.hid (show castS [m0, m1, m2, m3, m4, m5] = hexTo (fun i => secondB (nth [m0, m1, m2, m3, m4, m5] i)) 6 by unfold castS; rw [ha]; rfl)
    have E3 := Lib.hid (show castE [m0, m1, m2, m3, m4, m5] = 0 by unfold castE; rw [ha]; rfl)
    clear ha
    go_enter Tryz.func23, Tryz.ntmps23
    go_wp2
    generalize hW : (w.alloc (.cells (arr [m0, m1, m2, m3, m4, m5]) 56)) = W at HM hB0
    clear hW
    have hr : Reads W (some ⟨w.heap.size, 0, none⟩) [m0, m1, m2, m3, m4, m5] := HM.out.reads
    go_region_held3 (fun w' => Below W.heap.size W w')
      (first | exact (Below.refl _ _).drew | assumption | exact tr (Below.drew (Below.refl W.heap.size W)) hbk | exact tr (by assumption) hbk)
      (first
        | (go_at_call 31; refine (outside_cI 6 9 _).mono ?_; rintro e w' ⟨a, b, rfl, ha, hb, hbk⟩)
        | (go_at_call 30; refine (containsFunc_outsideI 6 9 a b _ ha hb _ [m0, m1, m2, m3, m4, m5] 6 (by simp) ?hx).mono ?_; (case hx => exact hr.below (tr (Below.drew (Below.refl W.heap.size W)) hbk) (Nat.le_refl _)); rintro e w' ⟨rfl, rfl⟩; rw [HA.out]))
    rename_i hh
    have HM2 := Lib.hid (HM.out.below hh HM.out.lt)
    have hb5 := hB0.trans (hh.mono hB0.size)
    clear hbk ha hb hr hh
    go_wp2_with fail
    refine (hexagram_cast1 _ (fun i => firstB (nth [m0, m1, m2, m3, m4, m5] i)) _ (fun i q hi => ?_)).mono ?_
    · refine (cast1_any w.heap.size i [m0, m1, m2, m3, m4, m5] hi (w'.drewN q) (by show w'.cell? _ = _; rw [HM2.out.cell i, arr_get (by simpa using hi)])).mono ?_
      rintro e w'' ⟨rfl, rfl⟩
      exact ⟨rfl, q, rfl⟩
    · rintro e w'' ⟨rfl, r, rfl⟩
      go_wp2_with fail
      refine (hexagram_cast2 _ (fun i => secondB (nth [m0, m1, m2, m3, m4, m5] i)) _ (fun i q hi => ?_)).mono ?_
      · refine (cast2_any w.heap.size i [m0, m1, m2, m3, m4, m5] hi ((w'.drewN r).drewN q) (by show w'.cell? _ = _; rw [HM2.out.cell i, arr_get (by simpa using hi)])).mono ?_
        rintro e w'' ⟨rfl, rfl⟩
        exact ⟨rfl, q, rfl⟩
      · rintro e w'' ⟨rfl, r2, rfl⟩
        go_wp2
        refine bodyPost_ret (v := .tuple #[.int .i64 (hexTo (fun i => firstB (nth [m0, m1, m2, m3, m4, m5] i)) 6), .int .i64 (hexTo (fun i => secondB (nth [m0, m1, m2, m3, m4, m5] i)) 6), .int .i64 0]) (by simp [results, Tryz.results23, go_sem]) rfl ⟨by rw [E1.out, E2.out, E3.out], below_drewN hb5 (r + r2)⟩
  · have HA := Lib.hid ha
    have E1 := Lib.hid (show castF [m0, m1, m2, m3, m4, m5] = 0 by unfold castF; rw [ha]; rfl)
    have E2 := Lib.hid (show castS [m0, m1, m2, m3, m4, m5] = 0 by unfold castS; rw [ha]; rfl)
    have E3 := Lib.hid (show castE [m0, m1, m2, m3, m4, m5] = 2 by unfold castE; rw [ha]; rfl)
    clear ha
    go_enter Tryz.func23, Tryz.ntmps23
    go_wp2
    generalize hW : (w.alloc (.cells (arr [m0, m1, m2, m3, m4, m5]) 56)) = W at HM hB0
    clear hW
    have hr : Reads W (some ⟨w.heap.size, 0, none⟩) [m0, m1, m2, m3, m4, m5] := HM.out.reads
    go_region_held3 (fun w' => Below W.heap.size W w')
      (first | exact (Below.refl _ _).drew | assumption | exact tr (Below.drew (Below.refl W.heap.size W)) hbk | exact tr (by assumption) hbk)
      (first
        | (go_at_call 31; refine (outside_cI 6 9 _).mono ?_; rintro e w' ⟨a, b, rfl, ha, hb, hbk⟩)
        | (go_at_call 30; refine (containsFunc_outsideI 6 9 a b _ ha hb _ [m0, m1, m2, m3, m4, m5] 6 (by simp) ?hx).mono ?_; (case hx => exact hr.below (tr (Below.drew (Below.refl W.heap.size W)) hbk) (Nat.le_refl _)); rintro e w' ⟨rfl, rfl⟩; rw [HA.out]))
    rename_i hh
    have hb5 := hB0.trans (hh.mono hB0.size)
    go_wp2
    refine bodyPost_ret (v := .tuple #[.int .i64 0, .int .i64 0, .int .i64 2]) (by simp [results, Tryz.results23, go_sem]) rfl ⟨by rw [E1.out, E2.out, E3.out], hb5⟩
end Go.Proofs.YtojlopfjhhiilaaGreatDoor
