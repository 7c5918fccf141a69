/-
  Package hexagram: Moving, Patterns, and what the document's examples say of all calls.
-/
import Derived.Test.YtojlopfjhhiilaaGreatDoorHxU
import Derived.Test.YtojlopfjhhiilaaGreatDoorHxN
import Derived.Test.YtojlopfjhhiilaaGreatDoorHxJ
namespace Go.Proofs.YtojlopfjhhiilaaGreatDoor
open Go Go.RowKit
set_option linter.unusedVariables false

set_option maxHeartbeats 800000 in
theorem same_any (p : Option Addr) (xs : List Int) (n c : Nat) (q : Option Addr) (ys : List Int) (m d : Nat) (w : World) (hx : Hid (xs.length = n)) (hy : Hid (ys.length = m)) (hl : n ≤ 1000000) (hX : Reads w p xs) (hY : Reads w q ys) :
    Calls Tryz.prog 10 #[.slice p n c, .slice q m d] w fun e w' => e = .returned (.bool (decide (xs = ys))) ∧ ∃ r, w' = w.drewN r := by
  by_cases hn : n = m
  · subst hn
    go_enter Tryz.func10, Tryz.ntmps10
    go_wp2
    go_loopw [5] (fun i wr => ∃ k : Nat, k ≤ n ∧ i = .int .i64 k ∧ Hid (∀ j, j < k → nth xs j = nth ys j) ∧ ∃ r, wr = w.drewN r) (fun i _ => n - (intOf i).toNat)
    case atStart => exact ⟨0, by omega, rfl, fun j hj => by omega, 0, rfl⟩
    case round =>
      obtain ⟨k, hk, rfl, HE, r, rfl⟩ := hrel
      by_cases hlt : k < n
      · obtain ⟨g, o, rfl, hcx⟩ := hX k (by have := hx.out; omega)
        obtain ⟨g', o', rfl, hcy⟩ := hY k (by have := hy.out; omega)
        by_cases hq : nth xs k = nth ys k
        · have e2 : decide (nth xs k = nth ys k) = true := by simp [hq]
          have e3 : (nth xs k != nth ys k) = false := by simp [hq]
          have HQ := Lib.hid hq
          clear hq
          go_wp2
          go_quiet (fail)
          go_wp2
          go_roundw
          case rel => exact ⟨k + 1, by omega, by go_num, fun j hj => by by_cases e : j = k; exact e ▸ HQ.out; exact HE.out j (by omega), _, rfl⟩
          case measure => simp [intOf]; omega
        · have e2 : decide (nth xs k = nth ys k) = false := by simp [hq]
          have e3 : (nth xs k != nth ys k) = true := by simp [hq]
          have HQ := Lib.hid hq
          clear hq
          go_wp2
          go_quiet (fail)
          go_wp2
          go_ret
          exact ⟨by have : xs ≠ ys := fun h => HQ.out (by rw [h]); simp [this], _, World.drewN_drewN ..⟩
      · obtain rfl : k = n := by omega
        go_wp2
        go_ret
        exact ⟨by have := List.ext_getElem (hx.out.trans hy.out.symm) (fun i h1 h2 => by have := HE.out i (by rw [← hx.out]; exact h1); rwa [nth_eq h1, nth_eq h2] at this); simp [this], r, rfl⟩
  · go_enter Tryz.func10, Tryz.ntmps10
    go_wp2
    go_ret
    exact ⟨by have : xs ≠ ys := fun h => hn (by rw [← hx.out, ← hy.out, h]); simp [this], 0, rfl⟩


/-- What Patterns returns. -/
def patternsL (set : Int) : List ByteArray := greatL set (upto id 729)
theorem readsS_of_owns {w : World} {B : Nat} {e : TypeId} {v : Value} {ss : List ByteArray} (h : w.ownsRow B e 1 v ss.length (ss.map Value.string)) : ∃ q c, v = .slice q ss.length c ∧ ReadsS w q ss := by
  have hc := fun g hg => h.cells (g := g) hg
  rcases h.2 with ⟨rfl, h0⟩ | ⟨g, cap, cur, rfl, _, _, _⟩
  · exact ⟨none, 0, by rw [h0], fun k hk => by omega⟩
  · refine ⟨_, cap, rfl, fun k hk => ⟨g, 0, rfl, ?_⟩⟩
    have := hc g rfl k (.string (nthS ss k)) (by rw [nthS_eq hk]; simp [hk])
    have e : (⟨g, 0, none⟩ : Addr).add k = ⟨g, 0 + k, none⟩ := by unfold Addr.add; split <;> simp_all
    rwa [e] at this
theorem patterns_any (set : Int) (w : World) (hf : Fst w) :
    Calls Tryz.prog 27 #[.int .u64 set] w fun e w' => ∃ q, (∃ c, e = .returned (.slice q (patternsL set).length c)) ∧ ReadsS w' q (patternsL set) ∧ Below w.heap.size w w' := by
  refine ((callsIn_wide (n := 4)).1 (patterns_in set w hf)).mono ?_
  rintro e w' ⟨v, rfl, hown, hb⟩
  obtain ⟨q, c, rfl, hr⟩ := readsS_of_owns hown
  exact ⟨q, ⟨c, rfl⟩, hr, hb⟩

set_option maxHeartbeats 1000000 in
theorem moving_ok (p : Option Addr) (W : List Int) (n c : Nat) (w : World) (hn : Hid (W.length = n)) (hl : n ≤ 1000000) (hc : n ≤ c) (hc2 : c ≤ 9223372036854775807) (hR : Reads w p W) (hE : Hid (linesE W = 0)) (L : List Int) (HL0 : Hid (∀ m : Nat, m = 64 * 64 → weighTo W movingP 7 m = L)) (HM : Hid (Mid L)) (HL : Hid (L.length = 7)) (hg : Hid (1 ≤ gcdl L)) :
    Calls Tryz.prog 25 #[.slice p n c] w fun e w' => ∃ g, (e = .returned (.tuple #[.slice (some ⟨g, 0, none⟩) 7 7, .int .i64 0]) ∧ Reads w' (some ⟨g, 0, none⟩) (low L)) ∧ Below w.heap.size w w' := by
  go_enter Tryz.func25, Tryz.ntmps25
  go_wp2_with fail
  refine (weigh_moving p W n c w hn hl hc hc2 hR hE L HL0 HM HL hg).mono ?_
  rintro e w' ⟨g, ⟨rfl, hrow⟩, hb⟩
  have hr := hrow.reads
  clear hrow
  go_wp2
  go_ret2
  exact ⟨g, ⟨rfl, hr⟩, hb⟩

/-- The weights of coins; what comes of them. -/
def coins : List Int := [0, 0, 0, 0, 0, 0, 1, 3, 3, 1]
def coinsL : List Int := [46656, 93312, 77760, 34560, 8640, 1152, 64]
def coinsM : List Int := [729, 1458, 1215, 540, 135, 18, 1]
set_option maxRecDepth 100000 in
theorem coins_is : weighTo coins movingP 7 4096 = coinsL := by decide +kernel
theorem coins_low : low coinsL = coinsM := by decide +kernel
theorem coins_gcd : 1 ≤ gcdl coinsL := by decide +kernel
theorem coins_mid : Mid coinsL := by unfold Mid; decide +kernel
theorem coins_ok : linesE coins = 0 := by decide +kernel
theorem k_cast : castF [7, 8, 9, 6, 7, 7] = 53 ∧ castS [7, 8, 9, 6, 7, 7] = 57 ∧ castE [7, 8, 9, 6, 7, 7] = 0 := by decide +kernel
theorem k_apply : applyR 53 [3] = 42 ∧ applyE 53 [3] = 0 := by decide +kernel
theorem k_chain : chainL 53 = [53, 42, 21] ∧ chainB 53 = 1 ∧ chkH [53] = 0 := by decide +kernel
theorem k_reach : reachTo 3 53 64 = [53, 43, 10, 20] := by decide +kernel
theorem k_sort : sortL [53, 43, 10, 20] = [10, 20, 43, 53] := sortL_eq (by decide) (by decide)
theorem k_orbit : orbitL 53 3 = [10, 20, 43, 53] ∧ orbitE 53 3 = 0 := by
  have e : orbitE 53 3 = 0 := by decide +kernel
  refine ⟨?_, e⟩
  unfold orbitL
  rw [if_pos e, k_reach, k_sort]
def firstP : ByteArray := ⟨#[49, 49, 49, 63, 63, 63]⟩
def secondP : ByteArray := ⟨#[63, 63, 63, 49, 49, 49]⟩
theorem k_whereE : whereE [firstP, secondP] = 0 := by decide +kernel
theorem k_where : (whereV [firstP, secondP] / 9223372036854775808 == 1) = true ∧ (bits BinOp.and IntKind.u64 (whereV [firstP, secondP] / 128) 1 == 1) = true ∧ (bits BinOp.and IntKind.u64 (whereV [firstP, secondP] / 64) 1 == 0) = true := by decide +kernel
def thirdP : ByteArray := ⟨#[49, 63, 48, 48, 48, 48]⟩
def fourthP : ByteArray := ⟨#[63, 48, 48, 48, 48, 48]⟩
theorem k_great : (upto id 729).filter (greatB 11) = [405, 486] := by decide +kernel
theorem k_patterns : patternsL 11 = [thirdP, fourthP] := by unfold patternsL greatL; rw [k_great]; rfl
end Go.Proofs.YtojlopfjhhiilaaGreatDoor
