/-
  HabitDecks: for all bytes (cards, the byte that says after how many draws the deck is whole again, casts), the function returns true and leaves both lists as they are. Nothing is asked of the input.
-/
import Derived.Test.YtahmhdjoaoldcaaHbBc
import Derived.WalkKit
import Derived.ProofKit
import Derived.OpenShut
import Derived.ChangeOld
import Derived.Below
namespace Go.Proofs.Ytahmhdjoaoldcaa
open Go.ChangeShapes Go.WideShapes Go.ChangeAt Go.RowKit
set_option linter.unusedVariables false

theorem decks_walk (pc : Option Addr) (cards : List Int) (cc : Nat) (after : Int) (pt : Option Addr) (casts : List Int) (ct : Nat) (w : World) (ha : 0 ≤ after) (ha2 : after ≤ 255)
    (hR : ReadsB w pc cards) (hB : Byte cards) (hRt : ReadsB w pt casts) (hBt : Byte casts) :
    Calls Try.prog 4 #[.slice pc cards.length cc, .int .u8 after, .slice pt casts.length ct] w fun e w' => e = .returned (.bool true) ∧ Below w.heap.size w w' := by
  obtain ⟨n, hn⟩ : ∃ n, cards.length = n := ⟨_, rfl⟩
  obtain ⟨nl, hnl⟩ : ∃ n, casts.length = n := ⟨_, rfl⟩
  rw [hn, hnl]
  by_cases h1 : n = 0
  · subst h1
    exact decks_out1 nl pc pt cc ct after w
  · by_cases h8 : 8 < n
    · exact decks_out2 n nl h8 pc pt cc ct after w
    · by_cases h100 : 100 < nl
      · exact decks_out3 n nl (by omega) (by omega) h100 pc pt cc ct after w
      · exact decks_ok pc cards n cc after pt casts nl ct w (Lib.hid hn) (Lib.hid hnl) (by omega) (by omega) (by omega) ha ha2 hR (Lib.hid hB) hRt (Lib.hid hBt)

theorem habitDecks_own : ownKnob Try.prog.godebug = none := by kernel_rfl
theorem habitDecks_laidOut : laidOutB Try.prog = true := by kernel_rfl

set_option maxRecDepth 100000 in
theorem habitDecks_lifted (os : Os) (started : os.Started) (H : Type) (enc : TypeId × Value → H) :
    ReturnsInHanded {} Try.checked os 4 .any (Rows.habitDecksSpec.pre6 enc Try.prog Try.f4 Rows.habitDecksRow.domain false) (Rows.habitDecksSpec.post enc Try.prog Try.f4 false true false false) := by
  refine returnsInHanded_of_change (C := Try.checked) habitDecks_own started (by kernel_rfl) Try.func4
    (ChangeSpec.witness6 (enc := enc) (C := Try.checked) false ⟨#[], #[.slice none 0 0, .int .u8 0, .slice none 0 0], []⟩ 8 (by kernel_rfl) (by kernel_rfl) (by kernel_rfl) (by kernel_rfl)) ?_
  intro W base args ds gs before hval0 hW hcnd _
  have hval : ∀ (j : Nat) t v, Try.f4.params[j]? = some t → args[j]? = some v → Value.okWide Try.prog W .any base t v := hval0
  have hW' := hW
  obtain ⟨p, q, hA0, hV, rfl, hfz, hnd⟩ := hW
  have hA : DataW.TrodAll enc Try.prog W 0 (fun _ => true) true Try.f4.params.toList args.toList ds p := hA0
  rw [Try.params4] at hA hval
  obtain ⟨v0, v1, v2, d0, d1, d2, p0, p1, p2, rfl, rfl, rfl, h0, h1, h2⟩ := trodAll_three hA
  obtain ⟨rfl, rfl⟩ := trodVars_none hV
  have lt0 : ∀ x ∈ p0, x.block < W.heap.size := by obtain ⟨m, hm⟩ := h0; exact DataW.trod_lt m _ _ _ hm
  have lt2 : ∀ x ∈ p2, x.block < W.heap.size := by obtain ⟨m, hm⟩ := h2; exact DataW.trod_lt m _ _ _ hm
  obtain ⟨a0, xs0, c0, rfl, hR0, hB0, _⟩ := came_open8 (hval 0 40 v0 rfl rfl) h0
  obtain ⟨a1, rfl, rfl, rfl, w1⟩ := open_int Try.underlying5 (hval 1 5 v1 rfl rfl) h1
  obtain ⟨a2, xs2, c2, rfl, hR2, hB2, _⟩ := came_open8 (hval 2 40 v2 rfl rfl) h2
  have hbd : ∀ a : Int, (Lit.int .u8 a).wf = true → 0 ≤ a ∧ a ≤ 255 := fun a h => by
    simp [Lit.wf, IntKind.min, IntKind.max, IntKind.signed, IntKind.bits] at h
    omega
  clear hA0 hval0
  refine (decks_walk a0 xs0 c0 a1 a2 xs2 c2 W (hbd _ w1).1 (hbd _ w1).2 hR0 hB0 hR2 hB2).mono fun e W' ⟨he, bel⟩ => ?_
  subst he
  exact ⟨_, rfl, _, _, _, [], _, [], hW', trodAll_mk1 (shut_bool Try.underlying4 _), (trodAll_cons_mk (Below.trod habitDecks_laidOut (by kernel_rfl) (of_decide_eq_true (by kernel_rfl)) h0 bel lt0) (trodAll_cons_mk (shut_int Try.underlying5 w1) (trodAll_cons_mk (Below.trod habitDecks_laidOut (by kernel_rfl) (of_decide_eq_true (by kernel_rfl)) h2 bel lt2) trodAll_mk0))), rfl, bel.frame _, fun h => by cases h⟩

theorem habitDecks_holds : Rows.HabitDecksSaid :=
  OpenClaim.holds_of_wide 4 Try.f4 rfl rfl rfl rfl rfl rfl rfl ⟨rfl, rfl, rfl, rfl, rfl⟩ rfl rfl rfl rfl rfl (by kernel_rfl) Try.func4 (by kernel_rfl)
    (of_decide_eq_true (by kernel_rfl)) (by unfold Func.isWrapper; first | (rw [if_pos (by decide +kernel)]; kernel_rfl) | (rw [if_neg (by decide +kernel)]; exact ⟨rfl, rfl⟩))
    (fun os started H enc _ => habitDecks_lifted os started H enc)
end Go.Proofs.Ytahmhdjoaoldcaa
