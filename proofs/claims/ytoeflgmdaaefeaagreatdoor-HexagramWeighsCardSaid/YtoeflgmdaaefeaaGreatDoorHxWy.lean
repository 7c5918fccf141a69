/-
  HexagramWeighs: the walk of the law.
-/
import Derived.Test.YtoeflgmdaaefeaaGreatDoorHxWt
import Derived.Test.YtoeflgmdaaefeaaGreatDoorHxWu
import Derived.Test.YtoeflgmdaaefeaaGreatDoorHxWv
import Derived.Test.YtoeflgmdaaefeaaGreatDoorHxWx
import Derived.Test.YtoeflgmdaaefeaaGreatDoorHxWm
import Derived.Test.YtoeflgmdaaefeaaGreatDoorHxWn
import Derived.Test.YtoeflgmdaaefeaaGreatDoorHxW
namespace Go.Proofs.YtoeflgmdaaefeaaGreatDoor
open Go Go.RowKit
set_option linter.unusedVariables false

theorem low_len {L : List Int} {n : Nat} (h : L.length = n) : (low L).length = n := by unfold low; simpa using h
theorem mid_all {L : List Int} {n : Nat} (h : Mid L) (hn : L.length = n) : ∀ k, k < n → 0 ≤ nth L k ∧ nth L k ≤ 9000000000000000000 := fun k hk => by
  have := h k (by omega)
  omega

theorem same_refl (p : Option Addr) (xs : List Int) (n c : Nat) (q : Option Addr) (d : Nat) (w : World) (hx : Hid (xs.length = n)) (hl : n ≤ 1000000) (hX : Reads w p xs) (hY : Reads w q xs) :
    Calls Tryz.prog 10 #[.slice p n c, .slice q n d] w fun e w' => e = .returned (.bool true) ∧ Below w.heap.size w w' :=
  (same_any p xs n c q xs n d w hx hx hl hX hY).mono fun e w' ⟨he, r, hw⟩ => ⟨by rw [he, decide_eq_true rfl], hw ▸ below_drewN (Below.refl _ _) r⟩

set_option maxRecDepth 100000 in
set_option maxHeartbeats 4000000 in
theorem weighs_ok (p : Option Addr) (W : List Int) (n c : Nat) (w : World) (hn : Hid (W.length = n)) (h30 : n ≤ 30) (hC : Hid (Came w p W c)) (hE : Hid (linesE W = 0)) (hs : Src w) (hf : Fst w) :
    Calls Tryz.prog 4 #[.slice p n c] w fun e w' => e = .returned (.bool true) ∧ Below w.heap.size w w' := by
  have hW := fit_of hE.out
  obtain ⟨LP, hLP⟩ : ∃ L, pairsTo W (64 * 64) = L := ⟨_, rfl⟩
  obtain ⟨LF, hLF⟩ : ∃ L, weighTo W figuresP 64 (64 * 64) = L := ⟨_, rfl⟩
  obtain ⟨LM, hLM⟩ : ∃ L, weighTo W movingP 7 (64 * 64) = L := ⟨_, rfl⟩
  have PF := Lib.hid (show ∀ m : Nat, m = 64 * 64 → weighTo W figuresP 64 m = LF from fun m e => by rw [e]; exact hLF)
  have PP := Lib.hid (show ∀ m : Nat, m = 64 * 64 → weighTo W changesP 4096 m = LP from fun m e => by rw [e]; exact hLP)
  have PM := Lib.hid (show ∀ m : Nat, m = 64 * 64 → weighTo W movingP 7 m = LM from fun m e => by rw [e]; exact hLM)
  have QP := Lib.hid (show ∀ m : Nat, m = 64 * 64 → refTo W m m = LP from fun m e => by rw [ref_all W e, e]; exact hLP)
  have QF := Lib.hid (show ∀ m : Nat, m = 64 * 64 → figTo LP m = LF from fun m e => by rw [← hLP, ← hLF, e]; exact figures_scatter W (Nat.le_refl _))
  have QM := Lib.hid (show ∀ m : Nat, m = 64 * 64 → movTo LP m = LM from fun m e => by rw [← hLP, ← hLM, e]; exact moving_scatter W rfl (Nat.le_refl _))
  have lP := Lib.hid (show LP.length = 4096 by rw [← hLP]; exact pairs_length ..)
  have lF := Lib.hid (show LF.length = 64 by rw [← hLF]; exact weighTo_length ..)
  have lM := Lib.hid (show LM.length = 7 by rw [← hLM]; exact weighTo_length ..)
  have mP := Lib.hid (show Mid LP by rw [← hLP]; exact weighTo_mid hW _ _ _ (by omega))
  have mF := Lib.hid (show Mid LF by rw [← hLF]; exact weighTo_mid hW _ _ _ (by omega))
  have mM := Lib.hid (show Mid LM by rw [← hLM]; exact weighTo_mid hW _ _ _ (by omega))
  have gP := Lib.hid (show 1 ≤ gcdl LP by rw [← hLP]; exact weigh_gcd hE.out rfl fun x y hx hy => changesP_bd hx hy)
  have gF := Lib.hid (show 1 ≤ gcdl LF by rw [← hLF]; exact weigh_gcd hE.out rfl fun x y hx hy => figuresP_bd hx hy)
  have gM := Lib.hid (show 1 ≤ gcdl LM by rw [← hLM]; exact weigh_gcd hE.out rfl fun x y hx hy => movingP_bd hx hy)
  have bP := Lib.hid (show ∀ k, 0 ≤ nth LP k ∧ nth LP k ≤ 995686217814016 from fun k => by rw [← hLP]; exact pairs_bd hW)
  have llP := Lib.hid (low_len lP.out)
  have llF := Lib.hid (low_len lF.out)
  have llM := Lib.hid (low_len lM.out)
  have h4 := Lib.hid (show (4096 : Nat) = 4096 from rfl)
  obtain ⟨KP, hKP⟩ : ∃ K, low LP = K := ⟨_, rfl⟩
  obtain ⟨KF, hKF⟩ : ∃ K, low LF = K := ⟨_, rfl⟩
  obtain ⟨KM, hKM⟩ : ∃ K, low LM = K := ⟨_, rfl⟩
  have I := fun (V : World) (hV : Came V p W c) => ints_any p W c V hV (by have := hn.out; omega)
  have F := fun (V : World) (q : Option Addr) (d : Nat) (h1 : Reads V q W) (h2 : n ≤ d) (h3 : d ≤ 9223372036854775807) => figures_ok q W n d V hn (by omega) h2 h3 h1 hE LF PF mF lF gF
  have G := fun (V : World) (q : Option Addr) (d : Nat) (h1 : Reads V q W) (h2 : n ≤ d) (h3 : d ≤ 9223372036854775807) => changes_ok q W n d V hn (by omega) h2 h3 h1 hE LP PP mP lP gP
  have M := fun (V : World) (q : Option Addr) (d : Nat) (h1 : Reads V q W) (h2 : n ≤ d) (h3 : d ≤ 9223372036854775807) => moving_ok q W n d V hn (by omega) h2 h3 h1 hE LM PM mM lM gM
  have R := fun (V : World) (h1 : Reads V p W) => refWeights_any p W n c V hn (by omega) h1
  have RC := fun (V : World) (h1 : Reads V p W) => refChanges_any p W n c V hn (by omega) hE h1 LP QP
  have RF := fun (V : World) (q : Option Addr) (d : Nat) (h1 : Reads V q LP) => refFigures_any q LP 4096 d V lP h4 bP h1 LF QF
  have RM := fun (V : World) (q : Option Addr) (d : Nat) (h1 : Reads V q LP) => refMoving_any q LP 4096 d V lP h4 bP h1 LM QM
  have LLP := fun (V : World) (q : Option Addr) (d : Nat) (h1 : Reads V q LP) => refLowest_any q LP 4096 d V lP (by omega) (Lib.hid (mid_all mP.out lP.out)) gP.out h1
  have LLF := fun (V : World) (q : Option Addr) (d : Nat) (h1 : Reads V q LF) => refLowest_any q LF 64 d V lF (by omega) (Lib.hid (mid_all mF.out lF.out)) gF.out h1
  have LLM := fun (V : World) (q : Option Addr) (d : Nat) (h1 : Reads V q LM) => refLowest_any q LM 7 d V lM (by omega) (Lib.hid (mid_all mM.out lM.out)) gM.out h1
  rw [hn.out] at I
  rw [hKF] at F LLF llF
  rw [hKP] at G LLP llP
  rw [hKM] at M LLM llM
  rw [hE.out] at R
  clear PF PP PM QP QF QM mP mF mM gP gF gM bP hLP hLF hLM hKP hKF hKM hW
  have h30i : (n : Int) ≤ 30 := by omega
  go_enter Tryz.func4, Tryz.ntmps4
  go_wp2_with fail
  refine (I _ hC.out).mono ?_
  rintro e w1 ⟨⟨q1, c1, rfl, hr1, hc1, hc1'⟩, hb1⟩
  clear I
  go_wp2_with fail
  refine (F _ q1 c1 hr1 hc1 hc1').mono ?_
  rintro e w2 ⟨g2, ⟨rfl, hr2⟩, hb2⟩
  have hr1b := hr1.below hb2 (Nat.le_refl _)
  have hb3 := tr hb1 hb2
  clear F hr1 hb1 hb2
  go_wp2_with fail
  refine (G _ q1 c1 hr1b hc1 hc1').mono ?_
  rintro e w4 ⟨g4, ⟨rfl, hr4⟩, hb4⟩
  have hr1c := hr1b.below hb4 (Nat.le_refl _)
  have hr2c := hr2.below hb4 (Nat.le_refl _)
  have hb5 := tr hb3 hb4
  clear G hr1b hr2 hb3 hb4
  go_wp2_with fail
  refine (M _ q1 c1 hr1c hc1 hc1').mono ?_
  rintro e w6 ⟨g6, ⟨rfl, hr6⟩, hb6⟩
  have hr1d := hr1c.below hb6 (Nat.le_refl _)
  have hr2d := hr2c.below hb6 (Nat.le_refl _)
  have hr4d := hr4.below hb6 (Nat.le_refl _)
  have hb7 := tr hb5 hb6
  clear M hr1c hr2c hr4 hb5 hb6
  go_wp2_with fail
  refine (same_refl q1 W n c1 p c _ hn (by omega) hr1d (hC.out.below hb7 (Nat.le_refl _)).2.1).mono ?_
  rintro e w8 ⟨rfl, hb8⟩
  have hr2e := hr2d.below hb8 (Nat.le_refl _)
  have hr4e := hr4d.below hb8 (Nat.le_refl _)
  have hr6e := hr6.below hb8 (Nat.le_refl _)
  have hb9 := tr hb7 hb8
  clear hr1d hr2d hr4d hr6 hb7 hb8
  go_wp2_with fail
  refine (R _ (hC.out.below hb9 (Nat.le_refl _)).2.1).mono ?_
  rintro e w9 ⟨rfl, rfl⟩
  clear R
  go_wp2_with fail
  refine (RC _ (hC.out.below hb9 (Nat.le_refl _)).2.1).mono ?_
  rintro e w10 ⟨g10, ⟨rfl, hr10⟩, hb10⟩
  have hr2f := hr2e.below hb10 (Nat.le_refl _)
  have hr4f := hr4e.below hb10 (Nat.le_refl _)
  have hr6f := hr6e.below hb10 (Nat.le_refl _)
  have hb11 := tr hb9 hb10
  clear RC hr2e hr4e hr6e hb9 hb10
  go_wp2_with fail
  refine (RF _ _ _ hr10).mono ?_
  rintro e w12 ⟨g12, ⟨rfl, hr12⟩, hb12⟩
  have hr2g := hr2f.below hb12 (Nat.le_refl _)
  have hr4g := hr4f.below hb12 (Nat.le_refl _)
  have hr6g := hr6f.below hb12 (Nat.le_refl _)
  have hr10g := hr10.below hb12 (Nat.le_refl _)
  have hb13 := tr hb11 hb12
  clear RF hr2f hr4f hr6f hr10 hb11 hb12
  go_wp2_with fail
  refine (LLF _ _ _ hr12).mono ?_
  rintro e w14 ⟨⟨q14, c14, rfl, hr14⟩, hb14⟩
  have hr2h := hr2g.below hb14 (Nat.le_refl _)
  have hr4h := hr4g.below hb14 (Nat.le_refl _)
  have hr6h := hr6g.below hb14 (Nat.le_refl _)
  have hr10h := hr10g.below hb14 (Nat.le_refl _)
  have hb15 := tr hb13 hb14
  clear LLF hr2g hr4g hr6g hr10g hr12 hb13 hb14
  go_wp2_with fail
  refine (same_refl _ KF 64 _ _ _ _ llF (by omega) hr2h hr14).mono ?_
  rintro e w16 ⟨rfl, hb16⟩
  have hr4i := hr4h.below hb16 (Nat.le_refl _)
  have hr6i := hr6h.below hb16 (Nat.le_refl _)
  have hr10i := hr10h.below hb16 (Nat.le_refl _)
  have hb17 := tr hb15 hb16
  clear hr2h hr4h hr6h hr10h hr14 hb15 hb16
  go_wp2_with fail
  refine (LLP _ _ _ hr10i).mono ?_
  rintro e w18 ⟨⟨q18, c18, rfl, hr18⟩, hb18⟩
  have hr4j := hr4i.below hb18 (Nat.le_refl _)
  have hr6j := hr6i.below hb18 (Nat.le_refl _)
  have hr10j := hr10i.below hb18 (Nat.le_refl _)
  have hb19 := tr hb17 hb18
  clear LLP hr4i hr6i hr10i hb17 hb18
  go_wp2_with fail
  refine (same_refl _ KP 4096 _ _ _ _ llP (by omega) hr4j hr18).mono ?_
  rintro e w20 ⟨rfl, hb20⟩
  have hr6k := hr6j.below hb20 (Nat.le_refl _)
  have hr10k := hr10j.below hb20 (Nat.le_refl _)
  have hb21 := tr hb19 hb20
  clear hr4j hr6j hr10j hr18 hb19 hb20
  go_wp2_with fail
  refine (RM _ _ _ hr10k).mono ?_
  rintro e w22 ⟨g22, ⟨rfl, hr22⟩, hb22⟩
  have hr6l := hr6k.below hb22 (Nat.le_refl _)
  have hb23 := tr hb21 hb22
  clear RM hr6k hr10k hb21 hb22
  go_wp2_with fail
  refine (LLM _ _ _ hr22).mono ?_
  rintro e w24 ⟨⟨q24, c24, rfl, hr24⟩, hb24⟩
  have hr6m := hr6l.below hb24 (Nat.le_refl _)
  have hb25 := tr hb23 hb24
  clear LLM hr6l hr22 hb23 hb24
  go_wp2_with fail
  refine (same_refl _ KM 7 _ _ _ _ llM (by omega) hr6m hr24).mono ?_
  rintro e w26 ⟨rfl, hb26⟩
  have hb27 := tr hb25 hb26
  clear hr6m hr24 hb25 hb26
  go_wp2_with fail
  refine (known_any _ (hs.below hb27 (Nat.le_refl _)) (hf.below hb27 (Nat.le_refl _))).mono ?_
  rintro e w28 ⟨rfl, hb28⟩
  go_wp2
  go_ret
  exact ⟨rfl, tr hb27 hb28⟩

set_option maxRecDepth 100000 in
set_option maxHeartbeats 4000000 in
theorem weighs_law (p : Option Addr) (W : List Int) (n c : Nat) (w : World) (hn : Hid (W.length = n)) (hC : Hid (Came w p W c)) (hs : Src w) (hf : Fst w) :
    Calls Tryz.prog 4 #[.slice p n c] w fun e w' => e = .returned (.bool true) ∧ Below w.heap.size w w' := by
  by_cases h30 : 30 < n
  · have h30i : (30 : Int) < (n : Int) := by omega
    go_enter Tryz.func4, Tryz.ntmps4
    go_wp2_with fail
    refine (known_any _ hs hf).mono ?_
    rintro e w1 ⟨rfl, hb⟩
    go_wp2
    go_ret
    exact ⟨rfl, hb⟩
  by_cases hE : linesE W = 0
  · exact weighs_ok p W n c w hn (by omega) hC (Lib.hid hE) hs hf
  obtain ⟨z, hz⟩ : ∃ z, linesE W = z := ⟨_, rfl⟩
  have HZ := Lib.hid hz
  rw [hz] at hE
  clear hz
  have h30i : (n : Int) ≤ 30 := by omega
  have I := fun (V : World) (hV : Came V p W c) => ints_any p W c V hV (by have := hn.out; omega)
  have F := fun (V : World) (q : Option Addr) (d : Nat) (h1 : Reads V q W) (h2 : n ≤ d) (h3 : d ≤ 9223372036854775807) => figures_bad q W n d V z hn (by omega) h2 h3 h1 HZ hE
  have G := fun (V : World) (q : Option Addr) (d : Nat) (h1 : Reads V q W) (h2 : n ≤ d) (h3 : d ≤ 9223372036854775807) => changes_bad q W n d V z hn (by omega) h2 h3 h1 HZ hE
  have M := fun (V : World) (q : Option Addr) (d : Nat) (h1 : Reads V q W) (h2 : n ≤ d) (h3 : d ≤ 9223372036854775807) => moving_bad q W n d V z hn (by omega) h2 h3 h1 HZ hE
  have R := fun (V : World) (h1 : Reads V p W) => refWeights_any p W n c V hn (by omega) h1
  rw [hn.out] at I
  rw [HZ.out] at R
  go_enter Tryz.func4, Tryz.ntmps4
  go_wp2_with fail
  refine (I _ hC.out).mono ?_
  rintro e w1 ⟨⟨q1, c1, rfl, hr1, hc1, hc1'⟩, hb1⟩
  clear I
  go_wp2_with fail
  refine (F _ q1 c1 hr1 hc1 hc1').mono ?_
  rintro e w2 ⟨rfl, hb2⟩
  have hr1b := hr1.below hb2 (Nat.le_refl _)
  have hb3 := tr hb1 hb2
  clear F hr1 hb1 hb2
  go_wp2_with fail
  refine (G _ q1 c1 hr1b hc1 hc1').mono ?_
  rintro e w4 ⟨rfl, hb4⟩
  have hr1c := hr1b.below hb4 (Nat.le_refl _)
  have hb5 := tr hb3 hb4
  clear G hr1b hb3 hb4
  go_wp2_with fail
  refine (M _ q1 c1 hr1c hc1 hc1').mono ?_
  rintro e w6 ⟨rfl, hb6⟩
  have hr1d := hr1c.below hb6 (Nat.le_refl _)
  have hb7 := tr hb5 hb6
  clear M hr1c hb5 hb6
  go_wp2_with fail
  refine (same_refl q1 W n c1 p c _ hn (by omega) hr1d (hC.out.below hb7 (Nat.le_refl _)).2.1).mono ?_
  rintro e w8 ⟨rfl, hb8⟩
  have hb9 := tr hb7 hb8
  clear hr1d hb7 hb8
  go_wp2_with fail
  refine (R _ (hC.out.below hb9 (Nat.le_refl _)).2.1).mono ?_
  rintro e w9 ⟨rfl, rfl⟩
  clear R
  go_wp2_with fail
  refine (known_any _ (hs.below hb9 (Nat.le_refl _)) (hf.below hb9 (Nat.le_refl _))).mono ?_
  rintro e w28 ⟨rfl, hb28⟩
  go_wp2
  go_ret
  exact ⟨rfl, tr hb9 hb28⟩
end Go.Proofs.YtoeflgmdaaefeaaGreatDoor
