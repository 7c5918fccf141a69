/-
  DERIVED. GIVEN WITH THE SEED: THE CARDS: each row of YtjhjgkocoghgfaaDoorRows.lean that lists a variable, with what it lists TIED to the program's text (the seventh form; the later family's looks); each row that meets fmt, with fmt's text TOLD by the authors' own Lean function (tested against real Go, not proved from fmt's source: count such statements apart). THE CARD IS WHAT COUNTS. Prove the row's statement (the work); the ties are given (YtjhjgkocoghgfaaDoorTie.lean); close each card by the builder's one call (the guide's Derived/Test/ToyasCard.lean, 'card_holds'). Laid BY PROGRAM, IN A SANDBOX (cutbox-door.mjs). By AI agents, Wed Nov 11 2026. No macro, syntax, notation, axiom, sorry.
-/
import Derived.Test.YtjhjgkocoghgfaaDoorRows
import GoSem.ClaimSeven
namespace Go.Proofs.YtjhjgkocoghgfaaDoor
namespace Rows

/-- THE TIED CARD OF 'astragallaw03.ShieldCopies'. -/
def shieldCopiesCard : Claim7 := { stood := { row := shieldCopiesRow, standIns := [], harness := (true, "4dccdccfd4e59213ba0ac15d99eff88d330becb3eea59337aab30b6643121f84"), looks := false }, kinds := [], alts := [], laidByText := true, laidKinds := [.data, .data], laidTests := true, laidLooks := .later }
def ShieldCopiesCardSaid : Prop := Claim7.holds Tryd.pinned (.plain (OpenSpec.ofChange shieldCopiesSpec)) shieldCopiesCard

/-- THE TIED CARD OF 'astragallaw03.ShieldCounts'. -/
def shieldCountsCard : Claim7 := { stood := { row := shieldCountsRow, standIns := [], harness := (true, "4dccdccfd4e59213ba0ac15d99eff88d330becb3eea59337aab30b6643121f84"), looks := false }, kinds := [], alts := [], laidByText := true, laidKinds := [.data, .data], laidTests := true, laidLooks := .later }
def ShieldCountsCardSaid : Prop := Claim7.holds Tryd.pinned (.plain (OpenSpec.ofChange shieldCountsSpec)) shieldCountsCard

/-- THE TIED CARD OF 'astragallaw03.ShieldFound'. -/
def shieldFoundCard : Claim7 := { stood := { row := shieldFoundRow, standIns := [], harness := (true, "4dccdccfd4e59213ba0ac15d99eff88d330becb3eea59337aab30b6643121f84"), looks := false }, kinds := [], alts := [], laidByText := true, laidKinds := [.data, .data], laidTests := true, laidLooks := .later }
def ShieldFoundCardSaid : Prop := Claim7.holds Tryd.pinned (.plain (OpenSpec.ofChange shieldFoundSpec)) shieldFoundCard

/-- THE TIED CARD OF 'astragallaw03.ShieldShares'. -/
def shieldSharesCard : Claim7 := { stood := { row := shieldSharesRow, standIns := [], harness := (true, "4dccdccfd4e59213ba0ac15d99eff88d330becb3eea59337aab30b6643121f84"), looks := false }, kinds := [], alts := [], laidByText := true, laidKinds := [.data, .data], laidTests := true, laidLooks := .later }
def ShieldSharesCardSaid : Prop := Claim7.holds Tryd.pinned (.plain (OpenSpec.ofChange shieldSharesSpec)) shieldSharesCard

/-- THE SECOND FORM's CARD OF 'astragallaw03.ShieldCopies'. -/
def shieldCopiesUptoCard : Claim7 := { stood := { row := shieldCopiesUptoRow, standIns := [], harness := (true, "4dccdccfd4e59213ba0ac15d99eff88d330becb3eea59337aab30b6643121f84"), looks := false }, kinds := [], alts := [], laidByText := true, laidKinds := [.data, .data], laidTests := true, laidLooks := .later }
def ShieldCopiesUptoCardSaid : Prop := Claim7.holds Tryd.pinned (.plain (OpenSpec.upto shieldCopiesSpec)) shieldCopiesUptoCard

/-- THE SECOND FORM's CARD OF 'astragallaw03.ShieldCounts'. -/
def shieldCountsUptoCard : Claim7 := { stood := { row := shieldCountsUptoRow, standIns := [], harness := (true, "4dccdccfd4e59213ba0ac15d99eff88d330becb3eea59337aab30b6643121f84"), looks := false }, kinds := [], alts := [], laidByText := true, laidKinds := [.data, .data], laidTests := true, laidLooks := .later }
def ShieldCountsUptoCardSaid : Prop := Claim7.holds Tryd.pinned (.plain (OpenSpec.upto shieldCountsSpec)) shieldCountsUptoCard

/-- THE SECOND FORM's CARD OF 'astragallaw03.ShieldFound'. -/
def shieldFoundUptoCard : Claim7 := { stood := { row := shieldFoundUptoRow, standIns := [], harness := (true, "4dccdccfd4e59213ba0ac15d99eff88d330becb3eea59337aab30b6643121f84"), looks := false }, kinds := [], alts := [], laidByText := true, laidKinds := [.data, .data], laidTests := true, laidLooks := .later }
def ShieldFoundUptoCardSaid : Prop := Claim7.holds Tryd.pinned (.plain (OpenSpec.upto shieldFoundSpec)) shieldFoundUptoCard

/-- THE SECOND FORM's CARD OF 'astragallaw03.ShieldShares'. -/
def shieldSharesUptoCard : Claim7 := { stood := { row := shieldSharesUptoRow, standIns := [], harness := (true, "4dccdccfd4e59213ba0ac15d99eff88d330becb3eea59337aab30b6643121f84"), looks := false }, kinds := [], alts := [], laidByText := true, laidKinds := [.data, .data], laidTests := true, laidLooks := .later }
def ShieldSharesUptoCardSaid : Prop := Claim7.holds Tryd.pinned (.plain (OpenSpec.upto shieldSharesSpec)) shieldSharesUptoCard
end Rows
end Go.Proofs.YtjhjgkocoghgfaaDoor
