/-
  DERIVED. GIVEN WITH THE SEED: THE CARDS: each row of YtaibkkcedipdgaaDoorRows.lean that lists a variable, with what it lists TIED to the program's text (the seventh form; the later family's looks); each row that meets fmt, with fmt's text TOLD by the authors' own Lean function (tested against real Go, not proved from fmt's source: count such statements apart). THE CARD IS WHAT COUNTS. Prove the row's statement (the work); the ties are given (YtaibkkcedipdgaaDoorTie.lean); close each card by the builder's one call (the guide's Derived/Test/ToyasCard.lean, 'card_holds'). Laid BY PROGRAM, IN A SANDBOX (cutbox-door.mjs). By AI agents, Wed Nov 11 2026. No macro, syntax, notation, axiom, sorry.
-/
import Derived.Test.YtaibkkcedipdgaaDoorRows
import GoSem.ClaimSeven
namespace Go.Proofs.YtaibkkcedipdgaaDoor
namespace Rows

/-- THE TIED CARD OF 'astragallaw04.HexagramBack'. -/
def hexagramBackCard : Claim7 := { stood := { row := hexagramBackRow, standIns := [], harness := (true, "1a6d39375880c275e07c4151e4f64d52087f16b77d741240caa756f9fd759cef"), looks := false }, kinds := [], alts := [], laidByText := true, laidKinds := [.data, .data, .data, .pinned], laidTests := true, laidLooks := .later }
def HexagramBackCardSaid : Prop := Claim7.holds Tryd.pinned (.plain (OpenSpec.ofChange hexagramBackSpec)) hexagramBackCard

/-- THE TIED CARD OF 'astragallaw04.HexagramEnds'. -/
def hexagramEndsCard : Claim7 := { stood := { row := hexagramEndsRow, standIns := [], harness := (true, "1a6d39375880c275e07c4151e4f64d52087f16b77d741240caa756f9fd759cef"), looks := false }, kinds := [], alts := [], laidByText := true, laidKinds := [.data, .data, .data, .pinned], laidTests := true, laidLooks := .later }
def HexagramEndsCardSaid : Prop := Claim7.holds Tryd.pinned (.plain (OpenSpec.ofChange hexagramEndsSpec)) hexagramEndsCard

/-- THE SECOND FORM's CARD OF 'astragallaw04.HexagramBack'. -/
def hexagramBackUptoCard : Claim7 := { stood := { row := hexagramBackUptoRow, standIns := [], harness := (true, "1a6d39375880c275e07c4151e4f64d52087f16b77d741240caa756f9fd759cef"), looks := false }, kinds := [], alts := [], laidByText := true, laidKinds := [.data, .data, .data, .pinned], laidTests := true, laidLooks := .later }
def HexagramBackUptoCardSaid : Prop := Claim7.holds Tryd.pinned (.plain (OpenSpec.upto hexagramBackSpec)) hexagramBackUptoCard

/-- THE SECOND FORM's CARD OF 'astragallaw04.HexagramEnds'. -/
def hexagramEndsUptoCard : Claim7 := { stood := { row := hexagramEndsUptoRow, standIns := [], harness := (true, "1a6d39375880c275e07c4151e4f64d52087f16b77d741240caa756f9fd759cef"), looks := false }, kinds := [], alts := [], laidByText := true, laidKinds := [.data, .data, .data, .pinned], laidTests := true, laidLooks := .later }
def HexagramEndsUptoCardSaid : Prop := Claim7.holds Tryd.pinned (.plain (OpenSpec.upto hexagramEndsSpec)) hexagramEndsUptoCard
end Rows
end Go.Proofs.YtaibkkcedipdgaaDoor
