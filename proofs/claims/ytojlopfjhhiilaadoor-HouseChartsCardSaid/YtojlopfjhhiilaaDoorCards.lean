/-
  DERIVED. GIVEN WITH THE SEED: THE CARDS: each row of YtojlopfjhhiilaaDoorRows.lean that lists a variable, with what it lists TIED to the program's text (the seventh form; the later family's looks); each row that meets fmt, with fmt's text TOLD by the authors' own Lean function (tested against real Go, not proved from fmt's source: count such statements apart). THE CARD IS WHAT COUNTS. Prove the row's statement (the work); the ties are given (YtojlopfjhhiilaaDoorTie.lean); close each card by the builder's one call (the guide's Derived/Test/ToyasCard.lean, 'card_holds'). Laid BY PROGRAM, IN A SANDBOX (cutbox-door.mjs). By AI agents, Wed Nov 11 2026. No macro, syntax, notation, axiom, sorry.
-/
import Derived.Test.YtojlopfjhhiilaaDoorRows
import GoSem.ClaimSeven
namespace Go.Proofs.YtojlopfjhhiilaaDoor
namespace Rows

/-- THE TIED CARD OF 'astragallaw05.HouseCharts'. -/
def houseChartsCard : Claim7 := { stood := { row := houseChartsRow, standIns := [], harness := (true, "8a8c4484d39cc00292ea0a2c6c6725c4e2a758490224b4cdae1e26d699e6655c"), looks := false }, kinds := [], alts := [], laidByText := true, laidKinds := [.data, .data], laidTests := true, laidLooks := .later }
def HouseChartsCardSaid : Prop := Claim7.holds Tryd.pinned (.plain (OpenSpec.ofChange houseChartsSpec)) houseChartsCard

/-- THE TIED CARD OF 'astragallaw05.HouseRulers'. -/
def houseRulersCard : Claim7 := { stood := { row := houseRulersRow, standIns := [], harness := (true, "8a8c4484d39cc00292ea0a2c6c6725c4e2a758490224b4cdae1e26d699e6655c"), looks := false }, kinds := [], alts := [], laidByText := true, laidKinds := [.data], laidTests := true, laidLooks := .later }
def HouseRulersCardSaid : Prop := Claim7.holds Tryd.pinned (.plain (OpenSpec.ofChange houseRulersSpec)) houseRulersCard

/-- THE TIED CARD OF 'astragallaw05.HouseSingles'. -/
def houseSinglesCard : Claim7 := { stood := { row := houseSinglesRow, standIns := [], harness := (true, "8a8c4484d39cc00292ea0a2c6c6725c4e2a758490224b4cdae1e26d699e6655c"), looks := false }, kinds := [], alts := [], laidByText := true, laidKinds := [.data], laidTests := true, laidLooks := .later }
def HouseSinglesCardSaid : Prop := Claim7.holds Tryd.pinned (.plain (OpenSpec.ofChange houseSinglesSpec)) houseSinglesCard

/-- THE TIED CARD OF 'astragallaw05.HouseFortunes'. -/
def houseFortunesCard : Claim7 := { stood := { row := houseFortunesRow, standIns := [], harness := (true, "8a8c4484d39cc00292ea0a2c6c6725c4e2a758490224b4cdae1e26d699e6655c"), looks := false }, kinds := [], alts := [], laidByText := true, laidKinds := [.data, .data], laidTests := true, laidLooks := .later }
def HouseFortunesCardSaid : Prop := Claim7.holds Tryd.pinned (.plain (OpenSpec.ofChange houseFortunesSpec)) houseFortunesCard

/-- THE SECOND FORM's CARD OF 'astragallaw05.HouseCharts'. -/
def houseChartsUptoCard : Claim7 := { stood := { row := houseChartsUptoRow, standIns := [], harness := (true, "8a8c4484d39cc00292ea0a2c6c6725c4e2a758490224b4cdae1e26d699e6655c"), looks := false }, kinds := [], alts := [], laidByText := true, laidKinds := [.data, .data], laidTests := true, laidLooks := .later }
def HouseChartsUptoCardSaid : Prop := Claim7.holds Tryd.pinned (.plain (OpenSpec.upto houseChartsSpec)) houseChartsUptoCard

/-- THE SECOND FORM's CARD OF 'astragallaw05.HouseRulers'. -/
def houseRulersUptoCard : Claim7 := { stood := { row := houseRulersUptoRow, standIns := [], harness := (true, "8a8c4484d39cc00292ea0a2c6c6725c4e2a758490224b4cdae1e26d699e6655c"), looks := false }, kinds := [], alts := [], laidByText := true, laidKinds := [.data], laidTests := true, laidLooks := .later }
def HouseRulersUptoCardSaid : Prop := Claim7.holds Tryd.pinned (.plain (OpenSpec.upto houseRulersSpec)) houseRulersUptoCard

/-- THE SECOND FORM's CARD OF 'astragallaw05.HouseSingles'. -/
def houseSinglesUptoCard : Claim7 := { stood := { row := houseSinglesUptoRow, standIns := [], harness := (true, "8a8c4484d39cc00292ea0a2c6c6725c4e2a758490224b4cdae1e26d699e6655c"), looks := false }, kinds := [], alts := [], laidByText := true, laidKinds := [.data], laidTests := true, laidLooks := .later }
def HouseSinglesUptoCardSaid : Prop := Claim7.holds Tryd.pinned (.plain (OpenSpec.upto houseSinglesSpec)) houseSinglesUptoCard

/-- THE SECOND FORM's CARD OF 'astragallaw05.HouseFortunes'. -/
def houseFortunesUptoCard : Claim7 := { stood := { row := houseFortunesUptoRow, standIns := [], harness := (true, "8a8c4484d39cc00292ea0a2c6c6725c4e2a758490224b4cdae1e26d699e6655c"), looks := false }, kinds := [], alts := [], laidByText := true, laidKinds := [.data, .data], laidTests := true, laidLooks := .later }
def HouseFortunesUptoCardSaid : Prop := Claim7.holds Tryd.pinned (.plain (OpenSpec.upto houseFortunesSpec)) houseFortunesUptoCard
end Rows
end Go.Proofs.YtojlopfjhhiilaaDoor
