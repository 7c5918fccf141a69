/-
  NARROWER THAN 'FOR EVERY INPUT', by the rows' own cells (each row's printed sentence says how): HouseCharts: laid · HouseRulers: laid · HouseSingles: laid · HouseFortunes: laid.
  DERIVED. THE GIVEN ROWS OF THIS SEAT. 4 by the template 'for every input the law returns true; each argument reads behind the call as it read before'; 0 by the template 'total and deterministic' (their statements: YtojlopfjhhiilaaDoorTotals.lean).
  GIVEN WITH THE SEED: the statements are not yours to turn. If you find one false, say at which input.
  Laid BY PROGRAM, IN A SANDBOX (cutbox-rows.mjs): the forced cells as the released guide's own fill.sh prints them over the translation f6733a003ea6366d… (all of the seat's roots in one cut). By AI agents, Wed Nov 11 2026. No macro, syntax, notation, axiom, sorry.
-/
import Derived.Test.YtojlopfjhhiilaaDoorChecked
import GoSem.Claim
import GoSem.ClaimJoined
import GoSem.ClaimMapViews
import Derived.JoinedTies
import Derived.KernelRfl
namespace Go.Proofs.YtojlopfjhhiilaaDoor
/- THE CELL 'sum', in the pinned program and in every row, IS THE sha256 OF THE DUMP (.gsa) THAT YtojlopfjhhiilaaDoorProg.lean LOADS. Nothing in Lean hashes anything: it is a label: what it is worth is what the hold of that sum in a sandbox is worth. -/
noncomputable def Tryd.pinned : Pinned := { name := "ytojlopfjhhiilaadoor", sum := "f6733a003ea6366dc70ac03024ebd66569fb470ed0e77e8df0361305d1febf0d", checked := Tryd.checked }
namespace Rows
def none {H : Type} : Left H := { results := [], args := [] }

/- WHAT THE LISTED PACKAGE-LEVEL VARIABLES READ AS WHEN THE CALL BEGINS. Each datum BY PROGRAM (the guide's laid-datum.mjs) off the statement by which the dump's own 'gosem.cut.vars' lays the variable. In a bare row this is a premise. The card (YtojlopfjhhiilaaDoorCards.lean) ties it to the program's text. -/
def laid_astragal_shield_parents {H : Type} : DataW H := .agg [.agg [.lit (.int .i64 0), .lit (.int .i64 1)], .agg [.lit (.int .i64 2), .lit (.int .i64 3)], .agg [.lit (.int .i64 4), .lit (.int .i64 5)], .agg [.lit (.int .i64 6), .lit (.int .i64 7)], .agg [.lit (.int .i64 8), .lit (.int .i64 9)], .agg [.lit (.int .i64 10), .lit (.int .i64 11)], .agg [.lit (.int .i64 12), .lit (.int .i64 13)], .agg [.lit (.int .i64 14), .lit (.int .i64 0)]]
def laid_astragal_house_rulers {H : Type} : DataW H := .agg [.lit (.int .i64 6), .lit (.int .i64 1), .lit (.int .i64 2), .lit (.int .i64 3), .lit (.int .i64 5), .lit (.int .i64 4), .lit (.int .i64 5), .lit (.int .i64 8), .lit (.int .i64 0), .lit (.int .i64 0), .lit (.int .i64 1), .lit (.int .i64 2), .lit (.int .i64 3), .lit (.int .i64 4), .lit (.int .i64 7), .lit (.int .i64 6)]

/-- 'astragallaw05.HouseCharts': WHATEVER THE INPUT: true; the input reads as it did. -/
def houseChartsSpec : ChangeSpec := { name := "houseCharts", fn := fun _ => fun
  | [d1, d2] => { results := [.lit (.bool true)], args := [d1, d2] }
  | _ => none }
def houseChartsRow : OpenClaim := { program := "ytojlopfjhhiilaadoor", sum := "f6733a003ea6366dc70ac03024ebd66569fb470ed0e77e8df0361305d1febf0d", func := "astragal/astragallaw05.HouseCharts", spec := "houseCharts", unfollowed := true, recurses := true, named := ["astragal/shield.parents", "astragal/house.rulers"], apart := false, laid := [("astragal/shield.parents", laid_astragal_shield_parents), ("astragal/house.rulers", laid_astragal_house_rulers)] }
def HouseChartsSaid : Prop := houseChartsRow.holds Tryd.pinned (OpenSpec.ofChange houseChartsSpec)

/-- ITS FALSE NEIGHBOUR: 'it returns false'. Refute it at one input. -/
def houseChartsWrong : ChangeSpec := { name := "houseCharts", fn := fun _ => fun
  | [d1, d2] => { results := [.lit (.bool false)], args := [d1, d2] }
  | _ => none }
def HouseChartsWrongFalsely : Prop := houseChartsRow.holds Tryd.pinned (OpenSpec.ofChange houseChartsWrong)

/-- 'astragallaw05.HouseRulers': WHATEVER THE INPUT: true; the input reads as it did. -/
def houseRulersSpec : ChangeSpec := { name := "houseRulers", fn := fun _ => fun
  | [d1, d2, d3] => { results := [.lit (.bool true)], args := [d1, d2, d3] }
  | _ => none }
def houseRulersRow : OpenClaim := { program := "ytojlopfjhhiilaadoor", sum := "f6733a003ea6366dc70ac03024ebd66569fb470ed0e77e8df0361305d1febf0d", func := "astragal/astragallaw05.HouseRulers", spec := "houseRulers", unfollowed := true, recurses := true, named := ["astragal/house.rulers"], apart := false, laid := [("astragal/house.rulers", laid_astragal_house_rulers)] }
def HouseRulersSaid : Prop := houseRulersRow.holds Tryd.pinned (OpenSpec.ofChange houseRulersSpec)

/-- ITS FALSE NEIGHBOUR: 'it returns false'. Refute it at one input. -/
def houseRulersWrong : ChangeSpec := { name := "houseRulers", fn := fun _ => fun
  | [d1, d2, d3] => { results := [.lit (.bool false)], args := [d1, d2, d3] }
  | _ => none }
def HouseRulersWrongFalsely : Prop := houseRulersRow.holds Tryd.pinned (OpenSpec.ofChange houseRulersWrong)

/-- 'astragallaw05.HouseSingles': WHATEVER THE INPUT: true; the input reads as it did. -/
def houseSinglesSpec : ChangeSpec := { name := "houseSingles", fn := fun _ => fun
  | [d1, d2] => { results := [.lit (.bool true)], args := [d1, d2] }
  | _ => none }
def houseSinglesRow : OpenClaim := { program := "ytojlopfjhhiilaadoor", sum := "f6733a003ea6366dc70ac03024ebd66569fb470ed0e77e8df0361305d1febf0d", func := "astragal/astragallaw05.HouseSingles", spec := "houseSingles", unfollowed := true, recurses := true, named := ["astragal/house.rulers"], apart := false, laid := [("astragal/house.rulers", laid_astragal_house_rulers)] }
def HouseSinglesSaid : Prop := houseSinglesRow.holds Tryd.pinned (OpenSpec.ofChange houseSinglesSpec)

/-- ITS FALSE NEIGHBOUR: 'it returns false'. Refute it at one input. -/
def houseSinglesWrong : ChangeSpec := { name := "houseSingles", fn := fun _ => fun
  | [d1, d2] => { results := [.lit (.bool false)], args := [d1, d2] }
  | _ => none }
def HouseSinglesWrongFalsely : Prop := houseSinglesRow.holds Tryd.pinned (OpenSpec.ofChange houseSinglesWrong)

/-- 'astragallaw05.HouseFortunes': WHATEVER THE INPUT: true; the input reads as it did. -/
def houseFortunesSpec : ChangeSpec := { name := "houseFortunes", fn := fun _ => fun
  | [d] => { results := [.lit (.bool true)], args := [d] }
  | _ => none }
def houseFortunesRow : OpenClaim := { program := "ytojlopfjhhiilaadoor", sum := "f6733a003ea6366dc70ac03024ebd66569fb470ed0e77e8df0361305d1febf0d", func := "astragal/astragallaw05.HouseFortunes", spec := "houseFortunes", unfollowed := true, recurses := true, named := ["astragal/shield.parents", "astragal/house.rulers"], apart := false, laid := [("astragal/shield.parents", laid_astragal_shield_parents), ("astragal/house.rulers", laid_astragal_house_rulers)] }
def HouseFortunesSaid : Prop := houseFortunesRow.holds Tryd.pinned (OpenSpec.ofChange houseFortunesSpec)

/-- ITS FALSE NEIGHBOUR: 'it returns false'. Refute it at one input. -/
def houseFortunesWrong : ChangeSpec := { name := "houseFortunes", fn := fun _ => fun
  | [d] => { results := [.lit (.bool false)], args := [d] }
  | _ => none }
def HouseFortunesWrongFalsely : Prop := houseFortunesRow.holds Tryd.pinned (OpenSpec.ofChange houseFortunesWrong)

/- THE SECOND FORM. 'bulk': how many values and letters a reading holds, each counted each time it is reached (what is shared counts as often as it is met; a slice's spare places count too). A statement '..UptoSaid' is the law's where the arguments, and the package variables that the reading takes, are together of bulk at most 1048576: NARROWER than '..Said'. Prove '..Said' where nothing that the law and all that it calls make is longer than what came in: it says more and counts as full. Else prove '..UptoSaid'. A law counts once. -/
mutual
def uptoBulk {H : Type} : DataW H → Nat
  | .lit (.string bytes) => bytes.length + 1
  | .lit _ => 1
  | .nil => 1
  | .ptr d => uptoBulk d + 1
  | .slice elems spare => uptoBulkAll elems + uptoBulkAll spare + 1
  | .agg parts => uptoBulkAll parts + 1
  | .iface _ d => uptoBulk d + 1
  | .map entries => uptoBulkEntries entries + 1
  | .held _ => 1
def uptoBulkAll {H : Type} : List (DataW H) → Nat
  | [] => 0
  | d :: r => uptoBulk d + uptoBulkAll r
def uptoBulkEntries {H : Type} : List (Lit × DataW H) → Nat
  | [] => 0
  | x :: r => uptoBulkEntry x + uptoBulkEntries r
def uptoBulkEntry {H : Type} : Lit × DataW H → Nat
  | (.string bytes, d) => bytes.length + uptoBulk d + 1
  | (_, d) => uptoBulk d + 1
 end
def uptoSmall : (H : Type) → List (DataW H) → Bool := fun _ ds => decide (uptoBulkAll ds ≤ 1048576)
def OpenSpec.upto (s : _root_.Go.ChangeSpec) : _root_.Go.OpenSpec := { _root_.Go.OpenSpec.ofChange s with cond := some uptoSmall }

/-- 'astragallaw05.HouseCharts', WHERE WHAT IT READS IS OF BULK AT MOST 1048576: true; the input reads as it did. -/
def houseChartsUptoRow : OpenClaim := { program := "ytojlopfjhhiilaadoor", sum := "f6733a003ea6366dc70ac03024ebd66569fb470ed0e77e8df0361305d1febf0d", func := "astragal/astragallaw05.HouseCharts", spec := "houseCharts", unfollowed := true, recurses := true, named := ["astragal/shield.parents", "astragal/house.rulers"], apart := false, laid := [("astragal/shield.parents", laid_astragal_shield_parents), ("astragal/house.rulers", laid_astragal_house_rulers)], narrowed := true }
def HouseChartsUptoSaid : Prop := houseChartsUptoRow.holds Tryd.pinned (OpenSpec.upto houseChartsSpec)

/-- 'astragallaw05.HouseRulers', WHERE WHAT IT READS IS OF BULK AT MOST 1048576: true; the input reads as it did. -/
def houseRulersUptoRow : OpenClaim := { program := "ytojlopfjhhiilaadoor", sum := "f6733a003ea6366dc70ac03024ebd66569fb470ed0e77e8df0361305d1febf0d", func := "astragal/astragallaw05.HouseRulers", spec := "houseRulers", unfollowed := true, recurses := true, named := ["astragal/house.rulers"], apart := false, laid := [("astragal/house.rulers", laid_astragal_house_rulers)], narrowed := true }
def HouseRulersUptoSaid : Prop := houseRulersUptoRow.holds Tryd.pinned (OpenSpec.upto houseRulersSpec)

/-- 'astragallaw05.HouseSingles', WHERE WHAT IT READS IS OF BULK AT MOST 1048576: true; the input reads as it did. -/
def houseSinglesUptoRow : OpenClaim := { program := "ytojlopfjhhiilaadoor", sum := "f6733a003ea6366dc70ac03024ebd66569fb470ed0e77e8df0361305d1febf0d", func := "astragal/astragallaw05.HouseSingles", spec := "houseSingles", unfollowed := true, recurses := true, named := ["astragal/house.rulers"], apart := false, laid := [("astragal/house.rulers", laid_astragal_house_rulers)], narrowed := true }
def HouseSinglesUptoSaid : Prop := houseSinglesUptoRow.holds Tryd.pinned (OpenSpec.upto houseSinglesSpec)

/-- 'astragallaw05.HouseFortunes', WHERE WHAT IT READS IS OF BULK AT MOST 1048576: true; the input reads as it did. -/
def houseFortunesUptoRow : OpenClaim := { program := "ytojlopfjhhiilaadoor", sum := "f6733a003ea6366dc70ac03024ebd66569fb470ed0e77e8df0361305d1febf0d", func := "astragal/astragallaw05.HouseFortunes", spec := "houseFortunes", unfollowed := true, recurses := true, named := ["astragal/shield.parents", "astragal/house.rulers"], apart := false, laid := [("astragal/shield.parents", laid_astragal_shield_parents), ("astragal/house.rulers", laid_astragal_house_rulers)], narrowed := true }
def HouseFortunesUptoSaid : Prop := houseFortunesUptoRow.holds Tryd.pinned (OpenSpec.upto houseFortunesSpec)

end Rows
end Go.Proofs.YtojlopfjhhiilaaDoor
