/-
  NARROWER THAN 'FOR EVERY INPUT', by the rows' own cells (each row's printed sentence says how): HouseSingles: laid · HouseTies: laid · HouseBoth: laid · HouseTurned: laid · HousePartners: laid.
  DERIVED. THE GIVEN ROWS OF THIS SEAT. 5 by the template 'for every input the law returns true; each argument reads behind the call as it read before'; 0 by the template 'total and deterministic' (their statements: YtdnccdobnhbpeaaDoorTotals.lean).
  GIVEN WITH THE SEED: the statements are not yours to turn. If you find one false, say at which input.
  Laid BY PROGRAM, IN A SANDBOX (cutbox-rows.mjs): the forced cells as the released guide's own fill.sh prints them over the translation 855c59ebea6420a6… (all of the seat's roots in one cut). By AI agents, Wed Nov 11 2026. No macro, syntax, notation, axiom, sorry.
-/
import Derived.Test.YtdnccdobnhbpeaaDoorChecked
import GoSem.Claim
import GoSem.ClaimJoined
import GoSem.ClaimMapViews
import Derived.JoinedTies
import Derived.KernelRfl
namespace Go.Proofs.YtdnccdobnhbpeaaDoor
/- THE CELL 'sum', in the pinned program and in every row, IS THE sha256 OF THE DUMP (.gsa) THAT YtdnccdobnhbpeaaDoorProg.lean LOADS. Nothing in Lean hashes anything: it is a label: what it is worth is what the hold of that sum in a sandbox is worth. -/
noncomputable def Tryd.pinned : Pinned := { name := "ytdnccdobnhbpeaadoor", sum := "855c59ebea6420a62492e76853ed1300f231a4b555465510abdaf31d421972a4", checked := Tryd.checked }
namespace Rows
def none {H : Type} : Left H := { results := [], args := [] }

/- WHAT THE LISTED PACKAGE-LEVEL VARIABLES READ AS WHEN THE CALL BEGINS. Each datum BY PROGRAM (the guide's laid-datum.mjs) off the statement by which the dump's own 'gosem.cut.vars' lays the variable. In a bare row this is a premise. The card (YtdnccdobnhbpeaaDoorCards.lean) ties it to the program's text. -/
def laid_astragal_house_rulers {H : Type} : DataW H := .agg [.lit (.int .i64 6), .lit (.int .i64 1), .lit (.int .i64 2), .lit (.int .i64 3), .lit (.int .i64 5), .lit (.int .i64 4), .lit (.int .i64 5), .lit (.int .i64 8), .lit (.int .i64 0), .lit (.int .i64 0), .lit (.int .i64 1), .lit (.int .i64 2), .lit (.int .i64 3), .lit (.int .i64 4), .lit (.int .i64 7), .lit (.int .i64 6)]

/-- 'astragallaw05.HouseSingles': WHATEVER THE INPUT: true; the input reads as it did. -/
def houseSinglesSpec : ChangeSpec := { name := "houseSingles", fn := fun _ => fun
  | [d1, d2] => { results := [.lit (.bool true)], args := [d1, d2] }
  | _ => none }
def houseSinglesRow : OpenClaim := { program := "ytdnccdobnhbpeaadoor", sum := "855c59ebea6420a62492e76853ed1300f231a4b555465510abdaf31d421972a4", func := "astragal/astragallaw05.HouseSingles", spec := "houseSingles", unfollowed := true, recurses := true, named := ["astragal/house.rulers"], apart := false, laid := [("astragal/house.rulers", laid_astragal_house_rulers)] }
def HouseSinglesSaid : Prop := houseSinglesRow.holds Tryd.pinned (OpenSpec.ofChange houseSinglesSpec)

/-- ITS FALSE NEIGHBOUR: 'it returns false'. Refute it at one input. -/
def houseSinglesWrong : ChangeSpec := { name := "houseSingles", fn := fun _ => fun
  | [d1, d2] => { results := [.lit (.bool false)], args := [d1, d2] }
  | _ => none }
def HouseSinglesWrongFalsely : Prop := houseSinglesRow.holds Tryd.pinned (OpenSpec.ofChange houseSinglesWrong)

/-- 'astragallaw05.HouseTies': WHATEVER THE INPUT: true; the input reads as it did. -/
def houseTiesSpec : ChangeSpec := { name := "houseTies", fn := fun _ => fun
  | [d1, d2, d3] => { results := [.lit (.bool true)], args := [d1, d2, d3] }
  | _ => none }
def houseTiesRow : OpenClaim := { program := "ytdnccdobnhbpeaadoor", sum := "855c59ebea6420a62492e76853ed1300f231a4b555465510abdaf31d421972a4", func := "astragal/astragallaw05.HouseTies", spec := "houseTies", unfollowed := true, recurses := true, named := ["astragal/house.rulers"], apart := false, laid := [("astragal/house.rulers", laid_astragal_house_rulers)] }
def HouseTiesSaid : Prop := houseTiesRow.holds Tryd.pinned (OpenSpec.ofChange houseTiesSpec)

/-- ITS FALSE NEIGHBOUR: 'it returns false'. Refute it at one input. -/
def houseTiesWrong : ChangeSpec := { name := "houseTies", fn := fun _ => fun
  | [d1, d2, d3] => { results := [.lit (.bool false)], args := [d1, d2, d3] }
  | _ => none }
def HouseTiesWrongFalsely : Prop := houseTiesRow.holds Tryd.pinned (OpenSpec.ofChange houseTiesWrong)

/-- 'astragallaw05.HouseBoth': WHATEVER THE INPUT: true; the input reads as it did. -/
def houseBothSpec : ChangeSpec := { name := "houseBoth", fn := fun _ => fun
  | [d] => { results := [.lit (.bool true)], args := [d] }
  | _ => none }
def houseBothRow : OpenClaim := { program := "ytdnccdobnhbpeaadoor", sum := "855c59ebea6420a62492e76853ed1300f231a4b555465510abdaf31d421972a4", func := "astragal/astragallaw05.HouseBoth", spec := "houseBoth", unfollowed := true, recurses := true, named := ["astragal/house.rulers"], apart := false, laid := [("astragal/house.rulers", laid_astragal_house_rulers)] }
def HouseBothSaid : Prop := houseBothRow.holds Tryd.pinned (OpenSpec.ofChange houseBothSpec)

/-- ITS FALSE NEIGHBOUR: 'it returns false'. Refute it at one input. -/
def houseBothWrong : ChangeSpec := { name := "houseBoth", fn := fun _ => fun
  | [d] => { results := [.lit (.bool false)], args := [d] }
  | _ => none }
def HouseBothWrongFalsely : Prop := houseBothRow.holds Tryd.pinned (OpenSpec.ofChange houseBothWrong)

/-- 'astragallaw05.HouseTurned': WHATEVER THE INPUT: true; the input reads as it did. -/
def houseTurnedSpec : ChangeSpec := { name := "houseTurned", fn := fun _ => fun
  | [d1, d2] => { results := [.lit (.bool true)], args := [d1, d2] }
  | _ => none }
def houseTurnedRow : OpenClaim := { program := "ytdnccdobnhbpeaadoor", sum := "855c59ebea6420a62492e76853ed1300f231a4b555465510abdaf31d421972a4", func := "astragal/astragallaw05.HouseTurned", spec := "houseTurned", unfollowed := true, recurses := true, named := ["astragal/house.rulers"], apart := false, laid := [("astragal/house.rulers", laid_astragal_house_rulers)] }
def HouseTurnedSaid : Prop := houseTurnedRow.holds Tryd.pinned (OpenSpec.ofChange houseTurnedSpec)

/-- ITS FALSE NEIGHBOUR: 'it returns false'. Refute it at one input. -/
def houseTurnedWrong : ChangeSpec := { name := "houseTurned", fn := fun _ => fun
  | [d1, d2] => { results := [.lit (.bool false)], args := [d1, d2] }
  | _ => none }
def HouseTurnedWrongFalsely : Prop := houseTurnedRow.holds Tryd.pinned (OpenSpec.ofChange houseTurnedWrong)

/-- 'astragallaw05.HousePartners': WHATEVER THE INPUT: true; the input reads as it did. -/
def housePartnersSpec : ChangeSpec := { name := "housePartners", fn := fun _ => fun
  | [d] => { results := [.lit (.bool true)], args := [d] }
  | _ => none }
def housePartnersRow : OpenClaim := { program := "ytdnccdobnhbpeaadoor", sum := "855c59ebea6420a62492e76853ed1300f231a4b555465510abdaf31d421972a4", func := "astragal/astragallaw05.HousePartners", spec := "housePartners", unfollowed := true, recurses := true, named := ["astragal/house.rulers"], apart := false, laid := [("astragal/house.rulers", laid_astragal_house_rulers)] }
def HousePartnersSaid : Prop := housePartnersRow.holds Tryd.pinned (OpenSpec.ofChange housePartnersSpec)

/-- ITS FALSE NEIGHBOUR: 'it returns false'. Refute it at one input. -/
def housePartnersWrong : ChangeSpec := { name := "housePartners", fn := fun _ => fun
  | [d] => { results := [.lit (.bool false)], args := [d] }
  | _ => none }
def HousePartnersWrongFalsely : Prop := housePartnersRow.holds Tryd.pinned (OpenSpec.ofChange housePartnersWrong)

/- THE SECOND FORM. 'bulk': how many values and letters a reading holds, each counted each time it is reached (what is shared counts as often as it is met; a slice's spare places count too). A statement '..UptoSaid' is the law's where the arguments, and the package variables that the reading takes, are together of bulk at most 1048576: NARROWER than '..Said'. Prove '..Said' where nothing that the law and all that it calls make is longer than what came in: it says more and counts as full. Else prove '..UptoSaid'. A law counts once. -/
mutual
def uptoBulk {H : Type} : DataW H → Nat
  | .lit (.string bytes) => bytes.length + 1
  | .lit _ => 1
  | .nil => 1
  | .ptr d => uptoBulk d + 1
  | .slice elems spare => uptoBulkAll elems + uptoBulkAll spare + 1
  | .agg parts => uptoBulkAll parts + 1
  | .iface _ d => uptoBulk d + 1
  | .map entries => uptoBulkEntries entries + 1
  | .held _ => 1
def uptoBulkAll {H : Type} : List (DataW H) → Nat
  | [] => 0
  | d :: r => uptoBulk d + uptoBulkAll r
def uptoBulkEntries {H : Type} : List (Lit × DataW H) → Nat
  | [] => 0
  | x :: r => uptoBulkEntry x + uptoBulkEntries r
def uptoBulkEntry {H : Type} : Lit × DataW H → Nat
  | (.string bytes, d) => bytes.length + uptoBulk d + 1
  | (_, d) => uptoBulk d + 1
 end
def uptoSmall : (H : Type) → List (DataW H) → Bool := fun _ ds => decide (uptoBulkAll ds ≤ 1048576)
def OpenSpec.upto (s : _root_.Go.ChangeSpec) : _root_.Go.OpenSpec := { _root_.Go.OpenSpec.ofChange s with cond := some uptoSmall }

/-- 'astragallaw05.HouseSingles', WHERE WHAT IT READS IS OF BULK AT MOST 1048576: true; the input reads as it did. -/
def houseSinglesUptoRow : OpenClaim := { program := "ytdnccdobnhbpeaadoor", sum := "855c59ebea6420a62492e76853ed1300f231a4b555465510abdaf31d421972a4", func := "astragal/astragallaw05.HouseSingles", spec := "houseSingles", unfollowed := true, recurses := true, named := ["astragal/house.rulers"], apart := false, laid := [("astragal/house.rulers", laid_astragal_house_rulers)], narrowed := true }
def HouseSinglesUptoSaid : Prop := houseSinglesUptoRow.holds Tryd.pinned (OpenSpec.upto houseSinglesSpec)

/-- 'astragallaw05.HouseTies', WHERE WHAT IT READS IS OF BULK AT MOST 1048576: true; the input reads as it did. -/
def houseTiesUptoRow : OpenClaim := { program := "ytdnccdobnhbpeaadoor", sum := "855c59ebea6420a62492e76853ed1300f231a4b555465510abdaf31d421972a4", func := "astragal/astragallaw05.HouseTies", spec := "houseTies", unfollowed := true, recurses := true, named := ["astragal/house.rulers"], apart := false, laid := [("astragal/house.rulers", laid_astragal_house_rulers)], narrowed := true }
def HouseTiesUptoSaid : Prop := houseTiesUptoRow.holds Tryd.pinned (OpenSpec.upto houseTiesSpec)

/-- 'astragallaw05.HouseBoth', WHERE WHAT IT READS IS OF BULK AT MOST 1048576: true; the input reads as it did. -/
def houseBothUptoRow : OpenClaim := { program := "ytdnccdobnhbpeaadoor", sum := "855c59ebea6420a62492e76853ed1300f231a4b555465510abdaf31d421972a4", func := "astragal/astragallaw05.HouseBoth", spec := "houseBoth", unfollowed := true, recurses := true, named := ["astragal/house.rulers"], apart := false, laid := [("astragal/house.rulers", laid_astragal_house_rulers)], narrowed := true }
def HouseBothUptoSaid : Prop := houseBothUptoRow.holds Tryd.pinned (OpenSpec.upto houseBothSpec)

/-- 'astragallaw05.HouseTurned', WHERE WHAT IT READS IS OF BULK AT MOST 1048576: true; the input reads as it did. -/
def houseTurnedUptoRow : OpenClaim := { program := "ytdnccdobnhbpeaadoor", sum := "855c59ebea6420a62492e76853ed1300f231a4b555465510abdaf31d421972a4", func := "astragal/astragallaw05.HouseTurned", spec := "houseTurned", unfollowed := true, recurses := true, named := ["astragal/house.rulers"], apart := false, laid := [("astragal/house.rulers", laid_astragal_house_rulers)], narrowed := true }
def HouseTurnedUptoSaid : Prop := houseTurnedUptoRow.holds Tryd.pinned (OpenSpec.upto houseTurnedSpec)

/-- 'astragallaw05.HousePartners', WHERE WHAT IT READS IS OF BULK AT MOST 1048576: true; the input reads as it did. -/
def housePartnersUptoRow : OpenClaim := { program := "ytdnccdobnhbpeaadoor", sum := "855c59ebea6420a62492e76853ed1300f231a4b555465510abdaf31d421972a4", func := "astragal/astragallaw05.HousePartners", spec := "housePartners", unfollowed := true, recurses := true, named := ["astragal/house.rulers"], apart := false, laid := [("astragal/house.rulers", laid_astragal_house_rulers)], narrowed := true }
def HousePartnersUptoSaid : Prop := housePartnersUptoRow.holds Tryd.pinned (OpenSpec.upto housePartnersSpec)

end Rows
end Go.Proofs.YtdnccdobnhbpeaaDoor
