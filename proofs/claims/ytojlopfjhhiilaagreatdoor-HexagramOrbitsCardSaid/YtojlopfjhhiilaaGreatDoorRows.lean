/-
  NARROWER THAN 'FOR EVERY INPUT', by the rows' own cells (each row's printed sentence says how): HexagramOrbits: laid · HexagramGroups: laid.
  DERIVED. THE GIVEN ROWS OF THIS SEAT. 2 by the template 'for every input the law returns true; each argument reads behind the call as it read before'; 0 by the template 'total and deterministic' (their statements: YtojlopfjhhiilaaGreatDoorTotals.lean).
  GIVEN WITH THE SEED: the statements are not yours to turn. If you find one false, say at which input.
  Laid BY PROGRAM, IN A SANDBOX (cutbox-rows.mjs): the forced cells as the released guide's own fill.sh prints them over the translation 0d7cdf63d839cdc8… (all of the seat's roots in one cut). By AI agents, Wed Nov 11 2026. No macro, syntax, notation, axiom, sorry.
-/
import Derived.Test.YtojlopfjhhiilaaGreatDoorChecked
import GoSem.PinnedTables
import GoSem.Claim
import GoSem.ClaimJoined
import GoSem.ClaimMapViews
import Derived.JoinedTies
import Derived.KernelRfl
namespace Go.Proofs.YtojlopfjhhiilaaGreatDoor
/- THE CELL 'sum', in the pinned program and in every row, IS THE sha256 OF THE DUMP (.gsa) THAT YtojlopfjhhiilaaGreatDoorProg.lean LOADS. Nothing in Lean hashes anything: it is a label: what it is worth is what the hold of that sum in a sandbox is worth. -/
noncomputable def Tryz.pinned : Pinned := { name := "ytojlopfjhhiilaagreatdoor", sum := "0d7cdf63d839cdc80e1ede49284b83f0d64e7415c7cc0d923ce0a9b334d52fc9", checked := Tryz.checked }
namespace Rows
def none {H : Type} : Left H := { results := [], args := [] }

/- WHAT THE LISTED PACKAGE-LEVEL VARIABLES READ AS WHEN THE CALL BEGINS. Each datum BY PROGRAM (the guide's laid-datum.mjs) off the statement by which the dump's own 'gosem.cut.vars' lays the variable. In a bare row this is a premise. The card (YtojlopfjhhiilaaGreatDoorCards.lean) ties it to the program's text. -/
def laid_unicode_utf8_acceptRanges {H : Type} : DataW H := .agg [.agg [.lit (.int .u8 128), .lit (.int .u8 191)], .agg [.lit (.int .u8 160), .lit (.int .u8 191)], .agg [.lit (.int .u8 128), .lit (.int .u8 159)], .agg [.lit (.int .u8 144), .lit (.int .u8 191)], .agg [.lit (.int .u8 128), .lit (.int .u8 143)], .agg [.lit (.int .u8 0), .lit (.int .u8 0)], .agg [.lit (.int .u8 0), .lit (.int .u8 0)], .agg [.lit (.int .u8 0), .lit (.int .u8 0)], .agg [.lit (.int .u8 0), .lit (.int .u8 0)], .agg [.lit (.int .u8 0), .lit (.int .u8 0)], .agg [.lit (.int .u8 0), .lit (.int .u8 0)], .agg [.lit (.int .u8 0), .lit (.int .u8 0)], .agg [.lit (.int .u8 0), .lit (.int .u8 0)], .agg [.lit (.int .u8 0), .lit (.int .u8 0)], .agg [.lit (.int .u8 0), .lit (.int .u8 0)], .agg [.lit (.int .u8 0), .lit (.int .u8 0)]]
def laid_astragal_hexagram_sources {H : Type} : DataW H := .agg [.agg [.lit (.int .i64 5), .lit (.int .i64 4), .lit (.int .i64 3), .lit (.int .i64 2), .lit (.int .i64 1), .lit (.int .i64 0)], .agg [.lit (.int .i64 0), .lit (.int .i64 1), .lit (.int .i64 2), .lit (.int .i64 3), .lit (.int .i64 4), .lit (.int .i64 5)], .agg [.lit (.int .i64 3), .lit (.int .i64 4), .lit (.int .i64 5), .lit (.int .i64 0), .lit (.int .i64 1), .lit (.int .i64 2)], .agg [.lit (.int .i64 1), .lit (.int .i64 2), .lit (.int .i64 3), .lit (.int .i64 2), .lit (.int .i64 3), .lit (.int .i64 4)]]
def laid_astragal_hexagram_firmSets {H : Type} : DataW H := .agg [.lit (.int .u64 12297829382473034410), .lit (.int .u64 14757395258967641292), .lit (.int .u64 17361641481138401520), .lit (.int .u64 18374966859414961920), .lit (.int .u64 18446462603027742720), .lit (.int .u64 18446744069414584320)]
/-- One of Go's own tables, pinned by name: the form's constant. -/
def laid_unicode_utf8_first : DataW Unit := Go.Pinned.utf8First

/-- 'astragallaw04.HexagramOrbits': WHATEVER THE INPUT: true; the input reads as it did. -/
def hexagramOrbitsSpec : ChangeSpec := { name := "hexagramOrbits", fn := fun _ => fun
  | [d1, d2] => { results := [.lit (.bool true)], args := [d1, d2] }
  | _ => none }
def hexagramOrbitsRow : OpenClaim := { program := "ytojlopfjhhiilaagreatdoor", sum := "0d7cdf63d839cdc80e1ede49284b83f0d64e7415c7cc0d923ce0a9b334d52fc9", func := "astragal/astragallaw04.HexagramOrbits", spec := "hexagramOrbits", inPlace := ["internal/bytealg.IndexByteString", "internal/bytealg.IndexString"], unfollowed := true, recurses := true, named := ["astragal/hexagram.sources", "unicode/utf8.first", "unicode/utf8.acceptRanges", "astragal/hexagram.firmSets", "internal/bytealg.MaxLen"], plainKeys := false, apart := false, laid := [("unicode/utf8.acceptRanges", laid_unicode_utf8_acceptRanges), ("astragal/hexagram.sources", laid_astragal_hexagram_sources), ("astragal/hexagram.firmSets", laid_astragal_hexagram_firmSets), ("unicode/utf8.first", laid_unicode_utf8_first)] }
def HexagramOrbitsSaid : Prop := hexagramOrbitsRow.holds Tryz.pinned (OpenSpec.ofChange hexagramOrbitsSpec)

/-- ITS FALSE NEIGHBOUR: 'it returns false'. Refute it at one input. -/
def hexagramOrbitsWrong : ChangeSpec := { name := "hexagramOrbits", fn := fun _ => fun
  | [d1, d2] => { results := [.lit (.bool false)], args := [d1, d2] }
  | _ => none }
def HexagramOrbitsWrongFalsely : Prop := hexagramOrbitsRow.holds Tryz.pinned (OpenSpec.ofChange hexagramOrbitsWrong)

/-- 'astragallaw04.HexagramGroups': WHATEVER THE INPUT: true; the input reads as it did. -/
def hexagramGroupsSpec : ChangeSpec := { name := "hexagramGroups", fn := fun _ => fun
  | [d1, d2, d3] => { results := [.lit (.bool true)], args := [d1, d2, d3] }
  | _ => none }
def hexagramGroupsRow : OpenClaim := { program := "ytojlopfjhhiilaagreatdoor", sum := "0d7cdf63d839cdc80e1ede49284b83f0d64e7415c7cc0d923ce0a9b334d52fc9", func := "astragal/astragallaw04.HexagramGroups", spec := "hexagramGroups", inPlace := ["internal/bytealg.IndexByteString", "internal/bytealg.IndexString"], unfollowed := true, recurses := true, named := ["astragal/hexagram.sources", "unicode/utf8.first", "unicode/utf8.acceptRanges", "astragal/hexagram.firmSets", "internal/bytealg.MaxLen"], plainKeys := false, apart := false, laid := [("unicode/utf8.acceptRanges", laid_unicode_utf8_acceptRanges), ("astragal/hexagram.sources", laid_astragal_hexagram_sources), ("astragal/hexagram.firmSets", laid_astragal_hexagram_firmSets), ("unicode/utf8.first", laid_unicode_utf8_first)] }
def HexagramGroupsSaid : Prop := hexagramGroupsRow.holds Tryz.pinned (OpenSpec.ofChange hexagramGroupsSpec)

/-- ITS FALSE NEIGHBOUR: 'it returns false'. Refute it at one input. -/
def hexagramGroupsWrong : ChangeSpec := { name := "hexagramGroups", fn := fun _ => fun
  | [d1, d2, d3] => { results := [.lit (.bool false)], args := [d1, d2, d3] }
  | _ => none }
def HexagramGroupsWrongFalsely : Prop := hexagramGroupsRow.holds Tryz.pinned (OpenSpec.ofChange hexagramGroupsWrong)

/- THE SECOND FORM. 'bulk': how many values and letters a reading holds, each counted each time it is reached (what is shared counts as often as it is met; a slice's spare places count too). A statement '..UptoSaid' is the law's where the arguments, and the package variables that the reading takes, are together of bulk at most 1048576: NARROWER than '..Said'. Prove '..Said' where nothing that the law and all that it calls make is longer than what came in: it says more and counts as full. Else prove '..UptoSaid'. A law counts once. -/
mutual
def uptoBulk {H : Type} : DataW H → Nat
  | .lit (.string bytes) => bytes.length + 1
  | .lit _ => 1
  | .nil => 1
  | .ptr d => uptoBulk d + 1
  | .slice elems spare => uptoBulkAll elems + uptoBulkAll spare + 1
  | .agg parts => uptoBulkAll parts + 1
  | .iface _ d => uptoBulk d + 1
  | .map entries => uptoBulkEntries entries + 1
  | .held _ => 1
def uptoBulkAll {H : Type} : List (DataW H) → Nat
  | [] => 0
  | d :: r => uptoBulk d + uptoBulkAll r
def uptoBulkEntries {H : Type} : List (Lit × DataW H) → Nat
  | [] => 0
  | x :: r => uptoBulkEntry x + uptoBulkEntries r
def uptoBulkEntry {H : Type} : Lit × DataW H → Nat
  | (.string bytes, d) => bytes.length + uptoBulk d + 1
  | (_, d) => uptoBulk d + 1
 end
def uptoSmall : (H : Type) → List (DataW H) → Bool := fun _ ds => decide (uptoBulkAll ds ≤ 1048576)
def OpenSpec.upto (s : _root_.Go.ChangeSpec) : _root_.Go.OpenSpec := { _root_.Go.OpenSpec.ofChange s with cond := some uptoSmall }

/-- 'astragallaw04.HexagramOrbits', WHERE WHAT IT READS IS OF BULK AT MOST 1048576: true; the input reads as it did. -/
def hexagramOrbitsUptoRow : OpenClaim := { program := "ytojlopfjhhiilaagreatdoor", sum := "0d7cdf63d839cdc80e1ede49284b83f0d64e7415c7cc0d923ce0a9b334d52fc9", func := "astragal/astragallaw04.HexagramOrbits", spec := "hexagramOrbits", inPlace := ["internal/bytealg.IndexByteString", "internal/bytealg.IndexString"], unfollowed := true, recurses := true, named := ["astragal/hexagram.sources", "unicode/utf8.first", "unicode/utf8.acceptRanges", "astragal/hexagram.firmSets", "internal/bytealg.MaxLen"], plainKeys := false, apart := false, laid := [("unicode/utf8.acceptRanges", laid_unicode_utf8_acceptRanges), ("astragal/hexagram.sources", laid_astragal_hexagram_sources), ("astragal/hexagram.firmSets", laid_astragal_hexagram_firmSets), ("unicode/utf8.first", laid_unicode_utf8_first)], narrowed := true }
def HexagramOrbitsUptoSaid : Prop := hexagramOrbitsUptoRow.holds Tryz.pinned (OpenSpec.upto hexagramOrbitsSpec)

/-- 'astragallaw04.HexagramGroups', WHERE WHAT IT READS IS OF BULK AT MOST 1048576: true; the input reads as it did. -/
def hexagramGroupsUptoRow : OpenClaim := { program := "ytojlopfjhhiilaagreatdoor", sum := "0d7cdf63d839cdc80e1ede49284b83f0d64e7415c7cc0d923ce0a9b334d52fc9", func := "astragal/astragallaw04.HexagramGroups", spec := "hexagramGroups", inPlace := ["internal/bytealg.IndexByteString", "internal/bytealg.IndexString"], unfollowed := true, recurses := true, named := ["astragal/hexagram.sources", "unicode/utf8.first", "unicode/utf8.acceptRanges", "astragal/hexagram.firmSets", "internal/bytealg.MaxLen"], plainKeys := false, apart := false, laid := [("unicode/utf8.acceptRanges", laid_unicode_utf8_acceptRanges), ("astragal/hexagram.sources", laid_astragal_hexagram_sources), ("astragal/hexagram.firmSets", laid_astragal_hexagram_firmSets), ("unicode/utf8.first", laid_unicode_utf8_first)], narrowed := true }
def HexagramGroupsUptoSaid : Prop := hexagramGroupsUptoRow.holds Tryz.pinned (OpenSpec.upto hexagramGroupsSpec)

end Rows
end Go.Proofs.YtojlopfjhhiilaaGreatDoor
