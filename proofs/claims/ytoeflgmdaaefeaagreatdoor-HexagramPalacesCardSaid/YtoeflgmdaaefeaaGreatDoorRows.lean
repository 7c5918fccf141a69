/-
  NARROWER THAN 'FOR EVERY INPUT', by the rows' own cells (each row's printed sentence says how): HexagramOrders: laid · HexagramWeighs: laid · HexagramPalaces: laid · HexagramChances: laid.
  DERIVED. THE GIVEN ROWS OF THIS SEAT. 4 by the template 'for every input the law returns true; each argument reads behind the call as it read before'; 0 by the template 'total and deterministic' (their statements: YtoeflgmdaaefeaaGreatDoorTotals.lean).
  GIVEN WITH THE SEED: the statements are not yours to turn. If you find one false, say at which input.
  Laid BY PROGRAM, IN A SANDBOX (cutbox-rows.mjs): the forced cells as the released guide's own fill.sh prints them over the translation 9dd58abca15ebde1… (all of the seat's roots in one cut). By AI agents, Wed Nov 11 2026. No macro, syntax, notation, axiom, sorry.
-/
import Derived.Test.YtoeflgmdaaefeaaGreatDoorChecked
import GoSem.PinnedTables
import GoSem.Claim
import GoSem.ClaimJoined
import GoSem.ClaimMapViews
import Derived.JoinedTies
import Derived.KernelRfl
namespace Go.Proofs.YtoeflgmdaaefeaaGreatDoor
/- THE CELL 'sum', in the pinned program and in every row, IS THE sha256 OF THE DUMP (.gsa) THAT YtoeflgmdaaefeaaGreatDoorProg.lean LOADS. Nothing in Lean hashes anything: it is a label: what it is worth is what the hold of that sum in a sandbox is worth. -/
noncomputable def Tryz.pinned : Pinned := { name := "ytoeflgmdaaefeaagreatdoor", sum := "9dd58abca15ebde1cfd9f4d174901c2d5243c26d459f1a59915d40133bf52163", checked := Tryz.checked }
namespace Rows
def none {H : Type} : Left H := { results := [], args := [] }

/- WHAT THE LISTED PACKAGE-LEVEL VARIABLES READ AS WHEN THE CALL BEGINS. Each datum BY PROGRAM (the guide's laid-datum.mjs) off the statement by which the dump's own 'gosem.cut.vars' lays the variable. In a bare row this is a premise. The card (YtoeflgmdaaefeaaGreatDoorCards.lean) ties it to the program's text. -/
def laid_unicode_utf8_acceptRanges {H : Type} : DataW H := .agg [.agg [.lit (.int .u8 128), .lit (.int .u8 191)], .agg [.lit (.int .u8 160), .lit (.int .u8 191)], .agg [.lit (.int .u8 128), .lit (.int .u8 159)], .agg [.lit (.int .u8 144), .lit (.int .u8 191)], .agg [.lit (.int .u8 128), .lit (.int .u8 143)], .agg [.lit (.int .u8 0), .lit (.int .u8 0)], .agg [.lit (.int .u8 0), .lit (.int .u8 0)], .agg [.lit (.int .u8 0), .lit (.int .u8 0)], .agg [.lit (.int .u8 0), .lit (.int .u8 0)], .agg [.lit (.int .u8 0), .lit (.int .u8 0)], .agg [.lit (.int .u8 0), .lit (.int .u8 0)], .agg [.lit (.int .u8 0), .lit (.int .u8 0)], .agg [.lit (.int .u8 0), .lit (.int .u8 0)], .agg [.lit (.int .u8 0), .lit (.int .u8 0)], .agg [.lit (.int .u8 0), .lit (.int .u8 0)], .agg [.lit (.int .u8 0), .lit (.int .u8 0)]]
def laid_astragal_hexagram_sources {H : Type} : DataW H := .agg [.agg [.lit (.int .i64 5), .lit (.int .i64 4), .lit (.int .i64 3), .lit (.int .i64 2), .lit (.int .i64 1), .lit (.int .i64 0)], .agg [.lit (.int .i64 0), .lit (.int .i64 1), .lit (.int .i64 2), .lit (.int .i64 3), .lit (.int .i64 4), .lit (.int .i64 5)], .agg [.lit (.int .i64 3), .lit (.int .i64 4), .lit (.int .i64 5), .lit (.int .i64 0), .lit (.int .i64 1), .lit (.int .i64 2)], .agg [.lit (.int .i64 1), .lit (.int .i64 2), .lit (.int .i64 3), .lit (.int .i64 2), .lit (.int .i64 3), .lit (.int .i64 4)]]
def laid_astragal_hexagram_turned {H : Type} : DataW H := .agg [.lit (.int .i64 0), .lit (.int .i64 1), .lit (.int .i64 3), .lit (.int .i64 7), .lit (.int .i64 15), .lit (.int .i64 31), .lit (.int .i64 23), .lit (.int .i64 16)]
def laid_astragal_hexagram_firmSets {H : Type} : DataW H := .agg [.lit (.int .u64 12297829382473034410), .lit (.int .u64 14757395258967641292), .lit (.int .u64 17361641481138401520), .lit (.int .u64 18374966859414961920), .lit (.int .u64 18446462603027742720), .lit (.int .u64 18446744069414584320)]
/-- One of Go's own tables, pinned by name: the form's constant. -/
def laid_unicode_utf8_first : DataW Unit := Go.Pinned.utf8First

/-- 'astragallaw04.HexagramOrders': WHATEVER THE INPUT: true; the input reads as it did. -/
def hexagramOrdersSpec : ChangeSpec := { name := "hexagramOrders", fn := fun _ => fun
  | [d1, d2] => { results := [.lit (.bool true)], args := [d1, d2] }
  | _ => none }
def hexagramOrdersRow : OpenClaim := { program := "ytoeflgmdaaefeaagreatdoor", sum := "9dd58abca15ebde1cfd9f4d174901c2d5243c26d459f1a59915d40133bf52163", func := "astragal/astragallaw04.HexagramOrders", spec := "hexagramOrders", inPlace := ["internal/bytealg.IndexByteString", "internal/bytealg.IndexString"], unfollowed := true, recurses := true, named := ["astragal/hexagram.sources", "unicode/utf8.first", "unicode/utf8.acceptRanges", "astragal/hexagram.firmSets", "astragal/hexagram.turned", "internal/bytealg.MaxLen"], plainKeys := false, apart := false, laid := [("unicode/utf8.acceptRanges", laid_unicode_utf8_acceptRanges), ("astragal/hexagram.sources", laid_astragal_hexagram_sources), ("astragal/hexagram.turned", laid_astragal_hexagram_turned), ("astragal/hexagram.firmSets", laid_astragal_hexagram_firmSets), ("unicode/utf8.first", laid_unicode_utf8_first)] }
def HexagramOrdersSaid : Prop := hexagramOrdersRow.holds Tryz.pinned (OpenSpec.ofChange hexagramOrdersSpec)

/-- ITS FALSE NEIGHBOUR: 'it returns false'. Refute it at one input. -/
def hexagramOrdersWrong : ChangeSpec := { name := "hexagramOrders", fn := fun _ => fun
  | [d1, d2] => { results := [.lit (.bool false)], args := [d1, d2] }
  | _ => none }
def HexagramOrdersWrongFalsely : Prop := hexagramOrdersRow.holds Tryz.pinned (OpenSpec.ofChange hexagramOrdersWrong)

/-- 'astragallaw04.HexagramWeighs': WHATEVER THE INPUT: true; the input reads as it did. -/
def hexagramWeighsSpec : ChangeSpec := { name := "hexagramWeighs", fn := fun _ => fun
  | [d] => { results := [.lit (.bool true)], args := [d] }
  | _ => none }
def hexagramWeighsRow : OpenClaim := { program := "ytoeflgmdaaefeaagreatdoor", sum := "9dd58abca15ebde1cfd9f4d174901c2d5243c26d459f1a59915d40133bf52163", func := "astragal/astragallaw04.HexagramWeighs", spec := "hexagramWeighs", inPlace := ["internal/bytealg.IndexByteString", "internal/bytealg.IndexString"], unfollowed := true, recurses := true, named := ["astragal/hexagram.sources", "unicode/utf8.first", "unicode/utf8.acceptRanges", "astragal/hexagram.firmSets", "internal/bytealg.MaxLen"], plainKeys := false, apart := false, laid := [("unicode/utf8.acceptRanges", laid_unicode_utf8_acceptRanges), ("astragal/hexagram.sources", laid_astragal_hexagram_sources), ("astragal/hexagram.firmSets", laid_astragal_hexagram_firmSets), ("unicode/utf8.first", laid_unicode_utf8_first)] }
def HexagramWeighsSaid : Prop := hexagramWeighsRow.holds Tryz.pinned (OpenSpec.ofChange hexagramWeighsSpec)

/-- ITS FALSE NEIGHBOUR: 'it returns false'. Refute it at one input. -/
def hexagramWeighsWrong : ChangeSpec := { name := "hexagramWeighs", fn := fun _ => fun
  | [d] => { results := [.lit (.bool false)], args := [d] }
  | _ => none }
def HexagramWeighsWrongFalsely : Prop := hexagramWeighsRow.holds Tryz.pinned (OpenSpec.ofChange hexagramWeighsWrong)

/-- 'astragallaw04.HexagramPalaces': WHATEVER THE INPUT: true; the input reads as it did. -/
def hexagramPalacesSpec : ChangeSpec := { name := "hexagramPalaces", fn := fun _ => fun
  | [d1, d2, d3] => { results := [.lit (.bool true)], args := [d1, d2, d3] }
  | _ => none }
def hexagramPalacesRow : OpenClaim := { program := "ytoeflgmdaaefeaagreatdoor", sum := "9dd58abca15ebde1cfd9f4d174901c2d5243c26d459f1a59915d40133bf52163", func := "astragal/astragallaw04.HexagramPalaces", spec := "hexagramPalaces", inPlace := ["internal/bytealg.IndexByteString", "internal/bytealg.IndexString"], unfollowed := true, recurses := true, named := ["astragal/hexagram.turned", "astragal/hexagram.sources", "unicode/utf8.first", "unicode/utf8.acceptRanges", "astragal/hexagram.firmSets", "internal/bytealg.MaxLen"], plainKeys := false, apart := false, laid := [("unicode/utf8.acceptRanges", laid_unicode_utf8_acceptRanges), ("astragal/hexagram.sources", laid_astragal_hexagram_sources), ("astragal/hexagram.turned", laid_astragal_hexagram_turned), ("astragal/hexagram.firmSets", laid_astragal_hexagram_firmSets), ("unicode/utf8.first", laid_unicode_utf8_first)] }
def HexagramPalacesSaid : Prop := hexagramPalacesRow.holds Tryz.pinned (OpenSpec.ofChange hexagramPalacesSpec)

/-- ITS FALSE NEIGHBOUR: 'it returns false'. Refute it at one input. -/
def hexagramPalacesWrong : ChangeSpec := { name := "hexagramPalaces", fn := fun _ => fun
  | [d1, d2, d3] => { results := [.lit (.bool false)], args := [d1, d2, d3] }
  | _ => none }
def HexagramPalacesWrongFalsely : Prop := hexagramPalacesRow.holds Tryz.pinned (OpenSpec.ofChange hexagramPalacesWrong)

/-- 'astragallaw04.HexagramChances': WHATEVER THE INPUT: true; the input reads as it did. -/
def hexagramChancesSpec : ChangeSpec := { name := "hexagramChances", fn := fun _ => fun
  | [d1, d2] => { results := [.lit (.bool true)], args := [d1, d2] }
  | _ => none }
def hexagramChancesRow : OpenClaim := { program := "ytoeflgmdaaefeaagreatdoor", sum := "9dd58abca15ebde1cfd9f4d174901c2d5243c26d459f1a59915d40133bf52163", func := "astragal/astragallaw04.HexagramChances", spec := "hexagramChances", inPlace := ["internal/bytealg.IndexByteString", "internal/bytealg.IndexString"], unfollowed := true, recurses := true, named := ["astragal/hexagram.sources", "unicode/utf8.first", "unicode/utf8.acceptRanges", "astragal/hexagram.firmSets", "internal/bytealg.MaxLen"], plainKeys := false, apart := false, laid := [("unicode/utf8.acceptRanges", laid_unicode_utf8_acceptRanges), ("astragal/hexagram.sources", laid_astragal_hexagram_sources), ("astragal/hexagram.firmSets", laid_astragal_hexagram_firmSets), ("unicode/utf8.first", laid_unicode_utf8_first)] }
def HexagramChancesSaid : Prop := hexagramChancesRow.holds Tryz.pinned (OpenSpec.ofChange hexagramChancesSpec)

/-- ITS FALSE NEIGHBOUR: 'it returns false'. Refute it at one input. -/
def hexagramChancesWrong : ChangeSpec := { name := "hexagramChances", fn := fun _ => fun
  | [d1, d2] => { results := [.lit (.bool false)], args := [d1, d2] }
  | _ => none }
def HexagramChancesWrongFalsely : Prop := hexagramChancesRow.holds Tryz.pinned (OpenSpec.ofChange hexagramChancesWrong)

/- THE SECOND FORM. 'bulk': how many values and letters a reading holds, each counted each time it is reached (what is shared counts as often as it is met; a slice's spare places count too). A statement '..UptoSaid' is the law's where the arguments, and the package variables that the reading takes, are together of bulk at most 1048576: NARROWER than '..Said'. Prove '..Said' where nothing that the law and all that it calls make is longer than what came in: it says more and counts as full. Else prove '..UptoSaid'. A law counts once. -/
mutual
def uptoBulk {H : Type} : DataW H → Nat
  | .lit (.string bytes) => bytes.length + 1
  | .lit _ => 1
  | .nil => 1
  | .ptr d => uptoBulk d + 1
  | .slice elems spare => uptoBulkAll elems + uptoBulkAll spare + 1
  | .agg parts => uptoBulkAll parts + 1
  | .iface _ d => uptoBulk d + 1
  | .map entries => uptoBulkEntries entries + 1
  | .held _ => 1
def uptoBulkAll {H : Type} : List (DataW H) → Nat
  | [] => 0
  | d :: r => uptoBulk d + uptoBulkAll r
def uptoBulkEntries {H : Type} : List (Lit × DataW H) → Nat
  | [] => 0
  | x :: r => uptoBulkEntry x + uptoBulkEntries r
def uptoBulkEntry {H : Type} : Lit × DataW H → Nat
  | (.string bytes, d) => bytes.length + uptoBulk d + 1
  | (_, d) => uptoBulk d + 1
 end
def uptoSmall : (H : Type) → List (DataW H) → Bool := fun _ ds => decide (uptoBulkAll ds ≤ 1048576)
def OpenSpec.upto (s : _root_.Go.ChangeSpec) : _root_.Go.OpenSpec := { _root_.Go.OpenSpec.ofChange s with cond := some uptoSmall }

/-- 'astragallaw04.HexagramOrders', WHERE WHAT IT READS IS OF BULK AT MOST 1048576: true; the input reads as it did. -/
def hexagramOrdersUptoRow : OpenClaim := { program := "ytoeflgmdaaefeaagreatdoor", sum := "9dd58abca15ebde1cfd9f4d174901c2d5243c26d459f1a59915d40133bf52163", func := "astragal/astragallaw04.HexagramOrders", spec := "hexagramOrders", inPlace := ["internal/bytealg.IndexByteString", "internal/bytealg.IndexString"], unfollowed := true, recurses := true, named := ["astragal/hexagram.sources", "unicode/utf8.first", "unicode/utf8.acceptRanges", "astragal/hexagram.firmSets", "astragal/hexagram.turned", "internal/bytealg.MaxLen"], plainKeys := false, apart := false, laid := [("unicode/utf8.acceptRanges", laid_unicode_utf8_acceptRanges), ("astragal/hexagram.sources", laid_astragal_hexagram_sources), ("astragal/hexagram.turned", laid_astragal_hexagram_turned), ("astragal/hexagram.firmSets", laid_astragal_hexagram_firmSets), ("unicode/utf8.first", laid_unicode_utf8_first)], narrowed := true }
def HexagramOrdersUptoSaid : Prop := hexagramOrdersUptoRow.holds Tryz.pinned (OpenSpec.upto hexagramOrdersSpec)

/-- 'astragallaw04.HexagramWeighs', WHERE WHAT IT READS IS OF BULK AT MOST 1048576: true; the input reads as it did. -/
def hexagramWeighsUptoRow : OpenClaim := { program := "ytoeflgmdaaefeaagreatdoor", sum := "9dd58abca15ebde1cfd9f4d174901c2d5243c26d459f1a59915d40133bf52163", func := "astragal/astragallaw04.HexagramWeighs", spec := "hexagramWeighs", inPlace := ["internal/bytealg.IndexByteString", "internal/bytealg.IndexString"], unfollowed := true, recurses := true, named := ["astragal/hexagram.sources", "unicode/utf8.first", "unicode/utf8.acceptRanges", "astragal/hexagram.firmSets", "internal/bytealg.MaxLen"], plainKeys := false, apart := false, laid := [("unicode/utf8.acceptRanges", laid_unicode_utf8_acceptRanges), ("astragal/hexagram.sources", laid_astragal_hexagram_sources), ("astragal/hexagram.firmSets", laid_astragal_hexagram_firmSets), ("unicode/utf8.first", laid_unicode_utf8_first)], narrowed := true }
def HexagramWeighsUptoSaid : Prop := hexagramWeighsUptoRow.holds Tryz.pinned (OpenSpec.upto hexagramWeighsSpec)

/-- 'astragallaw04.HexagramPalaces', WHERE WHAT IT READS IS OF BULK AT MOST 1048576: true; the input reads as it did. -/
def hexagramPalacesUptoRow : OpenClaim := { program := "ytoeflgmdaaefeaagreatdoor", sum := "9dd58abca15ebde1cfd9f4d174901c2d5243c26d459f1a59915d40133bf52163", func := "astragal/astragallaw04.HexagramPalaces", spec := "hexagramPalaces", inPlace := ["internal/bytealg.IndexByteString", "internal/bytealg.IndexString"], unfollowed := true, recurses := true, named := ["astragal/hexagram.turned", "astragal/hexagram.sources", "unicode/utf8.first", "unicode/utf8.acceptRanges", "astragal/hexagram.firmSets", "internal/bytealg.MaxLen"], plainKeys := false, apart := false, laid := [("unicode/utf8.acceptRanges", laid_unicode_utf8_acceptRanges), ("astragal/hexagram.sources", laid_astragal_hexagram_sources), ("astragal/hexagram.turned", laid_astragal_hexagram_turned), ("astragal/hexagram.firmSets", laid_astragal_hexagram_firmSets), ("unicode/utf8.first", laid_unicode_utf8_first)], narrowed := true }
def HexagramPalacesUptoSaid : Prop := hexagramPalacesUptoRow.holds Tryz.pinned (OpenSpec.upto hexagramPalacesSpec)

/-- 'astragallaw04.HexagramChances', WHERE WHAT IT READS IS OF BULK AT MOST 1048576: true; the input reads as it did. -/
def hexagramChancesUptoRow : OpenClaim := { program := "ytoeflgmdaaefeaagreatdoor", sum := "9dd58abca15ebde1cfd9f4d174901c2d5243c26d459f1a59915d40133bf52163", func := "astragal/astragallaw04.HexagramChances", spec := "hexagramChances", inPlace := ["internal/bytealg.IndexByteString", "internal/bytealg.IndexString"], unfollowed := true, recurses := true, named := ["astragal/hexagram.sources", "unicode/utf8.first", "unicode/utf8.acceptRanges", "astragal/hexagram.firmSets", "internal/bytealg.MaxLen"], plainKeys := false, apart := false, laid := [("unicode/utf8.acceptRanges", laid_unicode_utf8_acceptRanges), ("astragal/hexagram.sources", laid_astragal_hexagram_sources), ("astragal/hexagram.firmSets", laid_astragal_hexagram_firmSets), ("unicode/utf8.first", laid_unicode_utf8_first)], narrowed := true }
def HexagramChancesUptoSaid : Prop := hexagramChancesUptoRow.holds Tryz.pinned (OpenSpec.upto hexagramChancesSpec)

end Rows
end Go.Proofs.YtoeflgmdaaefeaaGreatDoor
