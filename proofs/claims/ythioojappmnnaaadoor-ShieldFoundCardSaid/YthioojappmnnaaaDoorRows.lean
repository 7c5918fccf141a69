/-
  NARROWER THAN 'FOR EVERY INPUT', by the rows' own cells (each row's printed sentence says how): ShieldFound: laid.
  DERIVED. THE GIVEN ROWS OF THIS SEAT. 1 by the template 'for every input the law returns true; each argument reads behind the call as it read before'; 0 by the template 'total and deterministic' (their statements: YthioojappmnnaaaDoorTotals.lean).
  GIVEN WITH THE SEED: the statements are not yours to turn. If you find one false, say at which input.
  Laid BY PROGRAM, IN A SANDBOX (cutbox-rows.mjs): the forced cells as the released guide's own fill.sh prints them over the translation c28cf910dfa786f4… (all of the seat's roots in one cut). By AI agents, Wed Nov 11 2026. No macro, syntax, notation, axiom, sorry.
-/
import Derived.Test.YthioojappmnnaaaDoorChecked
import GoSem.Claim
import GoSem.ClaimJoined
import GoSem.ClaimMapViews
import Derived.JoinedTies
import Derived.KernelRfl
namespace Go.Proofs.YthioojappmnnaaaDoor
/- THE CELL 'sum', in the pinned program and in every row, IS THE sha256 OF THE DUMP (.gsa) THAT YthioojappmnnaaaDoorProg.lean LOADS. Nothing in Lean hashes anything: it is a label: what it is worth is what the hold of that sum in a sandbox is worth. -/
noncomputable def Tryd.pinned : Pinned := { name := "ythioojappmnnaaadoor", sum := "c28cf910dfa786f4113212579ccfc8e1b2f440daaba54500185ab5a06961a3cd", checked := Tryd.checked }
namespace Rows
def none {H : Type} : Left H := { results := [], args := [] }

/- WHAT THE LISTED PACKAGE-LEVEL VARIABLES READ AS WHEN THE CALL BEGINS. Each datum BY PROGRAM (the guide's laid-datum.mjs) off the statement by which the dump's own 'gosem.cut.vars' lays the variable. In a bare row this is a premise. The card (YthioojappmnnaaaDoorCards.lean) ties it to the program's text. -/
def laid_astragal_shield_parents {H : Type} : DataW H := .agg [.agg [.lit (.int .i64 0), .lit (.int .i64 1)], .agg [.lit (.int .i64 2), .lit (.int .i64 3)], .agg [.lit (.int .i64 4), .lit (.int .i64 5)], .agg [.lit (.int .i64 6), .lit (.int .i64 7)], .agg [.lit (.int .i64 8), .lit (.int .i64 9)], .agg [.lit (.int .i64 10), .lit (.int .i64 11)], .agg [.lit (.int .i64 12), .lit (.int .i64 13)], .agg [.lit (.int .i64 14), .lit (.int .i64 0)]]
def laid_astragal_shield_names {H : Type} : DataW H := .agg [.lit (.string [112, 111, 112, 117, 108, 117, 115]), .lit (.string [108, 97, 101, 116, 105, 116, 105, 97]), .lit (.string [114, 117, 98, 101, 117, 115]), .lit (.string [102, 111, 114, 116, 117, 110, 97, 32, 109, 105, 110, 111, 114]), .lit (.string [97, 108, 98, 117, 115]), .lit (.string [97, 109, 105, 115, 115, 105, 111]), .lit (.string [99, 111, 110, 106, 117, 110, 99, 116, 105, 111]), .lit (.string [99, 97, 117, 100, 97, 32, 100, 114, 97, 99, 111, 110, 105, 115]), .lit (.string [116, 114, 105, 115, 116, 105, 116, 105, 97]), .lit (.string [99, 97, 114, 99, 101, 114]), .lit (.string [97, 99, 113, 117, 105, 115, 105, 116, 105, 111]), .lit (.string [112, 117, 101, 114]), .lit (.string [102, 111, 114, 116, 117, 110, 97, 32, 109, 97, 106, 111, 114]), .lit (.string [112, 117, 101, 108, 108, 97]), .lit (.string [99, 97, 112, 117, 116, 32, 100, 114, 97, 99, 111, 110, 105, 115]), .lit (.string [118, 105, 97])]

/-- 'astragallaw03.ShieldFound': WHATEVER THE INPUT: true; the input reads as it did. -/
def shieldFoundSpec : ChangeSpec := { name := "shieldFound", fn := fun _ => fun
  | [d1, d2] => { results := [.lit (.bool true)], args := [d1, d2] }
  | _ => none }
def shieldFoundRow : OpenClaim := { program := "ythioojappmnnaaadoor", sum := "c28cf910dfa786f4113212579ccfc8e1b2f440daaba54500185ab5a06961a3cd", func := "astragal/astragallaw03.ShieldFound", spec := "shieldFound", unfollowed := true, recurses := true, named := ["astragal/shield.parents", "astragal/shield.names"], apart := false, laid := [("astragal/shield.parents", laid_astragal_shield_parents), ("astragal/shield.names", laid_astragal_shield_names)] }
def ShieldFoundSaid : Prop := shieldFoundRow.holds Tryd.pinned (OpenSpec.ofChange shieldFoundSpec)

/-- ITS FALSE NEIGHBOUR: 'it returns false'. Refute it at one input. -/
def shieldFoundWrong : ChangeSpec := { name := "shieldFound", fn := fun _ => fun
  | [d1, d2] => { results := [.lit (.bool false)], args := [d1, d2] }
  | _ => none }
def ShieldFoundWrongFalsely : Prop := shieldFoundRow.holds Tryd.pinned (OpenSpec.ofChange shieldFoundWrong)

/- THE SECOND FORM. 'bulk': how many values and letters a reading holds, each counted each time it is reached (what is shared counts as often as it is met; a slice's spare places count too). A statement '..UptoSaid' is the law's where the arguments, and the package variables that the reading takes, are together of bulk at most 1048576: NARROWER than '..Said'. Prove '..Said' where nothing that the law and all that it calls make is longer than what came in: it says more and counts as full. Else prove '..UptoSaid'. A law counts once. -/
mutual
def uptoBulk {H : Type} : DataW H → Nat
  | .lit (.string bytes) => bytes.length + 1
  | .lit _ => 1
  | .nil => 1
  | .ptr d => uptoBulk d + 1
  | .slice elems spare => uptoBulkAll elems + uptoBulkAll spare + 1
  | .agg parts => uptoBulkAll parts + 1
  | .iface _ d => uptoBulk d + 1
  | .map entries => uptoBulkEntries entries + 1
  | .held _ => 1
def uptoBulkAll {H : Type} : List (DataW H) → Nat
  | [] => 0
  | d :: r => uptoBulk d + uptoBulkAll r
def uptoBulkEntries {H : Type} : List (Lit × DataW H) → Nat
  | [] => 0
  | x :: r => uptoBulkEntry x + uptoBulkEntries r
def uptoBulkEntry {H : Type} : Lit × DataW H → Nat
  | (.string bytes, d) => bytes.length + uptoBulk d + 1
  | (_, d) => uptoBulk d + 1
 end
def uptoSmall : (H : Type) → List (DataW H) → Bool := fun _ ds => decide (uptoBulkAll ds ≤ 1048576)
def OpenSpec.upto (s : _root_.Go.ChangeSpec) : _root_.Go.OpenSpec := { _root_.Go.OpenSpec.ofChange s with cond := some uptoSmall }

/-- 'astragallaw03.ShieldFound', WHERE WHAT IT READS IS OF BULK AT MOST 1048576: true; the input reads as it did. -/
def shieldFoundUptoRow : OpenClaim := { program := "ythioojappmnnaaadoor", sum := "c28cf910dfa786f4113212579ccfc8e1b2f440daaba54500185ab5a06961a3cd", func := "astragal/astragallaw03.ShieldFound", spec := "shieldFound", unfollowed := true, recurses := true, named := ["astragal/shield.parents", "astragal/shield.names"], apart := false, laid := [("astragal/shield.parents", laid_astragal_shield_parents), ("astragal/shield.names", laid_astragal_shield_names)], narrowed := true }
def ShieldFoundUptoSaid : Prop := shieldFoundUptoRow.holds Tryd.pinned (OpenSpec.upto shieldFoundSpec)

end Rows
end Go.Proofs.YthioojappmnnaaaDoor
