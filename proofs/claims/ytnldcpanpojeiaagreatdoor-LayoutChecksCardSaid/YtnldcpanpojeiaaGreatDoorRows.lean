/-
  NARROWER THAN 'FOR EVERY INPUT', by the rows' own cells (each row's printed sentence says how): LayoutChecks: laid · LayoutEmpty: laid.
  DERIVED. THE GIVEN ROWS OF THIS SEAT. 2 by the template 'for every input the law returns true; each argument reads behind the call as it read before'; 0 by the template 'total and deterministic' (their statements: YtnldcpanpojeiaaGreatDoorTotals.lean).
  GIVEN WITH THE SEED: the statements are not yours to turn. If you find one false, say at which input.
  Laid BY PROGRAM, IN A SANDBOX (cutbox-rows.mjs): the forced cells as the released guide's own fill.sh prints them over the translation 6058f1a951046a7c… (all of the seat's roots in one cut). By AI agents, Wed Nov 11 2026. No macro, syntax, notation, axiom, sorry.
-/
import Derived.Test.YtnldcpanpojeiaaGreatDoorChecked
import GoSem.Claim
import GoSem.ClaimJoined
import GoSem.ClaimMapViews
import Derived.JoinedTies
import Derived.KernelRfl
namespace Go.Proofs.YtnldcpanpojeiaaGreatDoor
/- THE CELL 'sum', in the pinned program and in every row, IS THE sha256 OF THE DUMP (.gsa) THAT YtnldcpanpojeiaaGreatDoorProg.lean LOADS. Nothing in Lean hashes anything: it is a label: what it is worth is what the hold of that sum in a sandbox is worth. -/
noncomputable def Tryz.pinned : Pinned := { name := "ytnldcpanpojeiaagreatdoor", sum := "6058f1a951046a7c4bfee3e6a8c1b34eb0f3a7a2c302f79d3d812cdbe27e596f", checked := Tryz.checked }
namespace Rows
def none {H : Type} : Left H := { results := [], args := [] }

/- WHAT THE LISTED PACKAGE-LEVEL VARIABLES READ AS WHEN THE CALL BEGINS. Each datum BY PROGRAM (the guide's laid-datum.mjs) off the statement by which the dump's own 'gosem.cut.vars' lays the variable. In a bare row this is a premise. The card (YtnldcpanpojeiaaGreatDoorCards.lean) ties it to the program's text. -/
def laid_boustrophedon_mirror_table {H : Type} : DataW H := .agg [.agg [.lit (.int .i32 40), .lit (.int .i32 41)], .agg [.lit (.int .i32 60), .lit (.int .i32 62)], .agg [.lit (.int .i32 91), .lit (.int .i32 93)], .agg [.lit (.int .i32 123), .lit (.int .i32 125)], .agg [.lit (.int .i32 171), .lit (.int .i32 187)], .agg [.lit (.int .i32 8249), .lit (.int .i32 8250)], .agg [.lit (.int .i32 8261), .lit (.int .i32 8262)], .agg [.lit (.int .i32 8317), .lit (.int .i32 8318)], .agg [.lit (.int .i32 8333), .lit (.int .i32 8334)], .agg [.lit (.int .i32 8712), .lit (.int .i32 8715)], .agg [.lit (.int .i32 8713), .lit (.int .i32 8716)], .agg [.lit (.int .i32 8804), .lit (.int .i32 8805)], .agg [.lit (.int .i32 8806), .lit (.int .i32 8807)], .agg [.lit (.int .i32 8810), .lit (.int .i32 8811)], .agg [.lit (.int .i32 8834), .lit (.int .i32 8835)], .agg [.lit (.int .i32 8838), .lit (.int .i32 8839)], .agg [.lit (.int .i32 8968), .lit (.int .i32 8969)], .agg [.lit (.int .i32 8970), .lit (.int .i32 8971)], .agg [.lit (.int .i32 9001), .lit (.int .i32 9002)], .agg [.lit (.int .i32 10214), .lit (.int .i32 10215)], .agg [.lit (.int .i32 10216), .lit (.int .i32 10217)], .agg [.lit (.int .i32 10218), .lit (.int .i32 10219)], .agg [.lit (.int .i32 10627), .lit (.int .i32 10628)], .agg [.lit (.int .i32 12296), .lit (.int .i32 12297)], .agg [.lit (.int .i32 12298), .lit (.int .i32 12299)], .agg [.lit (.int .i32 12300), .lit (.int .i32 12301)], .agg [.lit (.int .i32 12302), .lit (.int .i32 12303)], .agg [.lit (.int .i32 12304), .lit (.int .i32 12305)], .agg [.lit (.int .i32 12308), .lit (.int .i32 12309)], .agg [.lit (.int .i32 12310), .lit (.int .i32 12311)], .agg [.lit (.int .i32 65288), .lit (.int .i32 65289)], .agg [.lit (.int .i32 65308), .lit (.int .i32 65310)], .agg [.lit (.int .i32 65339), .lit (.int .i32 65341)], .agg [.lit (.int .i32 65371), .lit (.int .i32 65373)], .agg [.lit (.int .i32 65378), .lit (.int .i32 65379)]]
def laid_errors_errorType {H : Type} : DataW H := .iface "internal/reflectlite.rtype" (.agg [.ptr (.lit (.string [101, 114, 114, 111, 114]))])

/-- 'boustrophedonlaw30.LayoutChecks': WHATEVER THE INPUT: true; the input reads as it did. -/
def layoutChecksSpec : ChangeSpec := { name := "layoutChecks", fn := fun _ => fun
  | [d1, d2, d3, d4] => { results := [.lit (.bool true)], args := [d1, d2, d3, d4] }
  | _ => none }
def layoutChecksRow : OpenClaim := { program := "ytnldcpanpojeiaagreatdoor", sum := "6058f1a951046a7c4bfee3e6a8c1b34eb0f3a7a2c302f79d3d812cdbe27e596f", func := "boustrophedon/boustrophedonlaw30.LayoutChecks", spec := "layoutChecks", inPlace := ["internal/reflectlite.TypeOf", "internal/reflectlite.ValueOf", "(internal/reflectlite.Value).Type", "(internal/reflectlite.Value).IsNil", "(internal/reflectlite.Value).Elem", "(internal/reflectlite.Value).Set"], unfollowed := true, recurses := true, named := ["boustrophedon/mirror.table", "errors.errorType"], apart := false, laid := [("boustrophedon/mirror.table", laid_boustrophedon_mirror_table), ("errors.errorType", laid_errors_errorType)] }
def LayoutChecksSaid : Prop := layoutChecksRow.holds Tryz.pinned (OpenSpec.ofChange layoutChecksSpec)

/-- ITS FALSE NEIGHBOUR: 'it returns false'. Refute it at one input. -/
def layoutChecksWrong : ChangeSpec := { name := "layoutChecks", fn := fun _ => fun
  | [d1, d2, d3, d4] => { results := [.lit (.bool false)], args := [d1, d2, d3, d4] }
  | _ => none }
def LayoutChecksWrongFalsely : Prop := layoutChecksRow.holds Tryz.pinned (OpenSpec.ofChange layoutChecksWrong)

/-- 'boustrophedonlaw30.LayoutEmpty': WHATEVER THE INPUT: true; the input reads as it did. -/
def layoutEmptySpec : ChangeSpec := { name := "layoutEmpty", fn := fun _ => fun
  | [d1, d2] => { results := [.lit (.bool true)], args := [d1, d2] }
  | _ => none }
def layoutEmptyRow : OpenClaim := { program := "ytnldcpanpojeiaagreatdoor", sum := "6058f1a951046a7c4bfee3e6a8c1b34eb0f3a7a2c302f79d3d812cdbe27e596f", func := "boustrophedon/boustrophedonlaw30.LayoutEmpty", spec := "layoutEmpty", unfollowed := true, recurses := true, named := ["boustrophedon/mirror.table"], apart := false, laid := [("boustrophedon/mirror.table", laid_boustrophedon_mirror_table)] }
def LayoutEmptySaid : Prop := layoutEmptyRow.holds Tryz.pinned (OpenSpec.ofChange layoutEmptySpec)

/-- ITS FALSE NEIGHBOUR: 'it returns false'. Refute it at one input. -/
def layoutEmptyWrong : ChangeSpec := { name := "layoutEmpty", fn := fun _ => fun
  | [d1, d2] => { results := [.lit (.bool false)], args := [d1, d2] }
  | _ => none }
def LayoutEmptyWrongFalsely : Prop := layoutEmptyRow.holds Tryz.pinned (OpenSpec.ofChange layoutEmptyWrong)

/- THE SECOND FORM. 'bulk': how many values and letters a reading holds, each counted each time it is reached (what is shared counts as often as it is met; a slice's spare places count too). A statement '..UptoSaid' is the law's where the arguments, and the package variables that the reading takes, are together of bulk at most 1048576: NARROWER than '..Said'. Prove '..Said' where nothing that the law and all that it calls make is longer than what came in: it says more and counts as full. Else prove '..UptoSaid'. A law counts once. -/
mutual
def uptoBulk {H : Type} : DataW H → Nat
  | .lit (.string bytes) => bytes.length + 1
  | .lit _ => 1
  | .nil => 1
  | .ptr d => uptoBulk d + 1
  | .slice elems spare => uptoBulkAll elems + uptoBulkAll spare + 1
  | .agg parts => uptoBulkAll parts + 1
  | .iface _ d => uptoBulk d + 1
  | .map entries => uptoBulkEntries entries + 1
  | .held _ => 1
def uptoBulkAll {H : Type} : List (DataW H) → Nat
  | [] => 0
  | d :: r => uptoBulk d + uptoBulkAll r
def uptoBulkEntries {H : Type} : List (Lit × DataW H) → Nat
  | [] => 0
  | x :: r => uptoBulkEntry x + uptoBulkEntries r
def uptoBulkEntry {H : Type} : Lit × DataW H → Nat
  | (.string bytes, d) => bytes.length + uptoBulk d + 1
  | (_, d) => uptoBulk d + 1
 end
def uptoSmall : (H : Type) → List (DataW H) → Bool := fun _ ds => decide (uptoBulkAll ds ≤ 1048576)
def OpenSpec.upto (s : _root_.Go.ChangeSpec) : _root_.Go.OpenSpec := { _root_.Go.OpenSpec.ofChange s with cond := some uptoSmall }

/-- 'boustrophedonlaw30.LayoutChecks', WHERE WHAT IT READS IS OF BULK AT MOST 1048576: true; the input reads as it did. -/
def layoutChecksUptoRow : OpenClaim := { program := "ytnldcpanpojeiaagreatdoor", sum := "6058f1a951046a7c4bfee3e6a8c1b34eb0f3a7a2c302f79d3d812cdbe27e596f", func := "boustrophedon/boustrophedonlaw30.LayoutChecks", spec := "layoutChecks", inPlace := ["internal/reflectlite.TypeOf", "internal/reflectlite.ValueOf", "(internal/reflectlite.Value).Type", "(internal/reflectlite.Value).IsNil", "(internal/reflectlite.Value).Elem", "(internal/reflectlite.Value).Set"], unfollowed := true, recurses := true, named := ["boustrophedon/mirror.table", "errors.errorType"], apart := false, laid := [("boustrophedon/mirror.table", laid_boustrophedon_mirror_table), ("errors.errorType", laid_errors_errorType)], narrowed := true }
def LayoutChecksUptoSaid : Prop := layoutChecksUptoRow.holds Tryz.pinned (OpenSpec.upto layoutChecksSpec)

/-- 'boustrophedonlaw30.LayoutEmpty', WHERE WHAT IT READS IS OF BULK AT MOST 1048576: true; the input reads as it did. -/
def layoutEmptyUptoRow : OpenClaim := { program := "ytnldcpanpojeiaagreatdoor", sum := "6058f1a951046a7c4bfee3e6a8c1b34eb0f3a7a2c302f79d3d812cdbe27e596f", func := "boustrophedon/boustrophedonlaw30.LayoutEmpty", spec := "layoutEmpty", unfollowed := true, recurses := true, named := ["boustrophedon/mirror.table"], apart := false, laid := [("boustrophedon/mirror.table", laid_boustrophedon_mirror_table)], narrowed := true }
def LayoutEmptyUptoSaid : Prop := layoutEmptyUptoRow.holds Tryz.pinned (OpenSpec.upto layoutEmptySpec)

end Rows
end Go.Proofs.YtnldcpanpojeiaaGreatDoor
