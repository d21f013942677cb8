/-
  NARROWER THAN 'FOR EVERY INPUT', by the rows' own cells (each row's printed sentence says how): CaretMoves: laid · CaretBack: laid · CaretCount: laid · BaseLevel: laid.
  DERIVED. THE GIVEN ROWS OF THIS SEAT. 4 by the template 'for every input the law returns true; each argument reads behind the call as it read before'; 0 by the template 'total and deterministic' (their statements: YtjglcaocbepmhaaDoorTotals.lean).
  GIVEN WITH THE SEED: the statements are not yours to turn. If you find one false, say at which input.
  Laid BY PROGRAM, IN A SANDBOX (cutbox-rows.mjs): the forced cells as the released guide's own fill.sh prints them over the translation 7acc45ac468fe06c… (all of the seat's roots in one cut). By AI agents, Wed Nov 11 2026. No macro, syntax, notation, axiom, sorry.
-/
import Derived.Test.YtjglcaocbepmhaaDoorChecked
import GoSem.Claim
import GoSem.ClaimJoined
import GoSem.ClaimMapViews
import Derived.JoinedTies
import Derived.KernelRfl
namespace Go.Proofs.YtjglcaocbepmhaaDoor
/- THE CELL 'sum', in the pinned program and in every row, IS THE sha256 OF THE DUMP (.gsa) THAT YtjglcaocbepmhaaDoorProg.lean LOADS. Nothing in Lean hashes anything: it is a label: what it is worth is what the hold of that sum in a sandbox is worth. -/
noncomputable def Tryd.pinned : Pinned := { name := "ytjglcaocbepmhaadoor", sum := "7acc45ac468fe06cb74db2e7f75da020f515b199d99ae21b44e221fe56608fa8", checked := Tryd.checked }
namespace Rows
def none {H : Type} : Left H := { results := [], args := [] }

/- WHAT THE LISTED PACKAGE-LEVEL VARIABLES READ AS WHEN THE CALL BEGINS. Each datum BY PROGRAM (the guide's laid-datum.mjs) off the statement by which the dump's own 'gosem.cut.vars' lays the variable. In a bare row this is a premise. The card (YtjglcaocbepmhaaDoorCards.lean) ties it to the program's text. -/
def laid_errors_errorType {H : Type} : DataW H := .iface "internal/reflectlite.rtype" (.agg [.ptr (.lit (.string [101, 114, 114, 111, 114]))])

/-- 'boustrophedonlaw29.CaretMoves': WHATEVER THE INPUT: true; the input reads as it did. -/
def caretMovesSpec : ChangeSpec := { name := "caretMoves", fn := fun _ => fun
  | [d1, d2, d3] => { results := [.lit (.bool true)], args := [d1, d2, d3] }
  | _ => none }
def caretMovesRow : OpenClaim := { program := "ytjglcaocbepmhaadoor", sum := "7acc45ac468fe06cb74db2e7f75da020f515b199d99ae21b44e221fe56608fa8", func := "boustrophedon/boustrophedonlaw29.CaretMoves", spec := "caretMoves", inPlace := ["internal/reflectlite.ValueOf", "(internal/reflectlite.Value).Type", "(internal/reflectlite.Value).IsNil", "internal/reflectlite.TypeOf", "(internal/reflectlite.Value).Elem", "(internal/reflectlite.Value).Set"], unfollowed := true, recurses := true, named := ["errors.errorType"], apart := false, laid := [("errors.errorType", laid_errors_errorType)] }
def CaretMovesSaid : Prop := caretMovesRow.holds Tryd.pinned (OpenSpec.ofChange caretMovesSpec)

/-- ITS FALSE NEIGHBOUR: 'it returns false'. Refute it at one input. -/
def caretMovesWrong : ChangeSpec := { name := "caretMoves", fn := fun _ => fun
  | [d1, d2, d3] => { results := [.lit (.bool false)], args := [d1, d2, d3] }
  | _ => none }
def CaretMovesWrongFalsely : Prop := caretMovesRow.holds Tryd.pinned (OpenSpec.ofChange caretMovesWrong)

/-- 'boustrophedonlaw29.CaretBack': WHATEVER THE INPUT: true; the input reads as it did. -/
def caretBackSpec : ChangeSpec := { name := "caretBack", fn := fun _ => fun
  | [d] => { results := [.lit (.bool true)], args := [d] }
  | _ => none }
def caretBackRow : OpenClaim := { program := "ytjglcaocbepmhaadoor", sum := "7acc45ac468fe06cb74db2e7f75da020f515b199d99ae21b44e221fe56608fa8", func := "boustrophedon/boustrophedonlaw29.CaretBack", spec := "caretBack", inPlace := ["internal/reflectlite.ValueOf", "(internal/reflectlite.Value).Type", "(internal/reflectlite.Value).IsNil", "internal/reflectlite.TypeOf", "(internal/reflectlite.Value).Elem", "(internal/reflectlite.Value).Set"], unfollowed := true, recurses := true, named := ["errors.errorType"], apart := false, laid := [("errors.errorType", laid_errors_errorType)] }
def CaretBackSaid : Prop := caretBackRow.holds Tryd.pinned (OpenSpec.ofChange caretBackSpec)

/-- ITS FALSE NEIGHBOUR: 'it returns false'. Refute it at one input. -/
def caretBackWrong : ChangeSpec := { name := "caretBack", fn := fun _ => fun
  | [d] => { results := [.lit (.bool false)], args := [d] }
  | _ => none }
def CaretBackWrongFalsely : Prop := caretBackRow.holds Tryd.pinned (OpenSpec.ofChange caretBackWrong)

/-- 'boustrophedonlaw29.CaretCount': WHATEVER THE INPUT: true; the input reads as it did. -/
def caretCountSpec : ChangeSpec := { name := "caretCount", fn := fun _ => fun
  | [d] => { results := [.lit (.bool true)], args := [d] }
  | _ => none }
def caretCountRow : OpenClaim := { program := "ytjglcaocbepmhaadoor", sum := "7acc45ac468fe06cb74db2e7f75da020f515b199d99ae21b44e221fe56608fa8", func := "boustrophedon/boustrophedonlaw29.CaretCount", spec := "caretCount", inPlace := ["internal/reflectlite.ValueOf", "(internal/reflectlite.Value).Type", "(internal/reflectlite.Value).IsNil", "internal/reflectlite.TypeOf", "(internal/reflectlite.Value).Elem", "(internal/reflectlite.Value).Set"], unfollowed := true, recurses := true, named := ["errors.errorType"], apart := false, laid := [("errors.errorType", laid_errors_errorType)] }
def CaretCountSaid : Prop := caretCountRow.holds Tryd.pinned (OpenSpec.ofChange caretCountSpec)

/-- ITS FALSE NEIGHBOUR: 'it returns false'. Refute it at one input. -/
def caretCountWrong : ChangeSpec := { name := "caretCount", fn := fun _ => fun
  | [d] => { results := [.lit (.bool false)], args := [d] }
  | _ => none }
def CaretCountWrongFalsely : Prop := caretCountRow.holds Tryd.pinned (OpenSpec.ofChange caretCountWrong)

/-- 'boustrophedonlaw10.BaseLevel': WHATEVER THE INPUT: true; the input reads as it did. -/
def baseLevelSpec : ChangeSpec := { name := "baseLevel", fn := fun _ => fun
  | [d1, d2] => { results := [.lit (.bool true)], args := [d1, d2] }
  | _ => none }
def baseLevelRow : OpenClaim := { program := "ytjglcaocbepmhaadoor", sum := "7acc45ac468fe06cb74db2e7f75da020f515b199d99ae21b44e221fe56608fa8", func := "boustrophedon/boustrophedonlaw10.BaseLevel", spec := "baseLevel", inPlace := ["internal/reflectlite.ValueOf", "(internal/reflectlite.Value).Type", "(internal/reflectlite.Value).IsNil", "internal/reflectlite.TypeOf", "(internal/reflectlite.Value).Elem", "(internal/reflectlite.Value).Set"], unfollowed := true, recurses := true, named := ["errors.errorType"], apart := false, laid := [("errors.errorType", laid_errors_errorType)] }
def BaseLevelSaid : Prop := baseLevelRow.holds Tryd.pinned (OpenSpec.ofChange baseLevelSpec)

/-- ITS FALSE NEIGHBOUR: 'it returns false'. Refute it at one input. -/
def baseLevelWrong : ChangeSpec := { name := "baseLevel", fn := fun _ => fun
  | [d1, d2] => { results := [.lit (.bool false)], args := [d1, d2] }
  | _ => none }
def BaseLevelWrongFalsely : Prop := baseLevelRow.holds Tryd.pinned (OpenSpec.ofChange baseLevelWrong)

/- THE SECOND FORM. 'bulk': how many values and letters a reading holds, each counted each time it is reached (what is shared counts as often as it is met; a slice's spare places count too). A statement '..UptoSaid' is the law's where the arguments, and the package variables that the reading takes, are together of bulk at most 1048576: NARROWER than '..Said'. Prove '..Said' where nothing that the law and all that it calls make is longer than what came in: it says more and counts as full. Else prove '..UptoSaid'. A law counts once. -/
mutual
def uptoBulk {H : Type} : DataW H → Nat
  | .lit (.string bytes) => bytes.length + 1
  | .lit _ => 1
  | .nil => 1
  | .ptr d => uptoBulk d + 1
  | .slice elems spare => uptoBulkAll elems + uptoBulkAll spare + 1
  | .agg parts => uptoBulkAll parts + 1
  | .iface _ d => uptoBulk d + 1
  | .map entries => uptoBulkEntries entries + 1
  | .held _ => 1
def uptoBulkAll {H : Type} : List (DataW H) → Nat
  | [] => 0
  | d :: r => uptoBulk d + uptoBulkAll r
def uptoBulkEntries {H : Type} : List (Lit × DataW H) → Nat
  | [] => 0
  | x :: r => uptoBulkEntry x + uptoBulkEntries r
def uptoBulkEntry {H : Type} : Lit × DataW H → Nat
  | (.string bytes, d) => bytes.length + uptoBulk d + 1
  | (_, d) => uptoBulk d + 1
 end
def uptoSmall : (H : Type) → List (DataW H) → Bool := fun _ ds => decide (uptoBulkAll ds ≤ 1048576)
def OpenSpec.upto (s : _root_.Go.ChangeSpec) : _root_.Go.OpenSpec := { _root_.Go.OpenSpec.ofChange s with cond := some uptoSmall }

/-- 'boustrophedonlaw29.CaretMoves', WHERE WHAT IT READS IS OF BULK AT MOST 1048576: true; the input reads as it did. -/
def caretMovesUptoRow : OpenClaim := { program := "ytjglcaocbepmhaadoor", sum := "7acc45ac468fe06cb74db2e7f75da020f515b199d99ae21b44e221fe56608fa8", func := "boustrophedon/boustrophedonlaw29.CaretMoves", spec := "caretMoves", inPlace := ["internal/reflectlite.ValueOf", "(internal/reflectlite.Value).Type", "(internal/reflectlite.Value).IsNil", "internal/reflectlite.TypeOf", "(internal/reflectlite.Value).Elem", "(internal/reflectlite.Value).Set"], unfollowed := true, recurses := true, named := ["errors.errorType"], apart := false, laid := [("errors.errorType", laid_errors_errorType)], narrowed := true }
def CaretMovesUptoSaid : Prop := caretMovesUptoRow.holds Tryd.pinned (OpenSpec.upto caretMovesSpec)

/-- 'boustrophedonlaw29.CaretBack', WHERE WHAT IT READS IS OF BULK AT MOST 1048576: true; the input reads as it did. -/
def caretBackUptoRow : OpenClaim := { program := "ytjglcaocbepmhaadoor", sum := "7acc45ac468fe06cb74db2e7f75da020f515b199d99ae21b44e221fe56608fa8", func := "boustrophedon/boustrophedonlaw29.CaretBack", spec := "caretBack", inPlace := ["internal/reflectlite.ValueOf", "(internal/reflectlite.Value).Type", "(internal/reflectlite.Value).IsNil", "internal/reflectlite.TypeOf", "(internal/reflectlite.Value).Elem", "(internal/reflectlite.Value).Set"], unfollowed := true, recurses := true, named := ["errors.errorType"], apart := false, laid := [("errors.errorType", laid_errors_errorType)], narrowed := true }
def CaretBackUptoSaid : Prop := caretBackUptoRow.holds Tryd.pinned (OpenSpec.upto caretBackSpec)

/-- 'boustrophedonlaw29.CaretCount', WHERE WHAT IT READS IS OF BULK AT MOST 1048576: true; the input reads as it did. -/
def caretCountUptoRow : OpenClaim := { program := "ytjglcaocbepmhaadoor", sum := "7acc45ac468fe06cb74db2e7f75da020f515b199d99ae21b44e221fe56608fa8", func := "boustrophedon/boustrophedonlaw29.CaretCount", spec := "caretCount", inPlace := ["internal/reflectlite.ValueOf", "(internal/reflectlite.Value).Type", "(internal/reflectlite.Value).IsNil", "internal/reflectlite.TypeOf", "(internal/reflectlite.Value).Elem", "(internal/reflectlite.Value).Set"], unfollowed := true, recurses := true, named := ["errors.errorType"], apart := false, laid := [("errors.errorType", laid_errors_errorType)], narrowed := true }
def CaretCountUptoSaid : Prop := caretCountUptoRow.holds Tryd.pinned (OpenSpec.upto caretCountSpec)

/-- 'boustrophedonlaw10.BaseLevel', WHERE WHAT IT READS IS OF BULK AT MOST 1048576: true; the input reads as it did. -/
def baseLevelUptoRow : OpenClaim := { program := "ytjglcaocbepmhaadoor", sum := "7acc45ac468fe06cb74db2e7f75da020f515b199d99ae21b44e221fe56608fa8", func := "boustrophedon/boustrophedonlaw10.BaseLevel", spec := "baseLevel", inPlace := ["internal/reflectlite.ValueOf", "(internal/reflectlite.Value).Type", "(internal/reflectlite.Value).IsNil", "internal/reflectlite.TypeOf", "(internal/reflectlite.Value).Elem", "(internal/reflectlite.Value).Set"], unfollowed := true, recurses := true, named := ["errors.errorType"], apart := false, laid := [("errors.errorType", laid_errors_errorType)], narrowed := true }
def BaseLevelUptoSaid : Prop := baseLevelUptoRow.holds Tryd.pinned (OpenSpec.upto baseLevelSpec)

end Rows
end Go.Proofs.YtjglcaocbepmhaaDoor
