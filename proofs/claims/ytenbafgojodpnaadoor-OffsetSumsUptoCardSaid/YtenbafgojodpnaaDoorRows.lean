/-
  NARROWER THAN 'FOR EVERY INPUT', by the rows' own cells (each row's printed sentence says how): OffsetPlaces: laid · OffsetSpans: laid · OffsetBack: laid · OffsetSums: laid · ViewErrors: laid · ViewMost: laid.
  DERIVED. THE GIVEN ROWS OF THIS SEAT. 6 by the template 'for every input the law returns true; each argument reads behind the call as it read before'; 0 by the template 'total and deterministic' (their statements: YtenbafgojodpnaaDoorTotals.lean).
  GIVEN WITH THE SEED: the statements are not yours to turn. If you find one false, say at which input.
  Laid BY PROGRAM, IN A SANDBOX (cutbox-rows.mjs): the forced cells as the released guide's own fill.sh prints them over the translation e97f32aeb9bf5889… (all of the seat's roots in one cut). By AI agents, Wed Nov 11 2026. No macro, syntax, notation, axiom, sorry.
-/
import Derived.Test.YtenbafgojodpnaaDoorChecked
import GoSem.Claim
import GoSem.ClaimJoined
import GoSem.ClaimMapViews
import Derived.JoinedTies
import Derived.KernelRfl
namespace Go.Proofs.YtenbafgojodpnaaDoor
/- THE CELL 'sum', in the pinned program and in every row, IS THE sha256 OF THE DUMP (.gsa) THAT YtenbafgojodpnaaDoorProg.lean LOADS. Nothing in Lean hashes anything: it is a label: what it is worth is what the hold of that sum in a sandbox is worth. -/
noncomputable def Tryd.pinned : Pinned := { name := "ytenbafgojodpnaadoor", sum := "e97f32aeb9bf58892e3b8e023fc949e6eca79a36aa45a9b53b3c8e884cdd69d3", checked := Tryd.checked }
namespace Rows
def none {H : Type} : Left H := { results := [], args := [] }

/- WHAT THE LISTED PACKAGE-LEVEL VARIABLES READ AS WHEN THE CALL BEGINS. Each datum BY PROGRAM (the guide's laid-datum.mjs) off the statement by which the dump's own 'gosem.cut.vars' lays the variable. In a bare row this is a premise. The card (YtenbafgojodpnaaDoorCards.lean) ties it to the program's text. -/
def laid_errors_errorType {H : Type} : DataW H := .iface "internal/reflectlite.rtype" (.agg [.ptr (.lit (.string [101, 114, 114, 111, 114]))])

/-- 'boustrophedonlaw02.OffsetPlaces': WHATEVER THE INPUT: true; the input reads as it did. -/
def offsetPlacesSpec : ChangeSpec := { name := "offsetPlaces", fn := fun _ => fun
  | [d1, d2, d3] => { results := [.lit (.bool true)], args := [d1, d2, d3] }
  | _ => none }
def offsetPlacesRow : OpenClaim := { program := "ytenbafgojodpnaadoor", sum := "e97f32aeb9bf58892e3b8e023fc949e6eca79a36aa45a9b53b3c8e884cdd69d3", func := "boustrophedon/boustrophedonlaw02.OffsetPlaces", spec := "offsetPlaces", inPlace := ["internal/reflectlite.ValueOf", "(internal/reflectlite.Value).Type", "(internal/reflectlite.Value).IsNil", "internal/reflectlite.TypeOf", "(internal/reflectlite.Value).Elem", "(internal/reflectlite.Value).Set"], unfollowed := true, recurses := true, named := ["errors.errorType"], apart := false, laid := [("errors.errorType", laid_errors_errorType)] }
def OffsetPlacesSaid : Prop := offsetPlacesRow.holds Tryd.pinned (OpenSpec.ofChange offsetPlacesSpec)

/-- ITS FALSE NEIGHBOUR: 'it returns false'. Refute it at one input. -/
def offsetPlacesWrong : ChangeSpec := { name := "offsetPlaces", fn := fun _ => fun
  | [d1, d2, d3] => { results := [.lit (.bool false)], args := [d1, d2, d3] }
  | _ => none }
def OffsetPlacesWrongFalsely : Prop := offsetPlacesRow.holds Tryd.pinned (OpenSpec.ofChange offsetPlacesWrong)

/-- 'boustrophedonlaw02.OffsetSpans': WHATEVER THE INPUT: true; the input reads as it did. -/
def offsetSpansSpec : ChangeSpec := { name := "offsetSpans", fn := fun _ => fun
  | [d1, d2, d3] => { results := [.lit (.bool true)], args := [d1, d2, d3] }
  | _ => none }
def offsetSpansRow : OpenClaim := { program := "ytenbafgojodpnaadoor", sum := "e97f32aeb9bf58892e3b8e023fc949e6eca79a36aa45a9b53b3c8e884cdd69d3", func := "boustrophedon/boustrophedonlaw02.OffsetSpans", spec := "offsetSpans", inPlace := ["internal/reflectlite.ValueOf", "(internal/reflectlite.Value).Type", "(internal/reflectlite.Value).IsNil", "internal/reflectlite.TypeOf", "(internal/reflectlite.Value).Elem", "(internal/reflectlite.Value).Set"], unfollowed := true, recurses := true, named := ["errors.errorType"], apart := false, laid := [("errors.errorType", laid_errors_errorType)] }
def OffsetSpansSaid : Prop := offsetSpansRow.holds Tryd.pinned (OpenSpec.ofChange offsetSpansSpec)

/-- ITS FALSE NEIGHBOUR: 'it returns false'. Refute it at one input. -/
def offsetSpansWrong : ChangeSpec := { name := "offsetSpans", fn := fun _ => fun
  | [d1, d2, d3] => { results := [.lit (.bool false)], args := [d1, d2, d3] }
  | _ => none }
def OffsetSpansWrongFalsely : Prop := offsetSpansRow.holds Tryd.pinned (OpenSpec.ofChange offsetSpansWrong)

/-- 'boustrophedonlaw02.OffsetBack': WHATEVER THE INPUT: true; the input reads as it did. -/
def offsetBackSpec : ChangeSpec := { name := "offsetBack", fn := fun _ => fun
  | [d] => { results := [.lit (.bool true)], args := [d] }
  | _ => none }
def offsetBackRow : OpenClaim := { program := "ytenbafgojodpnaadoor", sum := "e97f32aeb9bf58892e3b8e023fc949e6eca79a36aa45a9b53b3c8e884cdd69d3", func := "boustrophedon/boustrophedonlaw02.OffsetBack", spec := "offsetBack", inPlace := ["internal/reflectlite.ValueOf", "(internal/reflectlite.Value).Type", "(internal/reflectlite.Value).IsNil", "internal/reflectlite.TypeOf", "(internal/reflectlite.Value).Elem", "(internal/reflectlite.Value).Set"], unfollowed := true, recurses := true, named := ["errors.errorType"], apart := false, laid := [("errors.errorType", laid_errors_errorType)] }
def OffsetBackSaid : Prop := offsetBackRow.holds Tryd.pinned (OpenSpec.ofChange offsetBackSpec)

/-- ITS FALSE NEIGHBOUR: 'it returns false'. Refute it at one input. -/
def offsetBackWrong : ChangeSpec := { name := "offsetBack", fn := fun _ => fun
  | [d] => { results := [.lit (.bool false)], args := [d] }
  | _ => none }
def OffsetBackWrongFalsely : Prop := offsetBackRow.holds Tryd.pinned (OpenSpec.ofChange offsetBackWrong)

/-- 'boustrophedonlaw02.OffsetSums': WHATEVER THE INPUT: true; the input reads as it did. -/
def offsetSumsSpec : ChangeSpec := { name := "offsetSums", fn := fun _ => fun
  | [d1, d2, d3, d4] => { results := [.lit (.bool true)], args := [d1, d2, d3, d4] }
  | _ => none }
def offsetSumsRow : OpenClaim := { program := "ytenbafgojodpnaadoor", sum := "e97f32aeb9bf58892e3b8e023fc949e6eca79a36aa45a9b53b3c8e884cdd69d3", func := "boustrophedon/boustrophedonlaw02.OffsetSums", spec := "offsetSums", inPlace := ["internal/reflectlite.ValueOf", "(internal/reflectlite.Value).Type", "(internal/reflectlite.Value).IsNil", "internal/reflectlite.TypeOf", "(internal/reflectlite.Value).Elem", "(internal/reflectlite.Value).Set"], unfollowed := true, recurses := true, named := ["errors.errorType"], apart := false, laid := [("errors.errorType", laid_errors_errorType)] }
def OffsetSumsSaid : Prop := offsetSumsRow.holds Tryd.pinned (OpenSpec.ofChange offsetSumsSpec)

/-- ITS FALSE NEIGHBOUR: 'it returns false'. Refute it at one input. -/
def offsetSumsWrong : ChangeSpec := { name := "offsetSums", fn := fun _ => fun
  | [d1, d2, d3, d4] => { results := [.lit (.bool false)], args := [d1, d2, d3, d4] }
  | _ => none }
def OffsetSumsWrongFalsely : Prop := offsetSumsRow.holds Tryd.pinned (OpenSpec.ofChange offsetSumsWrong)

/-- 'boustrophedonlaw36.ViewErrors': WHATEVER THE INPUT: true; the input reads as it did. -/
def viewErrorsSpec : ChangeSpec := { name := "viewErrors", fn := fun _ => fun
  | [d1, d2, d3, d4] => { results := [.lit (.bool true)], args := [d1, d2, d3, d4] }
  | _ => none }
def viewErrorsRow : OpenClaim := { program := "ytenbafgojodpnaadoor", sum := "e97f32aeb9bf58892e3b8e023fc949e6eca79a36aa45a9b53b3c8e884cdd69d3", func := "boustrophedon/boustrophedonlaw36.ViewErrors", spec := "viewErrors", inPlace := ["internal/reflectlite.ValueOf", "(internal/reflectlite.Value).Type", "(internal/reflectlite.Value).IsNil", "internal/reflectlite.TypeOf", "(internal/reflectlite.Value).Elem", "(internal/reflectlite.Value).Set"], unfollowed := true, recurses := true, named := ["errors.errorType"], apart := false, laid := [("errors.errorType", laid_errors_errorType)] }
def ViewErrorsSaid : Prop := viewErrorsRow.holds Tryd.pinned (OpenSpec.ofChange viewErrorsSpec)

/-- ITS FALSE NEIGHBOUR: 'it returns false'. Refute it at one input. -/
def viewErrorsWrong : ChangeSpec := { name := "viewErrors", fn := fun _ => fun
  | [d1, d2, d3, d4] => { results := [.lit (.bool false)], args := [d1, d2, d3, d4] }
  | _ => none }
def ViewErrorsWrongFalsely : Prop := viewErrorsRow.holds Tryd.pinned (OpenSpec.ofChange viewErrorsWrong)

/-- 'boustrophedonlaw36.ViewMost': WHATEVER THE INPUT: true; the input reads as it did. -/
def viewMostSpec : ChangeSpec := { name := "viewMost", fn := fun _ => fun
  | [d1, d2] => { results := [.lit (.bool true)], args := [d1, d2] }
  | _ => none }
def viewMostRow : OpenClaim := { program := "ytenbafgojodpnaadoor", sum := "e97f32aeb9bf58892e3b8e023fc949e6eca79a36aa45a9b53b3c8e884cdd69d3", func := "boustrophedon/boustrophedonlaw36.ViewMost", spec := "viewMost", inPlace := ["internal/reflectlite.ValueOf", "(internal/reflectlite.Value).Type", "(internal/reflectlite.Value).IsNil", "internal/reflectlite.TypeOf", "(internal/reflectlite.Value).Elem", "(internal/reflectlite.Value).Set"], unfollowed := true, recurses := true, named := ["errors.errorType"], apart := false, laid := [("errors.errorType", laid_errors_errorType)] }
def ViewMostSaid : Prop := viewMostRow.holds Tryd.pinned (OpenSpec.ofChange viewMostSpec)

/-- ITS FALSE NEIGHBOUR: 'it returns false'. Refute it at one input. -/
def viewMostWrong : ChangeSpec := { name := "viewMost", fn := fun _ => fun
  | [d1, d2] => { results := [.lit (.bool false)], args := [d1, d2] }
  | _ => none }
def ViewMostWrongFalsely : Prop := viewMostRow.holds Tryd.pinned (OpenSpec.ofChange viewMostWrong)

/- THE SECOND FORM. 'bulk': how many values and letters a reading holds, each counted each time it is reached (what is shared counts as often as it is met; a slice's spare places count too). A statement '..UptoSaid' is the law's where the arguments, and the package variables that the reading takes, are together of bulk at most 1048576: NARROWER than '..Said'. Prove '..Said' where nothing that the law and all that it calls make is longer than what came in: it says more and counts as full. Else prove '..UptoSaid'. A law counts once. -/
mutual
def uptoBulk {H : Type} : DataW H → Nat
  | .lit (.string bytes) => bytes.length + 1
  | .lit _ => 1
  | .nil => 1
  | .ptr d => uptoBulk d + 1
  | .slice elems spare => uptoBulkAll elems + uptoBulkAll spare + 1
  | .agg parts => uptoBulkAll parts + 1
  | .iface _ d => uptoBulk d + 1
  | .map entries => uptoBulkEntries entries + 1
  | .held _ => 1
def uptoBulkAll {H : Type} : List (DataW H) → Nat
  | [] => 0
  | d :: r => uptoBulk d + uptoBulkAll r
def uptoBulkEntries {H : Type} : List (Lit × DataW H) → Nat
  | [] => 0
  | x :: r => uptoBulkEntry x + uptoBulkEntries r
def uptoBulkEntry {H : Type} : Lit × DataW H → Nat
  | (.string bytes, d) => bytes.length + uptoBulk d + 1
  | (_, d) => uptoBulk d + 1
 end
def uptoSmall : (H : Type) → List (DataW H) → Bool := fun _ ds => decide (uptoBulkAll ds ≤ 1048576)
def OpenSpec.upto (s : _root_.Go.ChangeSpec) : _root_.Go.OpenSpec := { _root_.Go.OpenSpec.ofChange s with cond := some uptoSmall }

/-- 'boustrophedonlaw02.OffsetPlaces', WHERE WHAT IT READS IS OF BULK AT MOST 1048576: true; the input reads as it did. -/
def offsetPlacesUptoRow : OpenClaim := { program := "ytenbafgojodpnaadoor", sum := "e97f32aeb9bf58892e3b8e023fc949e6eca79a36aa45a9b53b3c8e884cdd69d3", func := "boustrophedon/boustrophedonlaw02.OffsetPlaces", spec := "offsetPlaces", inPlace := ["internal/reflectlite.ValueOf", "(internal/reflectlite.Value).Type", "(internal/reflectlite.Value).IsNil", "internal/reflectlite.TypeOf", "(internal/reflectlite.Value).Elem", "(internal/reflectlite.Value).Set"], unfollowed := true, recurses := true, named := ["errors.errorType"], apart := false, laid := [("errors.errorType", laid_errors_errorType)], narrowed := true }
def OffsetPlacesUptoSaid : Prop := offsetPlacesUptoRow.holds Tryd.pinned (OpenSpec.upto offsetPlacesSpec)

/-- 'boustrophedonlaw02.OffsetSpans', WHERE WHAT IT READS IS OF BULK AT MOST 1048576: true; the input reads as it did. -/
def offsetSpansUptoRow : OpenClaim := { program := "ytenbafgojodpnaadoor", sum := "e97f32aeb9bf58892e3b8e023fc949e6eca79a36aa45a9b53b3c8e884cdd69d3", func := "boustrophedon/boustrophedonlaw02.OffsetSpans", spec := "offsetSpans", inPlace := ["internal/reflectlite.ValueOf", "(internal/reflectlite.Value).Type", "(internal/reflectlite.Value).IsNil", "internal/reflectlite.TypeOf", "(internal/reflectlite.Value).Elem", "(internal/reflectlite.Value).Set"], unfollowed := true, recurses := true, named := ["errors.errorType"], apart := false, laid := [("errors.errorType", laid_errors_errorType)], narrowed := true }
def OffsetSpansUptoSaid : Prop := offsetSpansUptoRow.holds Tryd.pinned (OpenSpec.upto offsetSpansSpec)

/-- 'boustrophedonlaw02.OffsetBack', WHERE WHAT IT READS IS OF BULK AT MOST 1048576: true; the input reads as it did. -/
def offsetBackUptoRow : OpenClaim := { program := "ytenbafgojodpnaadoor", sum := "e97f32aeb9bf58892e3b8e023fc949e6eca79a36aa45a9b53b3c8e884cdd69d3", func := "boustrophedon/boustrophedonlaw02.OffsetBack", spec := "offsetBack", inPlace := ["internal/reflectlite.ValueOf", "(internal/reflectlite.Value).Type", "(internal/reflectlite.Value).IsNil", "internal/reflectlite.TypeOf", "(internal/reflectlite.Value).Elem", "(internal/reflectlite.Value).Set"], unfollowed := true, recurses := true, named := ["errors.errorType"], apart := false, laid := [("errors.errorType", laid_errors_errorType)], narrowed := true }
def OffsetBackUptoSaid : Prop := offsetBackUptoRow.holds Tryd.pinned (OpenSpec.upto offsetBackSpec)

/-- 'boustrophedonlaw02.OffsetSums', WHERE WHAT IT READS IS OF BULK AT MOST 1048576: true; the input reads as it did. -/
def offsetSumsUptoRow : OpenClaim := { program := "ytenbafgojodpnaadoor", sum := "e97f32aeb9bf58892e3b8e023fc949e6eca79a36aa45a9b53b3c8e884cdd69d3", func := "boustrophedon/boustrophedonlaw02.OffsetSums", spec := "offsetSums", inPlace := ["internal/reflectlite.ValueOf", "(internal/reflectlite.Value).Type", "(internal/reflectlite.Value).IsNil", "internal/reflectlite.TypeOf", "(internal/reflectlite.Value).Elem", "(internal/reflectlite.Value).Set"], unfollowed := true, recurses := true, named := ["errors.errorType"], apart := false, laid := [("errors.errorType", laid_errors_errorType)], narrowed := true }
def OffsetSumsUptoSaid : Prop := offsetSumsUptoRow.holds Tryd.pinned (OpenSpec.upto offsetSumsSpec)

/-- 'boustrophedonlaw36.ViewErrors', WHERE WHAT IT READS IS OF BULK AT MOST 1048576: true; the input reads as it did. -/
def viewErrorsUptoRow : OpenClaim := { program := "ytenbafgojodpnaadoor", sum := "e97f32aeb9bf58892e3b8e023fc949e6eca79a36aa45a9b53b3c8e884cdd69d3", func := "boustrophedon/boustrophedonlaw36.ViewErrors", spec := "viewErrors", inPlace := ["internal/reflectlite.ValueOf", "(internal/reflectlite.Value).Type", "(internal/reflectlite.Value).IsNil", "internal/reflectlite.TypeOf", "(internal/reflectlite.Value).Elem", "(internal/reflectlite.Value).Set"], unfollowed := true, recurses := true, named := ["errors.errorType"], apart := false, laid := [("errors.errorType", laid_errors_errorType)], narrowed := true }
def ViewErrorsUptoSaid : Prop := viewErrorsUptoRow.holds Tryd.pinned (OpenSpec.upto viewErrorsSpec)

/-- 'boustrophedonlaw36.ViewMost', WHERE WHAT IT READS IS OF BULK AT MOST 1048576: true; the input reads as it did. -/
def viewMostUptoRow : OpenClaim := { program := "ytenbafgojodpnaadoor", sum := "e97f32aeb9bf58892e3b8e023fc949e6eca79a36aa45a9b53b3c8e884cdd69d3", func := "boustrophedon/boustrophedonlaw36.ViewMost", spec := "viewMost", inPlace := ["internal/reflectlite.ValueOf", "(internal/reflectlite.Value).Type", "(internal/reflectlite.Value).IsNil", "internal/reflectlite.TypeOf", "(internal/reflectlite.Value).Elem", "(internal/reflectlite.Value).Set"], unfollowed := true, recurses := true, named := ["errors.errorType"], apart := false, laid := [("errors.errorType", laid_errors_errorType)], narrowed := true }
def ViewMostUptoSaid : Prop := viewMostUptoRow.holds Tryd.pinned (OpenSpec.upto viewMostSpec)

end Rows
end Go.Proofs.YtenbafgojodpnaaDoor
