/-
  No cell of these rows narrows 'for every input' (looked for: loops, veiled, ifaces, maps, wideKeys, modest, calm, conditions, laid).
  DERIVED. THE GIVEN ROWS OF THIS SEAT. 8 by the template 'for every input the law returns true; each argument reads behind the call as it read before'; 0 by the template 'total and deterministic' (their statements: YtfljkcfahhkfbabTotals.lean).
  GIVEN WITH THE SEED: the statements are not yours to turn. If you find one false, say at which input.
  Laid BY PROGRAM, IN A SANDBOX (cutbox-rows.mjs): the forced cells as the released guide's own fill.sh prints them over the translation 47952ffbefe6e1df… (all of the seat's roots in one cut). By AI agents, Wed Nov 11 2026. No macro, syntax, notation, axiom, sorry.
-/
import Derived.Test.YtfljkcfahhkfbabChecked
import GoSem.Claim
import GoSem.ClaimJoined
import GoSem.ClaimMapViews
import Derived.JoinedTies
import Derived.KernelRfl
namespace Go.Proofs.Ytfljkcfahhkfbab
/- THE CELL 'sum', in the pinned program and in every row, IS THE sha256 OF THE DUMP (.gsa) THAT YtfljkcfahhkfbabProg.lean LOADS. Nothing in Lean hashes anything: it is a label: what it is worth is what the hold of that sum in a sandbox is worth. -/
noncomputable def Try.pinned : Pinned := { name := "ytfljkcfahhkfbab", sum := "47952ffbefe6e1dfc2bf9c0eb201307e4d785e0440ec3ae0e80cbabcb3232754", checked := Try.checked }
namespace Rows
def none {H : Type} : Left H := { results := [], args := [] }

/-- 'boustrophedonlaw34.AlignBoth': WHATEVER THE INPUT: true; the input reads as it did. -/
def alignBothSpec : ChangeSpec := { name := "alignBoth", fn := fun _ => fun
  | [d1, d2, d3] => { results := [.lit (.bool true)], args := [d1, d2, d3] }
  | _ => none }
def alignBothRow : OpenClaim := { program := "ytfljkcfahhkfbab", sum := "47952ffbefe6e1dfc2bf9c0eb201307e4d785e0440ec3ae0e80cbabcb3232754", func := "boustrophedon/boustrophedonlaw34.AlignBoth", spec := "alignBoth", apart := false }
def AlignBothSaid : Prop := alignBothRow.holds Try.pinned (OpenSpec.ofChange alignBothSpec)

/-- ITS FALSE NEIGHBOUR: 'it returns false'. Refute it at one input. -/
def alignBothWrong : ChangeSpec := { name := "alignBoth", fn := fun _ => fun
  | [d1, d2, d3] => { results := [.lit (.bool false)], args := [d1, d2, d3] }
  | _ => none }
def AlignBothWrongFalsely : Prop := alignBothRow.holds Try.pinned (OpenSpec.ofChange alignBothWrong)

/-- 'boustrophedonlaw34.AlignJustify': WHATEVER THE INPUT: true; the input reads as it did. -/
def alignJustifySpec : ChangeSpec := { name := "alignJustify", fn := fun _ => fun
  | [d1, d2, d3] => { results := [.lit (.bool true)], args := [d1, d2, d3] }
  | _ => none }
def alignJustifyRow : OpenClaim := { program := "ytfljkcfahhkfbab", sum := "47952ffbefe6e1dfc2bf9c0eb201307e4d785e0440ec3ae0e80cbabcb3232754", func := "boustrophedon/boustrophedonlaw34.AlignJustify", spec := "alignJustify", apart := false }
def AlignJustifySaid : Prop := alignJustifyRow.holds Try.pinned (OpenSpec.ofChange alignJustifySpec)

/-- ITS FALSE NEIGHBOUR: 'it returns false'. Refute it at one input. -/
def alignJustifyWrong : ChangeSpec := { name := "alignJustify", fn := fun _ => fun
  | [d1, d2, d3] => { results := [.lit (.bool false)], args := [d1, d2, d3] }
  | _ => none }
def AlignJustifyWrongFalsely : Prop := alignJustifyRow.holds Try.pinned (OpenSpec.ofChange alignJustifyWrong)

/-- 'boustrophedonlaw34.AlignTwice': WHATEVER THE INPUT: true; the input reads as it did. -/
def alignTwiceSpec : ChangeSpec := { name := "alignTwice", fn := fun _ => fun
  | [d1, d2, d3] => { results := [.lit (.bool true)], args := [d1, d2, d3] }
  | _ => none }
def alignTwiceRow : OpenClaim := { program := "ytfljkcfahhkfbab", sum := "47952ffbefe6e1dfc2bf9c0eb201307e4d785e0440ec3ae0e80cbabcb3232754", func := "boustrophedon/boustrophedonlaw34.AlignTwice", spec := "alignTwice", apart := false }
def AlignTwiceSaid : Prop := alignTwiceRow.holds Try.pinned (OpenSpec.ofChange alignTwiceSpec)

/-- ITS FALSE NEIGHBOUR: 'it returns false'. Refute it at one input. -/
def alignTwiceWrong : ChangeSpec := { name := "alignTwice", fn := fun _ => fun
  | [d1, d2, d3] => { results := [.lit (.bool false)], args := [d1, d2, d3] }
  | _ => none }
def AlignTwiceWrongFalsely : Prop := alignTwiceRow.holds Try.pinned (OpenSpec.ofChange alignTwiceWrong)

/-- 'boustrophedonlaw35.SelectsBands': WHATEVER THE INPUT: true; the input reads as it did. -/
def selectsBandsSpec : ChangeSpec := { name := "selectsBands", fn := fun _ => fun
  | [d1, d2, d3, d4] => { results := [.lit (.bool true)], args := [d1, d2, d3, d4] }
  | _ => none }
def selectsBandsRow : OpenClaim := { program := "ytfljkcfahhkfbab", sum := "47952ffbefe6e1dfc2bf9c0eb201307e4d785e0440ec3ae0e80cbabcb3232754", func := "boustrophedon/boustrophedonlaw35.SelectsBands", spec := "selectsBands", apart := false }
def SelectsBandsSaid : Prop := selectsBandsRow.holds Try.pinned (OpenSpec.ofChange selectsBandsSpec)

/-- ITS FALSE NEIGHBOUR: 'it returns false'. Refute it at one input. -/
def selectsBandsWrong : ChangeSpec := { name := "selectsBands", fn := fun _ => fun
  | [d1, d2, d3, d4] => { results := [.lit (.bool false)], args := [d1, d2, d3, d4] }
  | _ => none }
def SelectsBandsWrongFalsely : Prop := selectsBandsRow.holds Try.pinned (OpenSpec.ofChange selectsBandsWrong)

/-- 'boustrophedonlaw35.SelectsPlaces': WHATEVER THE INPUT: true; the input reads as it did. -/
def selectsPlacesSpec : ChangeSpec := { name := "selectsPlaces", fn := fun _ => fun
  | [d1, d2, d3, d4] => { results := [.lit (.bool true)], args := [d1, d2, d3, d4] }
  | _ => none }
def selectsPlacesRow : OpenClaim := { program := "ytfljkcfahhkfbab", sum := "47952ffbefe6e1dfc2bf9c0eb201307e4d785e0440ec3ae0e80cbabcb3232754", func := "boustrophedon/boustrophedonlaw35.SelectsPlaces", spec := "selectsPlaces", apart := false }
def SelectsPlacesSaid : Prop := selectsPlacesRow.holds Try.pinned (OpenSpec.ofChange selectsPlacesSpec)

/-- ITS FALSE NEIGHBOUR: 'it returns false'. Refute it at one input. -/
def selectsPlacesWrong : ChangeSpec := { name := "selectsPlaces", fn := fun _ => fun
  | [d1, d2, d3, d4] => { results := [.lit (.bool false)], args := [d1, d2, d3, d4] }
  | _ => none }
def SelectsPlacesWrongFalsely : Prop := selectsPlacesRow.holds Try.pinned (OpenSpec.ofChange selectsPlacesWrong)

/-- 'boustrophedonlaw35.SelectsBack': WHATEVER THE INPUT: true; the input reads as it did. -/
def selectsBackSpec : ChangeSpec := { name := "selectsBack", fn := fun _ => fun
  | [d1, d2, d3, d4] => { results := [.lit (.bool true)], args := [d1, d2, d3, d4] }
  | _ => none }
def selectsBackRow : OpenClaim := { program := "ytfljkcfahhkfbab", sum := "47952ffbefe6e1dfc2bf9c0eb201307e4d785e0440ec3ae0e80cbabcb3232754", func := "boustrophedon/boustrophedonlaw35.SelectsBack", spec := "selectsBack", apart := false }
def SelectsBackSaid : Prop := selectsBackRow.holds Try.pinned (OpenSpec.ofChange selectsBackSpec)

/-- ITS FALSE NEIGHBOUR: 'it returns false'. Refute it at one input. -/
def selectsBackWrong : ChangeSpec := { name := "selectsBack", fn := fun _ => fun
  | [d1, d2, d3, d4] => { results := [.lit (.bool false)], args := [d1, d2, d3, d4] }
  | _ => none }
def SelectsBackWrongFalsely : Prop := selectsBackRow.holds Try.pinned (OpenSpec.ofChange selectsBackWrong)

/-- 'boustrophedonlaw35.SelectsWhole': WHATEVER THE INPUT: true; the input reads as it did. -/
def selectsWholeSpec : ChangeSpec := { name := "selectsWhole", fn := fun _ => fun
  | [d1, d2, d3] => { results := [.lit (.bool true)], args := [d1, d2, d3] }
  | _ => none }
def selectsWholeRow : OpenClaim := { program := "ytfljkcfahhkfbab", sum := "47952ffbefe6e1dfc2bf9c0eb201307e4d785e0440ec3ae0e80cbabcb3232754", func := "boustrophedon/boustrophedonlaw35.SelectsWhole", spec := "selectsWhole", apart := false }
def SelectsWholeSaid : Prop := selectsWholeRow.holds Try.pinned (OpenSpec.ofChange selectsWholeSpec)

/-- ITS FALSE NEIGHBOUR: 'it returns false'. Refute it at one input. -/
def selectsWholeWrong : ChangeSpec := { name := "selectsWhole", fn := fun _ => fun
  | [d1, d2, d3] => { results := [.lit (.bool false)], args := [d1, d2, d3] }
  | _ => none }
def SelectsWholeWrongFalsely : Prop := selectsWholeRow.holds Try.pinned (OpenSpec.ofChange selectsWholeWrong)

/-- 'boustrophedonlaw24.RelevelOf': WHATEVER THE INPUT: true; the input reads as it did. -/
def relevelOfSpec : ChangeSpec := { name := "relevelOf", fn := fun _ => fun
  | [d1, d2, d3] => { results := [.lit (.bool true)], args := [d1, d2, d3] }
  | _ => none }
def relevelOfRow : OpenClaim := { program := "ytfljkcfahhkfbab", sum := "47952ffbefe6e1dfc2bf9c0eb201307e4d785e0440ec3ae0e80cbabcb3232754", func := "boustrophedon/boustrophedonlaw24.RelevelOf", spec := "relevelOf", apart := false }
def RelevelOfSaid : Prop := relevelOfRow.holds Try.pinned (OpenSpec.ofChange relevelOfSpec)

/-- ITS FALSE NEIGHBOUR: 'it returns false'. Refute it at one input. -/
def relevelOfWrong : ChangeSpec := { name := "relevelOf", fn := fun _ => fun
  | [d1, d2, d3] => { results := [.lit (.bool false)], args := [d1, d2, d3] }
  | _ => none }
def RelevelOfWrongFalsely : Prop := relevelOfRow.holds Try.pinned (OpenSpec.ofChange relevelOfWrong)

/- THE SECOND FORM. 'bulk': how many values and letters a reading holds, each counted each time it is reached (what is shared counts as often as it is met; a slice's spare places count too). A statement '..UptoSaid' is the law's where the arguments, and the package variables that the reading takes, are together of bulk at most 1048576: NARROWER than '..Said'. Prove '..Said' where nothing that the law and all that it calls make is longer than what came in: it says more and counts as full. Else prove '..UptoSaid'. A law counts once. -/
mutual
def uptoBulk {H : Type} : DataW H → Nat
  | .lit (.string bytes) => bytes.length + 1
  | .lit _ => 1
  | .nil => 1
  | .ptr d => uptoBulk d + 1
  | .slice elems spare => uptoBulkAll elems + uptoBulkAll spare + 1
  | .agg parts => uptoBulkAll parts + 1
  | .iface _ d => uptoBulk d + 1
  | .map entries => uptoBulkEntries entries + 1
  | .held _ => 1
def uptoBulkAll {H : Type} : List (DataW H) → Nat
  | [] => 0
  | d :: r => uptoBulk d + uptoBulkAll r
def uptoBulkEntries {H : Type} : List (Lit × DataW H) → Nat
  | [] => 0
  | x :: r => uptoBulkEntry x + uptoBulkEntries r
def uptoBulkEntry {H : Type} : Lit × DataW H → Nat
  | (.string bytes, d) => bytes.length + uptoBulk d + 1
  | (_, d) => uptoBulk d + 1
 end
def uptoSmall : (H : Type) → List (DataW H) → Bool := fun _ ds => decide (uptoBulkAll ds ≤ 1048576)
def OpenSpec.upto (s : _root_.Go.ChangeSpec) : _root_.Go.OpenSpec := { _root_.Go.OpenSpec.ofChange s with cond := some uptoSmall }

/-- 'boustrophedonlaw34.AlignBoth', WHERE WHAT IT READS IS OF BULK AT MOST 1048576: true; the input reads as it did. -/
def alignBothUptoRow : OpenClaim := { program := "ytfljkcfahhkfbab", sum := "47952ffbefe6e1dfc2bf9c0eb201307e4d785e0440ec3ae0e80cbabcb3232754", func := "boustrophedon/boustrophedonlaw34.AlignBoth", spec := "alignBoth", apart := false, narrowed := true }
def AlignBothUptoSaid : Prop := alignBothUptoRow.holds Try.pinned (OpenSpec.upto alignBothSpec)

/-- 'boustrophedonlaw34.AlignJustify', WHERE WHAT IT READS IS OF BULK AT MOST 1048576: true; the input reads as it did. -/
def alignJustifyUptoRow : OpenClaim := { program := "ytfljkcfahhkfbab", sum := "47952ffbefe6e1dfc2bf9c0eb201307e4d785e0440ec3ae0e80cbabcb3232754", func := "boustrophedon/boustrophedonlaw34.AlignJustify", spec := "alignJustify", apart := false, narrowed := true }
def AlignJustifyUptoSaid : Prop := alignJustifyUptoRow.holds Try.pinned (OpenSpec.upto alignJustifySpec)

/-- 'boustrophedonlaw34.AlignTwice', WHERE WHAT IT READS IS OF BULK AT MOST 1048576: true; the input reads as it did. -/
def alignTwiceUptoRow : OpenClaim := { program := "ytfljkcfahhkfbab", sum := "47952ffbefe6e1dfc2bf9c0eb201307e4d785e0440ec3ae0e80cbabcb3232754", func := "boustrophedon/boustrophedonlaw34.AlignTwice", spec := "alignTwice", apart := false, narrowed := true }
def AlignTwiceUptoSaid : Prop := alignTwiceUptoRow.holds Try.pinned (OpenSpec.upto alignTwiceSpec)

/-- 'boustrophedonlaw35.SelectsBands', WHERE WHAT IT READS IS OF BULK AT MOST 1048576: true; the input reads as it did. -/
def selectsBandsUptoRow : OpenClaim := { program := "ytfljkcfahhkfbab", sum := "47952ffbefe6e1dfc2bf9c0eb201307e4d785e0440ec3ae0e80cbabcb3232754", func := "boustrophedon/boustrophedonlaw35.SelectsBands", spec := "selectsBands", apart := false, narrowed := true }
def SelectsBandsUptoSaid : Prop := selectsBandsUptoRow.holds Try.pinned (OpenSpec.upto selectsBandsSpec)

/-- 'boustrophedonlaw35.SelectsPlaces', WHERE WHAT IT READS IS OF BULK AT MOST 1048576: true; the input reads as it did. -/
def selectsPlacesUptoRow : OpenClaim := { program := "ytfljkcfahhkfbab", sum := "47952ffbefe6e1dfc2bf9c0eb201307e4d785e0440ec3ae0e80cbabcb3232754", func := "boustrophedon/boustrophedonlaw35.SelectsPlaces", spec := "selectsPlaces", apart := false, narrowed := true }
def SelectsPlacesUptoSaid : Prop := selectsPlacesUptoRow.holds Try.pinned (OpenSpec.upto selectsPlacesSpec)

/-- 'boustrophedonlaw35.SelectsBack', WHERE WHAT IT READS IS OF BULK AT MOST 1048576: true; the input reads as it did. -/
def selectsBackUptoRow : OpenClaim := { program := "ytfljkcfahhkfbab", sum := "47952ffbefe6e1dfc2bf9c0eb201307e4d785e0440ec3ae0e80cbabcb3232754", func := "boustrophedon/boustrophedonlaw35.SelectsBack", spec := "selectsBack", apart := false, narrowed := true }
def SelectsBackUptoSaid : Prop := selectsBackUptoRow.holds Try.pinned (OpenSpec.upto selectsBackSpec)

/-- 'boustrophedonlaw35.SelectsWhole', WHERE WHAT IT READS IS OF BULK AT MOST 1048576: true; the input reads as it did. -/
def selectsWholeUptoRow : OpenClaim := { program := "ytfljkcfahhkfbab", sum := "47952ffbefe6e1dfc2bf9c0eb201307e4d785e0440ec3ae0e80cbabcb3232754", func := "boustrophedon/boustrophedonlaw35.SelectsWhole", spec := "selectsWhole", apart := false, narrowed := true }
def SelectsWholeUptoSaid : Prop := selectsWholeUptoRow.holds Try.pinned (OpenSpec.upto selectsWholeSpec)

/-- 'boustrophedonlaw24.RelevelOf', WHERE WHAT IT READS IS OF BULK AT MOST 1048576: true; the input reads as it did. -/
def relevelOfUptoRow : OpenClaim := { program := "ytfljkcfahhkfbab", sum := "47952ffbefe6e1dfc2bf9c0eb201307e4d785e0440ec3ae0e80cbabcb3232754", func := "boustrophedon/boustrophedonlaw24.RelevelOf", spec := "relevelOf", apart := false, narrowed := true }
def RelevelOfUptoSaid : Prop := relevelOfUptoRow.holds Try.pinned (OpenSpec.upto relevelOfSpec)

end Rows
end Go.Proofs.Ytfljkcfahhkfbab
