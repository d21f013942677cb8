/-
  No cell of these rows narrows 'for every input' (looked for: loops, veiled, ifaces, maps, wideKeys, modest, calm, conditions, laid).
  DERIVED. THE GIVEN ROWS OF THIS SEAT. 11 by the template 'for every input the law returns true; each argument reads behind the call as it read before'; 0 by the template 'total and deterministic' (their statements: YtiijkbdffbjehaaTotals.lean).
  GIVEN WITH THE SEED: the statements are not yours to turn. If you find one false, say at which input.
  Laid BY PROGRAM, IN A SANDBOX (cutbox-rows.mjs): the forced cells as the released guide's own fill.sh prints them over the translation 01b53c6263aa320a… (all of the seat's roots in one cut). By AI agents, Wed Nov 11 2026. No macro, syntax, notation, axiom, sorry.
-/
import Derived.Test.YtiijkbdffbjehaaChecked
import GoSem.Claim
import GoSem.ClaimJoined
import GoSem.ClaimMapViews
import Derived.JoinedTies
import Derived.KernelRfl
namespace Go.Proofs.Ytiijkbdffbjehaa
/- THE CELL 'sum', in the pinned program and in every row, IS THE sha256 OF THE DUMP (.gsa) THAT YtiijkbdffbjehaaProg.lean LOADS. Nothing in Lean hashes anything: it is a label: what it is worth is what the hold of that sum in a sandbox is worth. -/
noncomputable def Try.pinned : Pinned := { name := "ytiijkbdffbjehaa", sum := "01b53c6263aa320a3639d0ba91df4471992d83df4f2ee0cb1ff02eeff7fadb06", checked := Try.checked }
namespace Rows
def none {H : Type} : Left H := { results := [], args := [] }

/-- 'boustrophedonlaw25.OrderVisual': WHATEVER THE INPUT: true; the input reads as it did. -/
def orderVisualSpec : ChangeSpec := { name := "orderVisual", fn := fun _ => fun
  | [d1, d2] => { results := [.lit (.bool true)], args := [d1, d2] }
  | _ => none }
def orderVisualRow : OpenClaim := { program := "ytiijkbdffbjehaa", sum := "01b53c6263aa320a3639d0ba91df4471992d83df4f2ee0cb1ff02eeff7fadb06", func := "boustrophedon/boustrophedonlaw25.OrderVisual", spec := "orderVisual", apart := false }
def OrderVisualSaid : Prop := orderVisualRow.holds Try.pinned (OpenSpec.ofChange orderVisualSpec)

/-- ITS FALSE NEIGHBOUR: 'it returns false'. Refute it at one input. -/
def orderVisualWrong : ChangeSpec := { name := "orderVisual", fn := fun _ => fun
  | [d1, d2] => { results := [.lit (.bool false)], args := [d1, d2] }
  | _ => none }
def OrderVisualWrongFalsely : Prop := orderVisualRow.holds Try.pinned (OpenSpec.ofChange orderVisualWrong)

/-- 'boustrophedonlaw25.OrderBack': WHATEVER THE INPUT: true; the input reads as it did. -/
def orderBackSpec : ChangeSpec := { name := "orderBack", fn := fun _ => fun
  | [d1, d2] => { results := [.lit (.bool true)], args := [d1, d2] }
  | _ => none }
def orderBackRow : OpenClaim := { program := "ytiijkbdffbjehaa", sum := "01b53c6263aa320a3639d0ba91df4471992d83df4f2ee0cb1ff02eeff7fadb06", func := "boustrophedon/boustrophedonlaw25.OrderBack", spec := "orderBack", apart := false }
def OrderBackSaid : Prop := orderBackRow.holds Try.pinned (OpenSpec.ofChange orderBackSpec)

/-- ITS FALSE NEIGHBOUR: 'it returns false'. Refute it at one input. -/
def orderBackWrong : ChangeSpec := { name := "orderBack", fn := fun _ => fun
  | [d1, d2] => { results := [.lit (.bool false)], args := [d1, d2] }
  | _ => none }
def OrderBackWrongFalsely : Prop := orderBackRow.holds Try.pinned (OpenSpec.ofChange orderBackWrong)

/-- 'boustrophedonlaw25.OrderBoth': WHATEVER THE INPUT: true; the input reads as it did. -/
def orderBothSpec : ChangeSpec := { name := "orderBoth", fn := fun _ => fun
  | [d] => { results := [.lit (.bool true)], args := [d] }
  | _ => none }
def orderBothRow : OpenClaim := { program := "ytiijkbdffbjehaa", sum := "01b53c6263aa320a3639d0ba91df4471992d83df4f2ee0cb1ff02eeff7fadb06", func := "boustrophedon/boustrophedonlaw25.OrderBoth", spec := "orderBoth", apart := false }
def OrderBothSaid : Prop := orderBothRow.holds Try.pinned (OpenSpec.ofChange orderBothSpec)

/-- ITS FALSE NEIGHBOUR: 'it returns false'. Refute it at one input. -/
def orderBothWrong : ChangeSpec := { name := "orderBoth", fn := fun _ => fun
  | [d] => { results := [.lit (.bool false)], args := [d] }
  | _ => none }
def OrderBothWrongFalsely : Prop := orderBothRow.holds Try.pinned (OpenSpec.ofChange orderBothWrong)

/-- 'boustrophedonlaw25.OrderTwo': WHATEVER THE INPUT: true; the input reads as it did. -/
def orderTwoSpec : ChangeSpec := { name := "orderTwo", fn := fun _ => fun
  | [d1, d2] => { results := [.lit (.bool true)], args := [d1, d2] }
  | _ => none }
def orderTwoRow : OpenClaim := { program := "ytiijkbdffbjehaa", sum := "01b53c6263aa320a3639d0ba91df4471992d83df4f2ee0cb1ff02eeff7fadb06", func := "boustrophedon/boustrophedonlaw25.OrderTwo", spec := "orderTwo", apart := false }
def OrderTwoSaid : Prop := orderTwoRow.holds Try.pinned (OpenSpec.ofChange orderTwoSpec)

/-- ITS FALSE NEIGHBOUR: 'it returns false'. Refute it at one input. -/
def orderTwoWrong : ChangeSpec := { name := "orderTwo", fn := fun _ => fun
  | [d1, d2] => { results := [.lit (.bool false)], args := [d1, d2] }
  | _ => none }
def OrderTwoWrongFalsely : Prop := orderTwoRow.holds Try.pinned (OpenSpec.ofChange orderTwoWrong)

/-- 'boustrophedonlaw25.OrderParts': WHATEVER THE INPUT: true; the input reads as it did. -/
def orderPartsSpec : ChangeSpec := { name := "orderParts", fn := fun _ => fun
  | [d1, d2] => { results := [.lit (.bool true)], args := [d1, d2] }
  | _ => none }
def orderPartsRow : OpenClaim := { program := "ytiijkbdffbjehaa", sum := "01b53c6263aa320a3639d0ba91df4471992d83df4f2ee0cb1ff02eeff7fadb06", func := "boustrophedon/boustrophedonlaw25.OrderParts", spec := "orderParts", apart := false }
def OrderPartsSaid : Prop := orderPartsRow.holds Try.pinned (OpenSpec.ofChange orderPartsSpec)

/-- ITS FALSE NEIGHBOUR: 'it returns false'. Refute it at one input. -/
def orderPartsWrong : ChangeSpec := { name := "orderParts", fn := fun _ => fun
  | [d1, d2] => { results := [.lit (.bool false)], args := [d1, d2] }
  | _ => none }
def OrderPartsWrongFalsely : Prop := orderPartsRow.holds Try.pinned (OpenSpec.ofChange orderPartsWrong)

/-- 'boustrophedonlaw34.AlignBoth': WHATEVER THE INPUT: true; the input reads as it did. -/
def alignBothSpec : ChangeSpec := { name := "alignBoth", fn := fun _ => fun
  | [d1, d2, d3] => { results := [.lit (.bool true)], args := [d1, d2, d3] }
  | _ => none }
def alignBothRow : OpenClaim := { program := "ytiijkbdffbjehaa", sum := "01b53c6263aa320a3639d0ba91df4471992d83df4f2ee0cb1ff02eeff7fadb06", func := "boustrophedon/boustrophedonlaw34.AlignBoth", spec := "alignBoth", apart := false }
def AlignBothSaid : Prop := alignBothRow.holds Try.pinned (OpenSpec.ofChange alignBothSpec)

/-- ITS FALSE NEIGHBOUR: 'it returns false'. Refute it at one input. -/
def alignBothWrong : ChangeSpec := { name := "alignBoth", fn := fun _ => fun
  | [d1, d2, d3] => { results := [.lit (.bool false)], args := [d1, d2, d3] }
  | _ => none }
def AlignBothWrongFalsely : Prop := alignBothRow.holds Try.pinned (OpenSpec.ofChange alignBothWrong)

/-- 'boustrophedonlaw34.AlignJustify': WHATEVER THE INPUT: true; the input reads as it did. -/
def alignJustifySpec : ChangeSpec := { name := "alignJustify", fn := fun _ => fun
  | [d1, d2, d3] => { results := [.lit (.bool true)], args := [d1, d2, d3] }
  | _ => none }
def alignJustifyRow : OpenClaim := { program := "ytiijkbdffbjehaa", sum := "01b53c6263aa320a3639d0ba91df4471992d83df4f2ee0cb1ff02eeff7fadb06", func := "boustrophedon/boustrophedonlaw34.AlignJustify", spec := "alignJustify", apart := false }
def AlignJustifySaid : Prop := alignJustifyRow.holds Try.pinned (OpenSpec.ofChange alignJustifySpec)

/-- ITS FALSE NEIGHBOUR: 'it returns false'. Refute it at one input. -/
def alignJustifyWrong : ChangeSpec := { name := "alignJustify", fn := fun _ => fun
  | [d1, d2, d3] => { results := [.lit (.bool false)], args := [d1, d2, d3] }
  | _ => none }
def AlignJustifyWrongFalsely : Prop := alignJustifyRow.holds Try.pinned (OpenSpec.ofChange alignJustifyWrong)

/-- 'boustrophedonlaw34.AlignTwice': WHATEVER THE INPUT: true; the input reads as it did. -/
def alignTwiceSpec : ChangeSpec := { name := "alignTwice", fn := fun _ => fun
  | [d1, d2, d3] => { results := [.lit (.bool true)], args := [d1, d2, d3] }
  | _ => none }
def alignTwiceRow : OpenClaim := { program := "ytiijkbdffbjehaa", sum := "01b53c6263aa320a3639d0ba91df4471992d83df4f2ee0cb1ff02eeff7fadb06", func := "boustrophedon/boustrophedonlaw34.AlignTwice", spec := "alignTwice", apart := false }
def AlignTwiceSaid : Prop := alignTwiceRow.holds Try.pinned (OpenSpec.ofChange alignTwiceSpec)

/-- ITS FALSE NEIGHBOUR: 'it returns false'. Refute it at one input. -/
def alignTwiceWrong : ChangeSpec := { name := "alignTwice", fn := fun _ => fun
  | [d1, d2, d3] => { results := [.lit (.bool false)], args := [d1, d2, d3] }
  | _ => none }
def AlignTwiceWrongFalsely : Prop := alignTwiceRow.holds Try.pinned (OpenSpec.ofChange alignTwiceWrong)

/-- 'boustrophedonlaw35.SelectsBands': WHATEVER THE INPUT: true; the input reads as it did. -/
def selectsBandsSpec : ChangeSpec := { name := "selectsBands", fn := fun _ => fun
  | [d1, d2, d3, d4] => { results := [.lit (.bool true)], args := [d1, d2, d3, d4] }
  | _ => none }
def selectsBandsRow : OpenClaim := { program := "ytiijkbdffbjehaa", sum := "01b53c6263aa320a3639d0ba91df4471992d83df4f2ee0cb1ff02eeff7fadb06", func := "boustrophedon/boustrophedonlaw35.SelectsBands", spec := "selectsBands", apart := false }
def SelectsBandsSaid : Prop := selectsBandsRow.holds Try.pinned (OpenSpec.ofChange selectsBandsSpec)

/-- ITS FALSE NEIGHBOUR: 'it returns false'. Refute it at one input. -/
def selectsBandsWrong : ChangeSpec := { name := "selectsBands", fn := fun _ => fun
  | [d1, d2, d3, d4] => { results := [.lit (.bool false)], args := [d1, d2, d3, d4] }
  | _ => none }
def SelectsBandsWrongFalsely : Prop := selectsBandsRow.holds Try.pinned (OpenSpec.ofChange selectsBandsWrong)

/-- 'boustrophedonlaw35.SelectsBack': WHATEVER THE INPUT: true; the input reads as it did. -/
def selectsBackSpec : ChangeSpec := { name := "selectsBack", fn := fun _ => fun
  | [d1, d2, d3, d4] => { results := [.lit (.bool true)], args := [d1, d2, d3, d4] }
  | _ => none }
def selectsBackRow : OpenClaim := { program := "ytiijkbdffbjehaa", sum := "01b53c6263aa320a3639d0ba91df4471992d83df4f2ee0cb1ff02eeff7fadb06", func := "boustrophedon/boustrophedonlaw35.SelectsBack", spec := "selectsBack", apart := false }
def SelectsBackSaid : Prop := selectsBackRow.holds Try.pinned (OpenSpec.ofChange selectsBackSpec)

/-- ITS FALSE NEIGHBOUR: 'it returns false'. Refute it at one input. -/
def selectsBackWrong : ChangeSpec := { name := "selectsBack", fn := fun _ => fun
  | [d1, d2, d3, d4] => { results := [.lit (.bool false)], args := [d1, d2, d3, d4] }
  | _ => none }
def SelectsBackWrongFalsely : Prop := selectsBackRow.holds Try.pinned (OpenSpec.ofChange selectsBackWrong)

/-- 'boustrophedonlaw35.SelectsWhole': WHATEVER THE INPUT: true; the input reads as it did. -/
def selectsWholeSpec : ChangeSpec := { name := "selectsWhole", fn := fun _ => fun
  | [d1, d2, d3] => { results := [.lit (.bool true)], args := [d1, d2, d3] }
  | _ => none }
def selectsWholeRow : OpenClaim := { program := "ytiijkbdffbjehaa", sum := "01b53c6263aa320a3639d0ba91df4471992d83df4f2ee0cb1ff02eeff7fadb06", func := "boustrophedon/boustrophedonlaw35.SelectsWhole", spec := "selectsWhole", apart := false }
def SelectsWholeSaid : Prop := selectsWholeRow.holds Try.pinned (OpenSpec.ofChange selectsWholeSpec)

/-- ITS FALSE NEIGHBOUR: 'it returns false'. Refute it at one input. -/
def selectsWholeWrong : ChangeSpec := { name := "selectsWhole", fn := fun _ => fun
  | [d1, d2, d3] => { results := [.lit (.bool false)], args := [d1, d2, d3] }
  | _ => none }
def SelectsWholeWrongFalsely : Prop := selectsWholeRow.holds Try.pinned (OpenSpec.ofChange selectsWholeWrong)

/- THE SECOND FORM. 'bulk': how many values and letters a reading holds, each counted each time it is reached (what is shared counts as often as it is met; a slice's spare places count too). A statement '..UptoSaid' is the law's where the arguments, and the package variables that the reading takes, are together of bulk at most 1048576: NARROWER than '..Said'. Prove '..Said' where nothing that the law and all that it calls make is longer than what came in: it says more and counts as full. Else prove '..UptoSaid'. A law counts once. -/
mutual
def uptoBulk {H : Type} : DataW H → Nat
  | .lit (.string bytes) => bytes.length + 1
  | .lit _ => 1
  | .nil => 1
  | .ptr d => uptoBulk d + 1
  | .slice elems spare => uptoBulkAll elems + uptoBulkAll spare + 1
  | .agg parts => uptoBulkAll parts + 1
  | .iface _ d => uptoBulk d + 1
  | .map entries => uptoBulkEntries entries + 1
  | .held _ => 1
def uptoBulkAll {H : Type} : List (DataW H) → Nat
  | [] => 0
  | d :: r => uptoBulk d + uptoBulkAll r
def uptoBulkEntries {H : Type} : List (Lit × DataW H) → Nat
  | [] => 0
  | x :: r => uptoBulkEntry x + uptoBulkEntries r
def uptoBulkEntry {H : Type} : Lit × DataW H → Nat
  | (.string bytes, d) => bytes.length + uptoBulk d + 1
  | (_, d) => uptoBulk d + 1
 end
def uptoSmall : (H : Type) → List (DataW H) → Bool := fun _ ds => decide (uptoBulkAll ds ≤ 1048576)
def OpenSpec.upto (s : _root_.Go.ChangeSpec) : _root_.Go.OpenSpec := { _root_.Go.OpenSpec.ofChange s with cond := some uptoSmall }

/-- 'boustrophedonlaw25.OrderVisual', WHERE WHAT IT READS IS OF BULK AT MOST 1048576: true; the input reads as it did. -/
def orderVisualUptoRow : OpenClaim := { program := "ytiijkbdffbjehaa", sum := "01b53c6263aa320a3639d0ba91df4471992d83df4f2ee0cb1ff02eeff7fadb06", func := "boustrophedon/boustrophedonlaw25.OrderVisual", spec := "orderVisual", apart := false, narrowed := true }
def OrderVisualUptoSaid : Prop := orderVisualUptoRow.holds Try.pinned (OpenSpec.upto orderVisualSpec)

/-- 'boustrophedonlaw25.OrderBack', WHERE WHAT IT READS IS OF BULK AT MOST 1048576: true; the input reads as it did. -/
def orderBackUptoRow : OpenClaim := { program := "ytiijkbdffbjehaa", sum := "01b53c6263aa320a3639d0ba91df4471992d83df4f2ee0cb1ff02eeff7fadb06", func := "boustrophedon/boustrophedonlaw25.OrderBack", spec := "orderBack", apart := false, narrowed := true }
def OrderBackUptoSaid : Prop := orderBackUptoRow.holds Try.pinned (OpenSpec.upto orderBackSpec)

/-- 'boustrophedonlaw25.OrderBoth', WHERE WHAT IT READS IS OF BULK AT MOST 1048576: true; the input reads as it did. -/
def orderBothUptoRow : OpenClaim := { program := "ytiijkbdffbjehaa", sum := "01b53c6263aa320a3639d0ba91df4471992d83df4f2ee0cb1ff02eeff7fadb06", func := "boustrophedon/boustrophedonlaw25.OrderBoth", spec := "orderBoth", apart := false, narrowed := true }
def OrderBothUptoSaid : Prop := orderBothUptoRow.holds Try.pinned (OpenSpec.upto orderBothSpec)

/-- 'boustrophedonlaw25.OrderTwo', WHERE WHAT IT READS IS OF BULK AT MOST 1048576: true; the input reads as it did. -/
def orderTwoUptoRow : OpenClaim := { program := "ytiijkbdffbjehaa", sum := "01b53c6263aa320a3639d0ba91df4471992d83df4f2ee0cb1ff02eeff7fadb06", func := "boustrophedon/boustrophedonlaw25.OrderTwo", spec := "orderTwo", apart := false, narrowed := true }
def OrderTwoUptoSaid : Prop := orderTwoUptoRow.holds Try.pinned (OpenSpec.upto orderTwoSpec)

/-- 'boustrophedonlaw25.OrderParts', WHERE WHAT IT READS IS OF BULK AT MOST 1048576: true; the input reads as it did. -/
def orderPartsUptoRow : OpenClaim := { program := "ytiijkbdffbjehaa", sum := "01b53c6263aa320a3639d0ba91df4471992d83df4f2ee0cb1ff02eeff7fadb06", func := "boustrophedon/boustrophedonlaw25.OrderParts", spec := "orderParts", apart := false, narrowed := true }
def OrderPartsUptoSaid : Prop := orderPartsUptoRow.holds Try.pinned (OpenSpec.upto orderPartsSpec)

/-- 'boustrophedonlaw34.AlignBoth', WHERE WHAT IT READS IS OF BULK AT MOST 1048576: true; the input reads as it did. -/
def alignBothUptoRow : OpenClaim := { program := "ytiijkbdffbjehaa", sum := "01b53c6263aa320a3639d0ba91df4471992d83df4f2ee0cb1ff02eeff7fadb06", func := "boustrophedon/boustrophedonlaw34.AlignBoth", spec := "alignBoth", apart := false, narrowed := true }
def AlignBothUptoSaid : Prop := alignBothUptoRow.holds Try.pinned (OpenSpec.upto alignBothSpec)

/-- 'boustrophedonlaw34.AlignJustify', WHERE WHAT IT READS IS OF BULK AT MOST 1048576: true; the input reads as it did. -/
def alignJustifyUptoRow : OpenClaim := { program := "ytiijkbdffbjehaa", sum := "01b53c6263aa320a3639d0ba91df4471992d83df4f2ee0cb1ff02eeff7fadb06", func := "boustrophedon/boustrophedonlaw34.AlignJustify", spec := "alignJustify", apart := false, narrowed := true }
def AlignJustifyUptoSaid : Prop := alignJustifyUptoRow.holds Try.pinned (OpenSpec.upto alignJustifySpec)

/-- 'boustrophedonlaw34.AlignTwice', WHERE WHAT IT READS IS OF BULK AT MOST 1048576: true; the input reads as it did. -/
def alignTwiceUptoRow : OpenClaim := { program := "ytiijkbdffbjehaa", sum := "01b53c6263aa320a3639d0ba91df4471992d83df4f2ee0cb1ff02eeff7fadb06", func := "boustrophedon/boustrophedonlaw34.AlignTwice", spec := "alignTwice", apart := false, narrowed := true }
def AlignTwiceUptoSaid : Prop := alignTwiceUptoRow.holds Try.pinned (OpenSpec.upto alignTwiceSpec)

/-- 'boustrophedonlaw35.SelectsBands', WHERE WHAT IT READS IS OF BULK AT MOST 1048576: true; the input reads as it did. -/
def selectsBandsUptoRow : OpenClaim := { program := "ytiijkbdffbjehaa", sum := "01b53c6263aa320a3639d0ba91df4471992d83df4f2ee0cb1ff02eeff7fadb06", func := "boustrophedon/boustrophedonlaw35.SelectsBands", spec := "selectsBands", apart := false, narrowed := true }
def SelectsBandsUptoSaid : Prop := selectsBandsUptoRow.holds Try.pinned (OpenSpec.upto selectsBandsSpec)

/-- 'boustrophedonlaw35.SelectsBack', WHERE WHAT IT READS IS OF BULK AT MOST 1048576: true; the input reads as it did. -/
def selectsBackUptoRow : OpenClaim := { program := "ytiijkbdffbjehaa", sum := "01b53c6263aa320a3639d0ba91df4471992d83df4f2ee0cb1ff02eeff7fadb06", func := "boustrophedon/boustrophedonlaw35.SelectsBack", spec := "selectsBack", apart := false, narrowed := true }
def SelectsBackUptoSaid : Prop := selectsBackUptoRow.holds Try.pinned (OpenSpec.upto selectsBackSpec)

/-- 'boustrophedonlaw35.SelectsWhole', WHERE WHAT IT READS IS OF BULK AT MOST 1048576: true; the input reads as it did. -/
def selectsWholeUptoRow : OpenClaim := { program := "ytiijkbdffbjehaa", sum := "01b53c6263aa320a3639d0ba91df4471992d83df4f2ee0cb1ff02eeff7fadb06", func := "boustrophedon/boustrophedonlaw35.SelectsWhole", spec := "selectsWhole", apart := false, narrowed := true }
def SelectsWholeUptoSaid : Prop := selectsWholeUptoRow.holds Try.pinned (OpenSpec.upto selectsWholeSpec)

end Rows
end Go.Proofs.Ytiijkbdffbjehaa
