/-
  No cell of these rows narrows 'for every input' (looked for: loops, veiled, ifaces, maps, wideKeys, modest, calm, conditions, laid).
  DERIVED. THE GIVEN ROWS OF THIS SEAT. 7 by the template 'for every input the law returns true; each argument reads behind the call as it read before'; 0 by the template 'total and deterministic' (their statements: YtafomgonecamlaaTotals.lean).
  GIVEN WITH THE SEED: the statements are not yours to turn. If you find one false, say at which input.
  Laid BY PROGRAM, IN A SANDBOX (cutbox-rows.mjs): the forced cells as the released guide's own fill.sh prints them over the translation 2520f331f88b3023… (all of the seat's roots in one cut). By AI agents, Wed Nov 11 2026. No macro, syntax, notation, axiom, sorry.
-/
import Derived.Test.YtafomgonecamlaaChecked
import GoSem.Claim
import GoSem.ClaimJoined
import GoSem.ClaimMapViews
import Derived.JoinedTies
import Derived.KernelRfl
namespace Go.Proofs.Ytafomgonecamlaa
/- THE CELL 'sum', in the pinned program and in every row, IS THE sha256 OF THE DUMP (.gsa) THAT YtafomgonecamlaaProg.lean LOADS. Nothing in Lean hashes anything: it is a label: what it is worth is what the hold of that sum in a sandbox is worth. -/
noncomputable def Try.pinned : Pinned := { name := "ytafomgonecamlaa", sum := "2520f331f88b302380137ea958ae9d3c9a64badf4cd652715061896d3a296bcc", checked := Try.checked }
namespace Rows
def none {H : Type} : Left H := { results := [], args := [] }

/-- 'boustrophedonlaw22.MeasureCells': WHATEVER THE INPUT: true; the input reads as it did. -/
def measureCellsSpec : ChangeSpec := { name := "measureCells", fn := fun _ => fun
  | [d1, d2, d3, d4] => { results := [.lit (.bool true)], args := [d1, d2, d3, d4] }
  | _ => none }
def measureCellsRow : OpenClaim := { program := "ytafomgonecamlaa", sum := "2520f331f88b302380137ea958ae9d3c9a64badf4cd652715061896d3a296bcc", func := "boustrophedon/boustrophedonlaw22.MeasureCells", spec := "measureCells", apart := false }
def MeasureCellsSaid : Prop := measureCellsRow.holds Try.pinned (OpenSpec.ofChange measureCellsSpec)

/-- ITS FALSE NEIGHBOUR: 'it returns false'. Refute it at one input. -/
def measureCellsWrong : ChangeSpec := { name := "measureCells", fn := fun _ => fun
  | [d1, d2, d3, d4] => { results := [.lit (.bool false)], args := [d1, d2, d3, d4] }
  | _ => none }
def MeasureCellsWrongFalsely : Prop := measureCellsRow.holds Try.pinned (OpenSpec.ofChange measureCellsWrong)

/-- 'boustrophedonlaw22.MeasureParts': WHATEVER THE INPUT: true; the input reads as it did. -/
def measurePartsSpec : ChangeSpec := { name := "measureParts", fn := fun _ => fun
  | [d1, d2, d3, d4, d5] => { results := [.lit (.bool true)], args := [d1, d2, d3, d4, d5] }
  | _ => none }
def measurePartsRow : OpenClaim := { program := "ytafomgonecamlaa", sum := "2520f331f88b302380137ea958ae9d3c9a64badf4cd652715061896d3a296bcc", func := "boustrophedon/boustrophedonlaw22.MeasureParts", spec := "measureParts", apart := false }
def MeasurePartsSaid : Prop := measurePartsRow.holds Try.pinned (OpenSpec.ofChange measurePartsSpec)

/-- ITS FALSE NEIGHBOUR: 'it returns false'. Refute it at one input. -/
def measurePartsWrong : ChangeSpec := { name := "measureParts", fn := fun _ => fun
  | [d1, d2, d3, d4, d5] => { results := [.lit (.bool false)], args := [d1, d2, d3, d4, d5] }
  | _ => none }
def MeasurePartsWrongFalsely : Prop := measurePartsRow.holds Try.pinned (OpenSpec.ofChange measurePartsWrong)

/-- 'boustrophedonlaw22.MeasureSpaces': WHATEVER THE INPUT: true; the input reads as it did. -/
def measureSpacesSpec : ChangeSpec := { name := "measureSpaces", fn := fun _ => fun
  | [d1, d2, d3] => { results := [.lit (.bool true)], args := [d1, d2, d3] }
  | _ => none }
def measureSpacesRow : OpenClaim := { program := "ytafomgonecamlaa", sum := "2520f331f88b302380137ea958ae9d3c9a64badf4cd652715061896d3a296bcc", func := "boustrophedon/boustrophedonlaw22.MeasureSpaces", spec := "measureSpaces", apart := false }
def MeasureSpacesSaid : Prop := measureSpacesRow.holds Try.pinned (OpenSpec.ofChange measureSpacesSpec)

/-- ITS FALSE NEIGHBOUR: 'it returns false'. Refute it at one input. -/
def measureSpacesWrong : ChangeSpec := { name := "measureSpaces", fn := fun _ => fun
  | [d1, d2, d3] => { results := [.lit (.bool false)], args := [d1, d2, d3] }
  | _ => none }
def MeasureSpacesWrongFalsely : Prop := measureSpacesRow.holds Try.pinned (OpenSpec.ofChange measureSpacesWrong)

/-- 'boustrophedonlaw23.FillLines': WHATEVER THE INPUT: true; the input reads as it did. -/
def fillLinesSpec : ChangeSpec := { name := "fillLines", fn := fun _ => fun
  | [d1, d2, d3, d4] => { results := [.lit (.bool true)], args := [d1, d2, d3, d4] }
  | _ => none }
def fillLinesRow : OpenClaim := { program := "ytafomgonecamlaa", sum := "2520f331f88b302380137ea958ae9d3c9a64badf4cd652715061896d3a296bcc", func := "boustrophedon/boustrophedonlaw23.FillLines", spec := "fillLines", unfollowed := true, recurses := true, apart := false }
def FillLinesSaid : Prop := fillLinesRow.holds Try.pinned (OpenSpec.ofChange fillLinesSpec)

/-- ITS FALSE NEIGHBOUR: 'it returns false'. Refute it at one input. -/
def fillLinesWrong : ChangeSpec := { name := "fillLines", fn := fun _ => fun
  | [d1, d2, d3, d4] => { results := [.lit (.bool false)], args := [d1, d2, d3, d4] }
  | _ => none }
def FillLinesWrongFalsely : Prop := fillLinesRow.holds Try.pinned (OpenSpec.ofChange fillLinesWrong)

/-- 'boustrophedonlaw23.FillFits': WHATEVER THE INPUT: true; the input reads as it did. -/
def fillFitsSpec : ChangeSpec := { name := "fillFits", fn := fun _ => fun
  | [d1, d2, d3, d4] => { results := [.lit (.bool true)], args := [d1, d2, d3, d4] }
  | _ => none }
def fillFitsRow : OpenClaim := { program := "ytafomgonecamlaa", sum := "2520f331f88b302380137ea958ae9d3c9a64badf4cd652715061896d3a296bcc", func := "boustrophedon/boustrophedonlaw23.FillFits", spec := "fillFits", apart := false }
def FillFitsSaid : Prop := fillFitsRow.holds Try.pinned (OpenSpec.ofChange fillFitsSpec)

/-- ITS FALSE NEIGHBOUR: 'it returns false'. Refute it at one input. -/
def fillFitsWrong : ChangeSpec := { name := "fillFits", fn := fun _ => fun
  | [d1, d2, d3, d4] => { results := [.lit (.bool false)], args := [d1, d2, d3, d4] }
  | _ => none }
def FillFitsWrongFalsely : Prop := fillFitsRow.holds Try.pinned (OpenSpec.ofChange fillFitsWrong)

/-- 'boustrophedonlaw23.FillRest': WHATEVER THE INPUT: true; the input reads as it did. -/
def fillRestSpec : ChangeSpec := { name := "fillRest", fn := fun _ => fun
  | [d1, d2, d3, d4] => { results := [.lit (.bool true)], args := [d1, d2, d3, d4] }
  | _ => none }
def fillRestRow : OpenClaim := { program := "ytafomgonecamlaa", sum := "2520f331f88b302380137ea958ae9d3c9a64badf4cd652715061896d3a296bcc", func := "boustrophedon/boustrophedonlaw23.FillRest", spec := "fillRest", apart := false }
def FillRestSaid : Prop := fillRestRow.holds Try.pinned (OpenSpec.ofChange fillRestSpec)

/-- ITS FALSE NEIGHBOUR: 'it returns false'. Refute it at one input. -/
def fillRestWrong : ChangeSpec := { name := "fillRest", fn := fun _ => fun
  | [d1, d2, d3, d4] => { results := [.lit (.bool false)], args := [d1, d2, d3, d4] }
  | _ => none }
def FillRestWrongFalsely : Prop := fillRestRow.holds Try.pinned (OpenSpec.ofChange fillRestWrong)

/-- 'boustrophedonlaw23.FillWide': WHATEVER THE INPUT: true; the input reads as it did. -/
def fillWideSpec : ChangeSpec := { name := "fillWide", fn := fun _ => fun
  | [d1, d2, d3] => { results := [.lit (.bool true)], args := [d1, d2, d3] }
  | _ => none }
def fillWideRow : OpenClaim := { program := "ytafomgonecamlaa", sum := "2520f331f88b302380137ea958ae9d3c9a64badf4cd652715061896d3a296bcc", func := "boustrophedon/boustrophedonlaw23.FillWide", spec := "fillWide", apart := false }
def FillWideSaid : Prop := fillWideRow.holds Try.pinned (OpenSpec.ofChange fillWideSpec)

/-- ITS FALSE NEIGHBOUR: 'it returns false'. Refute it at one input. -/
def fillWideWrong : ChangeSpec := { name := "fillWide", fn := fun _ => fun
  | [d1, d2, d3] => { results := [.lit (.bool false)], args := [d1, d2, d3] }
  | _ => none }
def FillWideWrongFalsely : Prop := fillWideRow.holds Try.pinned (OpenSpec.ofChange fillWideWrong)

/- THE SECOND FORM. 'bulk': how many values and letters a reading holds, each counted each time it is reached (what is shared counts as often as it is met; a slice's spare places count too). A statement '..UptoSaid' is the law's where the arguments, and the package variables that the reading takes, are together of bulk at most 1048576: NARROWER than '..Said'. Prove '..Said' where nothing that the law and all that it calls make is longer than what came in: it says more and counts as full. Else prove '..UptoSaid'. A law counts once. -/
mutual
def uptoBulk {H : Type} : DataW H → Nat
  | .lit (.string bytes) => bytes.length + 1
  | .lit _ => 1
  | .nil => 1
  | .ptr d => uptoBulk d + 1
  | .slice elems spare => uptoBulkAll elems + uptoBulkAll spare + 1
  | .agg parts => uptoBulkAll parts + 1
  | .iface _ d => uptoBulk d + 1
  | .map entries => uptoBulkEntries entries + 1
  | .held _ => 1
def uptoBulkAll {H : Type} : List (DataW H) → Nat
  | [] => 0
  | d :: r => uptoBulk d + uptoBulkAll r
def uptoBulkEntries {H : Type} : List (Lit × DataW H) → Nat
  | [] => 0
  | x :: r => uptoBulkEntry x + uptoBulkEntries r
def uptoBulkEntry {H : Type} : Lit × DataW H → Nat
  | (.string bytes, d) => bytes.length + uptoBulk d + 1
  | (_, d) => uptoBulk d + 1
 end
def uptoSmall : (H : Type) → List (DataW H) → Bool := fun _ ds => decide (uptoBulkAll ds ≤ 1048576)
def OpenSpec.upto (s : _root_.Go.ChangeSpec) : _root_.Go.OpenSpec := { _root_.Go.OpenSpec.ofChange s with cond := some uptoSmall }

/-- 'boustrophedonlaw22.MeasureCells', WHERE WHAT IT READS IS OF BULK AT MOST 1048576: true; the input reads as it did. -/
def measureCellsUptoRow : OpenClaim := { program := "ytafomgonecamlaa", sum := "2520f331f88b302380137ea958ae9d3c9a64badf4cd652715061896d3a296bcc", func := "boustrophedon/boustrophedonlaw22.MeasureCells", spec := "measureCells", apart := false, narrowed := true }
def MeasureCellsUptoSaid : Prop := measureCellsUptoRow.holds Try.pinned (OpenSpec.upto measureCellsSpec)

/-- 'boustrophedonlaw22.MeasureParts', WHERE WHAT IT READS IS OF BULK AT MOST 1048576: true; the input reads as it did. -/
def measurePartsUptoRow : OpenClaim := { program := "ytafomgonecamlaa", sum := "2520f331f88b302380137ea958ae9d3c9a64badf4cd652715061896d3a296bcc", func := "boustrophedon/boustrophedonlaw22.MeasureParts", spec := "measureParts", apart := false, narrowed := true }
def MeasurePartsUptoSaid : Prop := measurePartsUptoRow.holds Try.pinned (OpenSpec.upto measurePartsSpec)

/-- 'boustrophedonlaw22.MeasureSpaces', WHERE WHAT IT READS IS OF BULK AT MOST 1048576: true; the input reads as it did. -/
def measureSpacesUptoRow : OpenClaim := { program := "ytafomgonecamlaa", sum := "2520f331f88b302380137ea958ae9d3c9a64badf4cd652715061896d3a296bcc", func := "boustrophedon/boustrophedonlaw22.MeasureSpaces", spec := "measureSpaces", apart := false, narrowed := true }
def MeasureSpacesUptoSaid : Prop := measureSpacesUptoRow.holds Try.pinned (OpenSpec.upto measureSpacesSpec)

/-- 'boustrophedonlaw23.FillLines', WHERE WHAT IT READS IS OF BULK AT MOST 1048576: true; the input reads as it did. -/
def fillLinesUptoRow : OpenClaim := { program := "ytafomgonecamlaa", sum := "2520f331f88b302380137ea958ae9d3c9a64badf4cd652715061896d3a296bcc", func := "boustrophedon/boustrophedonlaw23.FillLines", spec := "fillLines", unfollowed := true, recurses := true, apart := false, narrowed := true }
def FillLinesUptoSaid : Prop := fillLinesUptoRow.holds Try.pinned (OpenSpec.upto fillLinesSpec)

/-- 'boustrophedonlaw23.FillFits', WHERE WHAT IT READS IS OF BULK AT MOST 1048576: true; the input reads as it did. -/
def fillFitsUptoRow : OpenClaim := { program := "ytafomgonecamlaa", sum := "2520f331f88b302380137ea958ae9d3c9a64badf4cd652715061896d3a296bcc", func := "boustrophedon/boustrophedonlaw23.FillFits", spec := "fillFits", apart := false, narrowed := true }
def FillFitsUptoSaid : Prop := fillFitsUptoRow.holds Try.pinned (OpenSpec.upto fillFitsSpec)

/-- 'boustrophedonlaw23.FillRest', WHERE WHAT IT READS IS OF BULK AT MOST 1048576: true; the input reads as it did. -/
def fillRestUptoRow : OpenClaim := { program := "ytafomgonecamlaa", sum := "2520f331f88b302380137ea958ae9d3c9a64badf4cd652715061896d3a296bcc", func := "boustrophedon/boustrophedonlaw23.FillRest", spec := "fillRest", apart := false, narrowed := true }
def FillRestUptoSaid : Prop := fillRestUptoRow.holds Try.pinned (OpenSpec.upto fillRestSpec)

/-- 'boustrophedonlaw23.FillWide', WHERE WHAT IT READS IS OF BULK AT MOST 1048576: true; the input reads as it did. -/
def fillWideUptoRow : OpenClaim := { program := "ytafomgonecamlaa", sum := "2520f331f88b302380137ea958ae9d3c9a64badf4cd652715061896d3a296bcc", func := "boustrophedon/boustrophedonlaw23.FillWide", spec := "fillWide", apart := false, narrowed := true }
def FillWideUptoSaid : Prop := fillWideUptoRow.holds Try.pinned (OpenSpec.upto fillWideSpec)

end Rows
end Go.Proofs.Ytafomgonecamlaa
