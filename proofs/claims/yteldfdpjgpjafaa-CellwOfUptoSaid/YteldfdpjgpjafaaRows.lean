/-
  No cell of these rows narrows 'for every input' (looked for: loops, veiled, ifaces, maps, wideKeys, modest, calm, conditions, laid).
  DERIVED. THE GIVEN ROWS OF THIS SEAT. 12 by the template 'for every input the law returns true; each argument reads behind the call as it read before'; 0 by the template 'total and deterministic' (their statements: YteldfdpjgpjafaaTotals.lean).
  GIVEN WITH THE SEED: the statements are not yours to turn. If you find one false, say at which input.
  Laid BY PROGRAM, IN A SANDBOX (cutbox-rows.mjs): the forced cells as the released guide's own fill.sh prints them over the translation 4f8a01c998510775… (all of the seat's roots in one cut). By AI agents, Wed Nov 11 2026. No macro, syntax, notation, axiom, sorry.
-/
import Derived.Test.YteldfdpjgpjafaaChecked
import GoSem.Claim
import GoSem.ClaimJoined
import GoSem.ClaimMapViews
import Derived.JoinedTies
import Derived.KernelRfl
namespace Go.Proofs.Yteldfdpjgpjafaa
/- THE CELL 'sum', in the pinned program and in every row, IS THE sha256 OF THE DUMP (.gsa) THAT YteldfdpjgpjafaaProg.lean LOADS. Nothing in Lean hashes anything: it is a label: what it is worth is what the hold of that sum in a sandbox is worth. -/
noncomputable def Try.pinned : Pinned := { name := "yteldfdpjgpjafaa", sum := "4f8a01c9985107754b0b48b987228695d09f03b17801b05dd8aa53137f5979a8", checked := Try.checked }
namespace Rows
def none {H : Type} : Left H := { results := [], args := [] }

/-- 'boustrophedonlaw04.BidicTables': WHATEVER THE INPUT: true; the input reads as it did. -/
def bidicTablesSpec : ChangeSpec := { name := "bidicTables", fn := fun _ => fun
  | [d] => { results := [.lit (.bool true)], args := [d] }
  | _ => none }
def bidicTablesRow : OpenClaim := { program := "yteldfdpjgpjafaa", sum := "4f8a01c9985107754b0b48b987228695d09f03b17801b05dd8aa53137f5979a8", func := "boustrophedon/boustrophedonlaw04.BidicTables", spec := "bidicTables", apart := false }
def BidicTablesSaid : Prop := bidicTablesRow.holds Try.pinned (OpenSpec.ofChange bidicTablesSpec)

/-- ITS FALSE NEIGHBOUR: 'it returns false'. Refute it at one input. -/
def bidicTablesWrong : ChangeSpec := { name := "bidicTables", fn := fun _ => fun
  | [d] => { results := [.lit (.bool false)], args := [d] }
  | _ => none }
def BidicTablesWrongFalsely : Prop := bidicTablesRow.holds Try.pinned (OpenSpec.ofChange bidicTablesWrong)

/-- 'boustrophedonlaw04.BidicOf': WHATEVER THE INPUT: true; the input reads as it did. -/
def bidicOfSpec : ChangeSpec := { name := "bidicOf", fn := fun _ => fun
  | [d] => { results := [.lit (.bool true)], args := [d] }
  | _ => none }
def bidicOfRow : OpenClaim := { program := "yteldfdpjgpjafaa", sum := "4f8a01c9985107754b0b48b987228695d09f03b17801b05dd8aa53137f5979a8", func := "boustrophedon/boustrophedonlaw04.BidicOf", spec := "bidicOf", apart := false }
def BidicOfSaid : Prop := bidicOfRow.holds Try.pinned (OpenSpec.ofChange bidicOfSpec)

/-- ITS FALSE NEIGHBOUR: 'it returns false'. Refute it at one input. -/
def bidicOfWrong : ChangeSpec := { name := "bidicOf", fn := fun _ => fun
  | [d] => { results := [.lit (.bool false)], args := [d] }
  | _ => none }
def BidicOfWrongFalsely : Prop := bidicOfRow.holds Try.pinned (OpenSpec.ofChange bidicOfWrong)

/-- 'boustrophedonlaw04.BidicKinds': WHATEVER THE INPUT: true; the input reads as it did. -/
def bidicKindsSpec : ChangeSpec := { name := "bidicKinds", fn := fun _ => fun
  | [d] => { results := [.lit (.bool true)], args := [d] }
  | _ => none }
def bidicKindsRow : OpenClaim := { program := "yteldfdpjgpjafaa", sum := "4f8a01c9985107754b0b48b987228695d09f03b17801b05dd8aa53137f5979a8", func := "boustrophedon/boustrophedonlaw04.BidicKinds", spec := "bidicKinds", apart := false }
def BidicKindsSaid : Prop := bidicKindsRow.holds Try.pinned (OpenSpec.ofChange bidicKindsSpec)

/-- ITS FALSE NEIGHBOUR: 'it returns false'. Refute it at one input. -/
def bidicKindsWrong : ChangeSpec := { name := "bidicKinds", fn := fun _ => fun
  | [d] => { results := [.lit (.bool false)], args := [d] }
  | _ => none }
def BidicKindsWrongFalsely : Prop := bidicKindsRow.holds Try.pinned (OpenSpec.ofChange bidicKindsWrong)

/-- 'boustrophedonlaw04.BidicEach': WHATEVER THE INPUT: true; the input reads as it did. -/
def bidicEachSpec : ChangeSpec := { name := "bidicEach", fn := fun _ => fun
  | [d1, d2] => { results := [.lit (.bool true)], args := [d1, d2] }
  | _ => none }
def bidicEachRow : OpenClaim := { program := "yteldfdpjgpjafaa", sum := "4f8a01c9985107754b0b48b987228695d09f03b17801b05dd8aa53137f5979a8", func := "boustrophedon/boustrophedonlaw04.BidicEach", spec := "bidicEach", apart := false }
def BidicEachSaid : Prop := bidicEachRow.holds Try.pinned (OpenSpec.ofChange bidicEachSpec)

/-- ITS FALSE NEIGHBOUR: 'it returns false'. Refute it at one input. -/
def bidicEachWrong : ChangeSpec := { name := "bidicEach", fn := fun _ => fun
  | [d1, d2] => { results := [.lit (.bool false)], args := [d1, d2] }
  | _ => none }
def BidicEachWrongFalsely : Prop := bidicEachRow.holds Try.pinned (OpenSpec.ofChange bidicEachWrong)

/-- 'boustrophedonlaw04.BidicParts': WHATEVER THE INPUT: true; the input reads as it did. -/
def bidicPartsSpec : ChangeSpec := { name := "bidicParts", fn := fun _ => fun
  | [d1, d2] => { results := [.lit (.bool true)], args := [d1, d2] }
  | _ => none }
def bidicPartsRow : OpenClaim := { program := "yteldfdpjgpjafaa", sum := "4f8a01c9985107754b0b48b987228695d09f03b17801b05dd8aa53137f5979a8", func := "boustrophedon/boustrophedonlaw04.BidicParts", spec := "bidicParts", apart := false }
def BidicPartsSaid : Prop := bidicPartsRow.holds Try.pinned (OpenSpec.ofChange bidicPartsSpec)

/-- ITS FALSE NEIGHBOUR: 'it returns false'. Refute it at one input. -/
def bidicPartsWrong : ChangeSpec := { name := "bidicParts", fn := fun _ => fun
  | [d1, d2] => { results := [.lit (.bool false)], args := [d1, d2] }
  | _ => none }
def BidicPartsWrongFalsely : Prop := bidicPartsRow.holds Try.pinned (OpenSpec.ofChange bidicPartsWrong)

/-- 'boustrophedonlaw07.CellwOf': WHATEVER THE INPUT: true; the input reads as it did. -/
def cellwOfSpec : ChangeSpec := { name := "cellwOf", fn := fun _ => fun
  | [d1, d2] => { results := [.lit (.bool true)], args := [d1, d2] }
  | _ => none }
def cellwOfRow : OpenClaim := { program := "yteldfdpjgpjafaa", sum := "4f8a01c9985107754b0b48b987228695d09f03b17801b05dd8aa53137f5979a8", func := "boustrophedon/boustrophedonlaw07.CellwOf", spec := "cellwOf", apart := false }
def CellwOfSaid : Prop := cellwOfRow.holds Try.pinned (OpenSpec.ofChange cellwOfSpec)

/-- ITS FALSE NEIGHBOUR: 'it returns false'. Refute it at one input. -/
def cellwOfWrong : ChangeSpec := { name := "cellwOf", fn := fun _ => fun
  | [d1, d2] => { results := [.lit (.bool false)], args := [d1, d2] }
  | _ => none }
def CellwOfWrongFalsely : Prop := cellwOfRow.holds Try.pinned (OpenSpec.ofChange cellwOfWrong)

/-- 'boustrophedonlaw07.CellwSum': WHATEVER THE INPUT: true; the input reads as it did. -/
def cellwSumSpec : ChangeSpec := { name := "cellwSum", fn := fun _ => fun
  | [d1, d2] => { results := [.lit (.bool true)], args := [d1, d2] }
  | _ => none }
def cellwSumRow : OpenClaim := { program := "yteldfdpjgpjafaa", sum := "4f8a01c9985107754b0b48b987228695d09f03b17801b05dd8aa53137f5979a8", func := "boustrophedon/boustrophedonlaw07.CellwSum", spec := "cellwSum", apart := false }
def CellwSumSaid : Prop := cellwSumRow.holds Try.pinned (OpenSpec.ofChange cellwSumSpec)

/-- ITS FALSE NEIGHBOUR: 'it returns false'. Refute it at one input. -/
def cellwSumWrong : ChangeSpec := { name := "cellwSum", fn := fun _ => fun
  | [d1, d2] => { results := [.lit (.bool false)], args := [d1, d2] }
  | _ => none }
def CellwSumWrongFalsely : Prop := cellwSumRow.holds Try.pinned (OpenSpec.ofChange cellwSumWrong)

/-- 'boustrophedonlaw07.CellwParts': WHATEVER THE INPUT: true; the input reads as it did. -/
def cellwPartsSpec : ChangeSpec := { name := "cellwParts", fn := fun _ => fun
  | [d1, d2] => { results := [.lit (.bool true)], args := [d1, d2] }
  | _ => none }
def cellwPartsRow : OpenClaim := { program := "yteldfdpjgpjafaa", sum := "4f8a01c9985107754b0b48b987228695d09f03b17801b05dd8aa53137f5979a8", func := "boustrophedon/boustrophedonlaw07.CellwParts", spec := "cellwParts", apart := false }
def CellwPartsSaid : Prop := cellwPartsRow.holds Try.pinned (OpenSpec.ofChange cellwPartsSpec)

/-- ITS FALSE NEIGHBOUR: 'it returns false'. Refute it at one input. -/
def cellwPartsWrong : ChangeSpec := { name := "cellwParts", fn := fun _ => fun
  | [d1, d2] => { results := [.lit (.bool false)], args := [d1, d2] }
  | _ => none }
def CellwPartsWrongFalsely : Prop := cellwPartsRow.holds Try.pinned (OpenSpec.ofChange cellwPartsWrong)

/-- 'boustrophedonlaw19.LboneUnits': WHATEVER THE INPUT: true; the input reads as it did. -/
def lboneUnitsSpec : ChangeSpec := { name := "lboneUnits", fn := fun _ => fun
  | [d1, d2] => { results := [.lit (.bool true)], args := [d1, d2] }
  | _ => none }
def lboneUnitsRow : OpenClaim := { program := "yteldfdpjgpjafaa", sum := "4f8a01c9985107754b0b48b987228695d09f03b17801b05dd8aa53137f5979a8", func := "boustrophedon/boustrophedonlaw19.LboneUnits", spec := "lboneUnits", apart := false }
def LboneUnitsSaid : Prop := lboneUnitsRow.holds Try.pinned (OpenSpec.ofChange lboneUnitsSpec)

/-- ITS FALSE NEIGHBOUR: 'it returns false'. Refute it at one input. -/
def lboneUnitsWrong : ChangeSpec := { name := "lboneUnits", fn := fun _ => fun
  | [d1, d2] => { results := [.lit (.bool false)], args := [d1, d2] }
  | _ => none }
def LboneUnitsWrongFalsely : Prop := lboneUnitsRow.holds Try.pinned (OpenSpec.ofChange lboneUnitsWrong)

/-- 'boustrophedonlaw19.LboneClass': WHATEVER THE INPUT: true; the input reads as it did. -/
def lboneClassSpec : ChangeSpec := { name := "lboneClass", fn := fun _ => fun
  | [d] => { results := [.lit (.bool true)], args := [d] }
  | _ => none }
def lboneClassRow : OpenClaim := { program := "yteldfdpjgpjafaa", sum := "4f8a01c9985107754b0b48b987228695d09f03b17801b05dd8aa53137f5979a8", func := "boustrophedon/boustrophedonlaw19.LboneClass", spec := "lboneClass", apart := false }
def LboneClassSaid : Prop := lboneClassRow.holds Try.pinned (OpenSpec.ofChange lboneClassSpec)

/-- ITS FALSE NEIGHBOUR: 'it returns false'. Refute it at one input. -/
def lboneClassWrong : ChangeSpec := { name := "lboneClass", fn := fun _ => fun
  | [d] => { results := [.lit (.bool false)], args := [d] }
  | _ => none }
def LboneClassWrongFalsely : Prop := lboneClassRow.holds Try.pinned (OpenSpec.ofChange lboneClassWrong)

/-- 'boustrophedonlaw19.LboneMarks': WHATEVER THE INPUT: true; the input reads as it did. -/
def lboneMarksSpec : ChangeSpec := { name := "lboneMarks", fn := fun _ => fun
  | [d1, d2] => { results := [.lit (.bool true)], args := [d1, d2] }
  | _ => none }
def lboneMarksRow : OpenClaim := { program := "yteldfdpjgpjafaa", sum := "4f8a01c9985107754b0b48b987228695d09f03b17801b05dd8aa53137f5979a8", func := "boustrophedon/boustrophedonlaw19.LboneMarks", spec := "lboneMarks", apart := false }
def LboneMarksSaid : Prop := lboneMarksRow.holds Try.pinned (OpenSpec.ofChange lboneMarksSpec)

/-- ITS FALSE NEIGHBOUR: 'it returns false'. Refute it at one input. -/
def lboneMarksWrong : ChangeSpec := { name := "lboneMarks", fn := fun _ => fun
  | [d1, d2] => { results := [.lit (.bool false)], args := [d1, d2] }
  | _ => none }
def LboneMarksWrongFalsely : Prop := lboneMarksRow.holds Try.pinned (OpenSpec.ofChange lboneMarksWrong)

/-- 'boustrophedonlaw19.LboneParts': WHATEVER THE INPUT: true; the input reads as it did. -/
def lbonePartsSpec : ChangeSpec := { name := "lboneParts", fn := fun _ => fun
  | [d1, d2] => { results := [.lit (.bool true)], args := [d1, d2] }
  | _ => none }
def lbonePartsRow : OpenClaim := { program := "yteldfdpjgpjafaa", sum := "4f8a01c9985107754b0b48b987228695d09f03b17801b05dd8aa53137f5979a8", func := "boustrophedon/boustrophedonlaw19.LboneParts", spec := "lboneParts", apart := false }
def LbonePartsSaid : Prop := lbonePartsRow.holds Try.pinned (OpenSpec.ofChange lbonePartsSpec)

/-- ITS FALSE NEIGHBOUR: 'it returns false'. Refute it at one input. -/
def lbonePartsWrong : ChangeSpec := { name := "lboneParts", fn := fun _ => fun
  | [d1, d2] => { results := [.lit (.bool false)], args := [d1, d2] }
  | _ => none }
def LbonePartsWrongFalsely : Prop := lbonePartsRow.holds Try.pinned (OpenSpec.ofChange lbonePartsWrong)

/- THE SECOND FORM. 'bulk': how many values and letters a reading holds, each counted each time it is reached (what is shared counts as often as it is met; a slice's spare places count too). A statement '..UptoSaid' is the law's where the arguments, and the package variables that the reading takes, are together of bulk at most 1048576: NARROWER than '..Said'. Prove '..Said' where nothing that the law and all that it calls make is longer than what came in: it says more and counts as full. Else prove '..UptoSaid'. A law counts once. -/
mutual
def uptoBulk {H : Type} : DataW H → Nat
  | .lit (.string bytes) => bytes.length + 1
  | .lit _ => 1
  | .nil => 1
  | .ptr d => uptoBulk d + 1
  | .slice elems spare => uptoBulkAll elems + uptoBulkAll spare + 1
  | .agg parts => uptoBulkAll parts + 1
  | .iface _ d => uptoBulk d + 1
  | .map entries => uptoBulkEntries entries + 1
  | .held _ => 1
def uptoBulkAll {H : Type} : List (DataW H) → Nat
  | [] => 0
  | d :: r => uptoBulk d + uptoBulkAll r
def uptoBulkEntries {H : Type} : List (Lit × DataW H) → Nat
  | [] => 0
  | x :: r => uptoBulkEntry x + uptoBulkEntries r
def uptoBulkEntry {H : Type} : Lit × DataW H → Nat
  | (.string bytes, d) => bytes.length + uptoBulk d + 1
  | (_, d) => uptoBulk d + 1
 end
def uptoSmall : (H : Type) → List (DataW H) → Bool := fun _ ds => decide (uptoBulkAll ds ≤ 1048576)
def OpenSpec.upto (s : _root_.Go.ChangeSpec) : _root_.Go.OpenSpec := { _root_.Go.OpenSpec.ofChange s with cond := some uptoSmall }

/-- 'boustrophedonlaw04.BidicTables', WHERE WHAT IT READS IS OF BULK AT MOST 1048576: true; the input reads as it did. -/
def bidicTablesUptoRow : OpenClaim := { program := "yteldfdpjgpjafaa", sum := "4f8a01c9985107754b0b48b987228695d09f03b17801b05dd8aa53137f5979a8", func := "boustrophedon/boustrophedonlaw04.BidicTables", spec := "bidicTables", apart := false, narrowed := true }
def BidicTablesUptoSaid : Prop := bidicTablesUptoRow.holds Try.pinned (OpenSpec.upto bidicTablesSpec)

/-- 'boustrophedonlaw04.BidicOf', WHERE WHAT IT READS IS OF BULK AT MOST 1048576: true; the input reads as it did. -/
def bidicOfUptoRow : OpenClaim := { program := "yteldfdpjgpjafaa", sum := "4f8a01c9985107754b0b48b987228695d09f03b17801b05dd8aa53137f5979a8", func := "boustrophedon/boustrophedonlaw04.BidicOf", spec := "bidicOf", apart := false, narrowed := true }
def BidicOfUptoSaid : Prop := bidicOfUptoRow.holds Try.pinned (OpenSpec.upto bidicOfSpec)

/-- 'boustrophedonlaw04.BidicKinds', WHERE WHAT IT READS IS OF BULK AT MOST 1048576: true; the input reads as it did. -/
def bidicKindsUptoRow : OpenClaim := { program := "yteldfdpjgpjafaa", sum := "4f8a01c9985107754b0b48b987228695d09f03b17801b05dd8aa53137f5979a8", func := "boustrophedon/boustrophedonlaw04.BidicKinds", spec := "bidicKinds", apart := false, narrowed := true }
def BidicKindsUptoSaid : Prop := bidicKindsUptoRow.holds Try.pinned (OpenSpec.upto bidicKindsSpec)

/-- 'boustrophedonlaw04.BidicEach', WHERE WHAT IT READS IS OF BULK AT MOST 1048576: true; the input reads as it did. -/
def bidicEachUptoRow : OpenClaim := { program := "yteldfdpjgpjafaa", sum := "4f8a01c9985107754b0b48b987228695d09f03b17801b05dd8aa53137f5979a8", func := "boustrophedon/boustrophedonlaw04.BidicEach", spec := "bidicEach", apart := false, narrowed := true }
def BidicEachUptoSaid : Prop := bidicEachUptoRow.holds Try.pinned (OpenSpec.upto bidicEachSpec)

/-- 'boustrophedonlaw04.BidicParts', WHERE WHAT IT READS IS OF BULK AT MOST 1048576: true; the input reads as it did. -/
def bidicPartsUptoRow : OpenClaim := { program := "yteldfdpjgpjafaa", sum := "4f8a01c9985107754b0b48b987228695d09f03b17801b05dd8aa53137f5979a8", func := "boustrophedon/boustrophedonlaw04.BidicParts", spec := "bidicParts", apart := false, narrowed := true }
def BidicPartsUptoSaid : Prop := bidicPartsUptoRow.holds Try.pinned (OpenSpec.upto bidicPartsSpec)

/-- 'boustrophedonlaw07.CellwOf', WHERE WHAT IT READS IS OF BULK AT MOST 1048576: true; the input reads as it did. -/
def cellwOfUptoRow : OpenClaim := { program := "yteldfdpjgpjafaa", sum := "4f8a01c9985107754b0b48b987228695d09f03b17801b05dd8aa53137f5979a8", func := "boustrophedon/boustrophedonlaw07.CellwOf", spec := "cellwOf", apart := false, narrowed := true }
def CellwOfUptoSaid : Prop := cellwOfUptoRow.holds Try.pinned (OpenSpec.upto cellwOfSpec)

/-- 'boustrophedonlaw07.CellwSum', WHERE WHAT IT READS IS OF BULK AT MOST 1048576: true; the input reads as it did. -/
def cellwSumUptoRow : OpenClaim := { program := "yteldfdpjgpjafaa", sum := "4f8a01c9985107754b0b48b987228695d09f03b17801b05dd8aa53137f5979a8", func := "boustrophedon/boustrophedonlaw07.CellwSum", spec := "cellwSum", apart := false, narrowed := true }
def CellwSumUptoSaid : Prop := cellwSumUptoRow.holds Try.pinned (OpenSpec.upto cellwSumSpec)

/-- 'boustrophedonlaw07.CellwParts', WHERE WHAT IT READS IS OF BULK AT MOST 1048576: true; the input reads as it did. -/
def cellwPartsUptoRow : OpenClaim := { program := "yteldfdpjgpjafaa", sum := "4f8a01c9985107754b0b48b987228695d09f03b17801b05dd8aa53137f5979a8", func := "boustrophedon/boustrophedonlaw07.CellwParts", spec := "cellwParts", apart := false, narrowed := true }
def CellwPartsUptoSaid : Prop := cellwPartsUptoRow.holds Try.pinned (OpenSpec.upto cellwPartsSpec)

/-- 'boustrophedonlaw19.LboneUnits', WHERE WHAT IT READS IS OF BULK AT MOST 1048576: true; the input reads as it did. -/
def lboneUnitsUptoRow : OpenClaim := { program := "yteldfdpjgpjafaa", sum := "4f8a01c9985107754b0b48b987228695d09f03b17801b05dd8aa53137f5979a8", func := "boustrophedon/boustrophedonlaw19.LboneUnits", spec := "lboneUnits", apart := false, narrowed := true }
def LboneUnitsUptoSaid : Prop := lboneUnitsUptoRow.holds Try.pinned (OpenSpec.upto lboneUnitsSpec)

/-- 'boustrophedonlaw19.LboneClass', WHERE WHAT IT READS IS OF BULK AT MOST 1048576: true; the input reads as it did. -/
def lboneClassUptoRow : OpenClaim := { program := "yteldfdpjgpjafaa", sum := "4f8a01c9985107754b0b48b987228695d09f03b17801b05dd8aa53137f5979a8", func := "boustrophedon/boustrophedonlaw19.LboneClass", spec := "lboneClass", apart := false, narrowed := true }
def LboneClassUptoSaid : Prop := lboneClassUptoRow.holds Try.pinned (OpenSpec.upto lboneClassSpec)

/-- 'boustrophedonlaw19.LboneMarks', WHERE WHAT IT READS IS OF BULK AT MOST 1048576: true; the input reads as it did. -/
def lboneMarksUptoRow : OpenClaim := { program := "yteldfdpjgpjafaa", sum := "4f8a01c9985107754b0b48b987228695d09f03b17801b05dd8aa53137f5979a8", func := "boustrophedon/boustrophedonlaw19.LboneMarks", spec := "lboneMarks", apart := false, narrowed := true }
def LboneMarksUptoSaid : Prop := lboneMarksUptoRow.holds Try.pinned (OpenSpec.upto lboneMarksSpec)

/-- 'boustrophedonlaw19.LboneParts', WHERE WHAT IT READS IS OF BULK AT MOST 1048576: true; the input reads as it did. -/
def lbonePartsUptoRow : OpenClaim := { program := "yteldfdpjgpjafaa", sum := "4f8a01c9985107754b0b48b987228695d09f03b17801b05dd8aa53137f5979a8", func := "boustrophedon/boustrophedonlaw19.LboneParts", spec := "lboneParts", apart := false, narrowed := true }
def LbonePartsUptoSaid : Prop := lbonePartsUptoRow.holds Try.pinned (OpenSpec.upto lbonePartsSpec)

end Rows
end Go.Proofs.Yteldfdpjgpjafaa
