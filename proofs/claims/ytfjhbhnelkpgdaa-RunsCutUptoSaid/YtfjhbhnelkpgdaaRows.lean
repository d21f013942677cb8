/-
  No cell of these rows narrows 'for every input' (looked for: loops, veiled, ifaces, maps, wideKeys, modest, calm, conditions, laid).
  DERIVED. THE GIVEN ROWS OF THIS SEAT. 10 by the template 'for every input the law returns true; each argument reads behind the call as it read before'; 0 by the template 'total and deterministic' (their statements: YtfjhbhnelkpgdaaTotals.lean).
  GIVEN WITH THE SEED: the statements are not yours to turn. If you find one false, say at which input.
  Laid BY PROGRAM, IN A SANDBOX (cutbox-rows.mjs): the forced cells as the released guide's own fill.sh prints them over the translation 9f4a33024c57af89… (all of the seat's roots in one cut). By AI agents, Wed Nov 11 2026. No macro, syntax, notation, axiom, sorry.
-/
import Derived.Test.YtfjhbhnelkpgdaaChecked
import GoSem.Claim
import GoSem.ClaimJoined
import GoSem.ClaimMapViews
import Derived.JoinedTies
import Derived.KernelRfl
namespace Go.Proofs.Ytfjhbhnelkpgdaa
/- THE CELL 'sum', in the pinned program and in every row, IS THE sha256 OF THE DUMP (.gsa) THAT YtfjhbhnelkpgdaaProg.lean LOADS. Nothing in Lean hashes anything: it is a label: what it is worth is what the hold of that sum in a sandbox is worth. -/
noncomputable def Try.pinned : Pinned := { name := "ytfjhbhnelkpgdaa", sum := "9f4a33024c57af895a4617e2360fbf8b93bcad3aca4e9c86461107c538e6f874", checked := Try.checked }
namespace Rows
def none {H : Type} : Left H := { results := [], args := [] }

/-- 'boustrophedonlaw12.RunsCut': WHATEVER THE INPUT: true; the input reads as it did. -/
def runsCutSpec : ChangeSpec := { name := "runsCut", fn := fun _ => fun
  | [d] => { results := [.lit (.bool true)], args := [d] }
  | _ => none }
def runsCutRow : OpenClaim := { program := "ytfjhbhnelkpgdaa", sum := "9f4a33024c57af895a4617e2360fbf8b93bcad3aca4e9c86461107c538e6f874", func := "boustrophedon/boustrophedonlaw12.RunsCut", spec := "runsCut", apart := false }
def RunsCutSaid : Prop := runsCutRow.holds Try.pinned (OpenSpec.ofChange runsCutSpec)

/-- ITS FALSE NEIGHBOUR: 'it returns false'. Refute it at one input. -/
def runsCutWrong : ChangeSpec := { name := "runsCut", fn := fun _ => fun
  | [d] => { results := [.lit (.bool false)], args := [d] }
  | _ => none }
def RunsCutWrongFalsely : Prop := runsCutRow.holds Try.pinned (OpenSpec.ofChange runsCutWrong)

/-- 'boustrophedonlaw12.RunsEven': WHATEVER THE INPUT: true; the input reads as it did. -/
def runsEvenSpec : ChangeSpec := { name := "runsEven", fn := fun _ => fun
  | [d1, d2] => { results := [.lit (.bool true)], args := [d1, d2] }
  | _ => none }
def runsEvenRow : OpenClaim := { program := "ytfjhbhnelkpgdaa", sum := "9f4a33024c57af895a4617e2360fbf8b93bcad3aca4e9c86461107c538e6f874", func := "boustrophedon/boustrophedonlaw12.RunsEven", spec := "runsEven", apart := false }
def RunsEvenSaid : Prop := runsEvenRow.holds Try.pinned (OpenSpec.ofChange runsEvenSpec)

/-- ITS FALSE NEIGHBOUR: 'it returns false'. Refute it at one input. -/
def runsEvenWrong : ChangeSpec := { name := "runsEven", fn := fun _ => fun
  | [d1, d2] => { results := [.lit (.bool false)], args := [d1, d2] }
  | _ => none }
def RunsEvenWrongFalsely : Prop := runsEvenRow.holds Try.pinned (OpenSpec.ofChange runsEvenWrong)

/-- 'boustrophedonlaw12.RunsCount': WHATEVER THE INPUT: true; the input reads as it did. -/
def runsCountSpec : ChangeSpec := { name := "runsCount", fn := fun _ => fun
  | [d] => { results := [.lit (.bool true)], args := [d] }
  | _ => none }
def runsCountRow : OpenClaim := { program := "ytfjhbhnelkpgdaa", sum := "9f4a33024c57af895a4617e2360fbf8b93bcad3aca4e9c86461107c538e6f874", func := "boustrophedon/boustrophedonlaw12.RunsCount", spec := "runsCount", apart := false }
def RunsCountSaid : Prop := runsCountRow.holds Try.pinned (OpenSpec.ofChange runsCountSpec)

/-- ITS FALSE NEIGHBOUR: 'it returns false'. Refute it at one input. -/
def runsCountWrong : ChangeSpec := { name := "runsCount", fn := fun _ => fun
  | [d] => { results := [.lit (.bool false)], args := [d] }
  | _ => none }
def RunsCountWrongFalsely : Prop := runsCountRow.holds Try.pinned (OpenSpec.ofChange runsCountWrong)

/-- 'boustrophedonlaw17.ImplicitLevel': WHATEVER THE INPUT: true; the input reads as it did. -/
def implicitLevelSpec : ChangeSpec := { name := "implicitLevel", fn := fun _ => fun
  | [d1, d2] => { results := [.lit (.bool true)], args := [d1, d2] }
  | _ => none }
def implicitLevelRow : OpenClaim := { program := "ytfjhbhnelkpgdaa", sum := "9f4a33024c57af895a4617e2360fbf8b93bcad3aca4e9c86461107c538e6f874", func := "boustrophedon/boustrophedonlaw17.ImplicitLevel", spec := "implicitLevel", apart := false }
def ImplicitLevelSaid : Prop := implicitLevelRow.holds Try.pinned (OpenSpec.ofChange implicitLevelSpec)

/-- ITS FALSE NEIGHBOUR: 'it returns false'. Refute it at one input. -/
def implicitLevelWrong : ChangeSpec := { name := "implicitLevel", fn := fun _ => fun
  | [d1, d2] => { results := [.lit (.bool false)], args := [d1, d2] }
  | _ => none }
def ImplicitLevelWrongFalsely : Prop := implicitLevelRow.holds Try.pinned (OpenSpec.ofChange implicitLevelWrong)

/-- 'boustrophedonlaw17.ImplicitSides': WHATEVER THE INPUT: true; the input reads as it did. -/
def implicitSidesSpec : ChangeSpec := { name := "implicitSides", fn := fun _ => fun
  | [d1, d2] => { results := [.lit (.bool true)], args := [d1, d2] }
  | _ => none }
def implicitSidesRow : OpenClaim := { program := "ytfjhbhnelkpgdaa", sum := "9f4a33024c57af895a4617e2360fbf8b93bcad3aca4e9c86461107c538e6f874", func := "boustrophedon/boustrophedonlaw17.ImplicitSides", spec := "implicitSides", apart := false }
def ImplicitSidesSaid : Prop := implicitSidesRow.holds Try.pinned (OpenSpec.ofChange implicitSidesSpec)

/-- ITS FALSE NEIGHBOUR: 'it returns false'. Refute it at one input. -/
def implicitSidesWrong : ChangeSpec := { name := "implicitSides", fn := fun _ => fun
  | [d1, d2] => { results := [.lit (.bool false)], args := [d1, d2] }
  | _ => none }
def ImplicitSidesWrongFalsely : Prop := implicitSidesRow.holds Try.pinned (OpenSpec.ofChange implicitSidesWrong)

/-- 'boustrophedonlaw17.ImplicitTwo': WHATEVER THE INPUT: true; the input reads as it did. -/
def implicitTwoSpec : ChangeSpec := { name := "implicitTwo", fn := fun _ => fun
  | [d1, d2] => { results := [.lit (.bool true)], args := [d1, d2] }
  | _ => none }
def implicitTwoRow : OpenClaim := { program := "ytfjhbhnelkpgdaa", sum := "9f4a33024c57af895a4617e2360fbf8b93bcad3aca4e9c86461107c538e6f874", func := "boustrophedon/boustrophedonlaw17.ImplicitTwo", spec := "implicitTwo", apart := false }
def ImplicitTwoSaid : Prop := implicitTwoRow.holds Try.pinned (OpenSpec.ofChange implicitTwoSpec)

/-- ITS FALSE NEIGHBOUR: 'it returns false'. Refute it at one input. -/
def implicitTwoWrong : ChangeSpec := { name := "implicitTwo", fn := fun _ => fun
  | [d1, d2] => { results := [.lit (.bool false)], args := [d1, d2] }
  | _ => none }
def ImplicitTwoWrongFalsely : Prop := implicitTwoRow.holds Try.pinned (OpenSpec.ofChange implicitTwoWrong)

/-- 'boustrophedonlaw28.CellsStarts': WHATEVER THE INPUT: true; the input reads as it did. -/
def cellsStartsSpec : ChangeSpec := { name := "cellsStarts", fn := fun _ => fun
  | [d] => { results := [.lit (.bool true)], args := [d] }
  | _ => none }
def cellsStartsRow : OpenClaim := { program := "ytfjhbhnelkpgdaa", sum := "9f4a33024c57af895a4617e2360fbf8b93bcad3aca4e9c86461107c538e6f874", func := "boustrophedon/boustrophedonlaw28.CellsStarts", spec := "cellsStarts", apart := false }
def CellsStartsSaid : Prop := cellsStartsRow.holds Try.pinned (OpenSpec.ofChange cellsStartsSpec)

/-- ITS FALSE NEIGHBOUR: 'it returns false'. Refute it at one input. -/
def cellsStartsWrong : ChangeSpec := { name := "cellsStarts", fn := fun _ => fun
  | [d] => { results := [.lit (.bool false)], args := [d] }
  | _ => none }
def CellsStartsWrongFalsely : Prop := cellsStartsRow.holds Try.pinned (OpenSpec.ofChange cellsStartsWrong)

/-- 'boustrophedonlaw28.CellsHit': WHATEVER THE INPUT: true; the input reads as it did. -/
def cellsHitSpec : ChangeSpec := { name := "cellsHit", fn := fun _ => fun
  | [d1, d2] => { results := [.lit (.bool true)], args := [d1, d2] }
  | _ => none }
def cellsHitRow : OpenClaim := { program := "ytfjhbhnelkpgdaa", sum := "9f4a33024c57af895a4617e2360fbf8b93bcad3aca4e9c86461107c538e6f874", func := "boustrophedon/boustrophedonlaw28.CellsHit", spec := "cellsHit", apart := false }
def CellsHitSaid : Prop := cellsHitRow.holds Try.pinned (OpenSpec.ofChange cellsHitSpec)

/-- ITS FALSE NEIGHBOUR: 'it returns false'. Refute it at one input. -/
def cellsHitWrong : ChangeSpec := { name := "cellsHit", fn := fun _ => fun
  | [d1, d2] => { results := [.lit (.bool false)], args := [d1, d2] }
  | _ => none }
def CellsHitWrongFalsely : Prop := cellsHitRow.holds Try.pinned (OpenSpec.ofChange cellsHitWrong)

/-- 'boustrophedonlaw28.CellsAll': WHATEVER THE INPUT: true; the input reads as it did. -/
def cellsAllSpec : ChangeSpec := { name := "cellsAll", fn := fun _ => fun
  | [d] => { results := [.lit (.bool true)], args := [d] }
  | _ => none }
def cellsAllRow : OpenClaim := { program := "ytfjhbhnelkpgdaa", sum := "9f4a33024c57af895a4617e2360fbf8b93bcad3aca4e9c86461107c538e6f874", func := "boustrophedon/boustrophedonlaw28.CellsAll", spec := "cellsAll", apart := false }
def CellsAllSaid : Prop := cellsAllRow.holds Try.pinned (OpenSpec.ofChange cellsAllSpec)

/-- ITS FALSE NEIGHBOUR: 'it returns false'. Refute it at one input. -/
def cellsAllWrong : ChangeSpec := { name := "cellsAll", fn := fun _ => fun
  | [d] => { results := [.lit (.bool false)], args := [d] }
  | _ => none }
def CellsAllWrongFalsely : Prop := cellsAllRow.holds Try.pinned (OpenSpec.ofChange cellsAllWrong)

/-- 'boustrophedonlaw28.CellsParts': WHATEVER THE INPUT: true; the input reads as it did. -/
def cellsPartsSpec : ChangeSpec := { name := "cellsParts", fn := fun _ => fun
  | [d1, d2] => { results := [.lit (.bool true)], args := [d1, d2] }
  | _ => none }
def cellsPartsRow : OpenClaim := { program := "ytfjhbhnelkpgdaa", sum := "9f4a33024c57af895a4617e2360fbf8b93bcad3aca4e9c86461107c538e6f874", func := "boustrophedon/boustrophedonlaw28.CellsParts", spec := "cellsParts", apart := false }
def CellsPartsSaid : Prop := cellsPartsRow.holds Try.pinned (OpenSpec.ofChange cellsPartsSpec)

/-- ITS FALSE NEIGHBOUR: 'it returns false'. Refute it at one input. -/
def cellsPartsWrong : ChangeSpec := { name := "cellsParts", fn := fun _ => fun
  | [d1, d2] => { results := [.lit (.bool false)], args := [d1, d2] }
  | _ => none }
def CellsPartsWrongFalsely : Prop := cellsPartsRow.holds Try.pinned (OpenSpec.ofChange cellsPartsWrong)

/- THE SECOND FORM. 'bulk': how many values and letters a reading holds, each counted each time it is reached (what is shared counts as often as it is met; a slice's spare places count too). A statement '..UptoSaid' is the law's where the arguments, and the package variables that the reading takes, are together of bulk at most 1048576: NARROWER than '..Said'. Prove '..Said' where nothing that the law and all that it calls make is longer than what came in: it says more and counts as full. Else prove '..UptoSaid'. A law counts once. -/
mutual
def uptoBulk {H : Type} : DataW H → Nat
  | .lit (.string bytes) => bytes.length + 1
  | .lit _ => 1
  | .nil => 1
  | .ptr d => uptoBulk d + 1
  | .slice elems spare => uptoBulkAll elems + uptoBulkAll spare + 1
  | .agg parts => uptoBulkAll parts + 1
  | .iface _ d => uptoBulk d + 1
  | .map entries => uptoBulkEntries entries + 1
  | .held _ => 1
def uptoBulkAll {H : Type} : List (DataW H) → Nat
  | [] => 0
  | d :: r => uptoBulk d + uptoBulkAll r
def uptoBulkEntries {H : Type} : List (Lit × DataW H) → Nat
  | [] => 0
  | x :: r => uptoBulkEntry x + uptoBulkEntries r
def uptoBulkEntry {H : Type} : Lit × DataW H → Nat
  | (.string bytes, d) => bytes.length + uptoBulk d + 1
  | (_, d) => uptoBulk d + 1
 end
def uptoSmall : (H : Type) → List (DataW H) → Bool := fun _ ds => decide (uptoBulkAll ds ≤ 1048576)
def OpenSpec.upto (s : _root_.Go.ChangeSpec) : _root_.Go.OpenSpec := { _root_.Go.OpenSpec.ofChange s with cond := some uptoSmall }

/-- 'boustrophedonlaw12.RunsCut', WHERE WHAT IT READS IS OF BULK AT MOST 1048576: true; the input reads as it did. -/
def runsCutUptoRow : OpenClaim := { program := "ytfjhbhnelkpgdaa", sum := "9f4a33024c57af895a4617e2360fbf8b93bcad3aca4e9c86461107c538e6f874", func := "boustrophedon/boustrophedonlaw12.RunsCut", spec := "runsCut", apart := false, narrowed := true }
def RunsCutUptoSaid : Prop := runsCutUptoRow.holds Try.pinned (OpenSpec.upto runsCutSpec)

/-- 'boustrophedonlaw12.RunsEven', WHERE WHAT IT READS IS OF BULK AT MOST 1048576: true; the input reads as it did. -/
def runsEvenUptoRow : OpenClaim := { program := "ytfjhbhnelkpgdaa", sum := "9f4a33024c57af895a4617e2360fbf8b93bcad3aca4e9c86461107c538e6f874", func := "boustrophedon/boustrophedonlaw12.RunsEven", spec := "runsEven", apart := false, narrowed := true }
def RunsEvenUptoSaid : Prop := runsEvenUptoRow.holds Try.pinned (OpenSpec.upto runsEvenSpec)

/-- 'boustrophedonlaw12.RunsCount', WHERE WHAT IT READS IS OF BULK AT MOST 1048576: true; the input reads as it did. -/
def runsCountUptoRow : OpenClaim := { program := "ytfjhbhnelkpgdaa", sum := "9f4a33024c57af895a4617e2360fbf8b93bcad3aca4e9c86461107c538e6f874", func := "boustrophedon/boustrophedonlaw12.RunsCount", spec := "runsCount", apart := false, narrowed := true }
def RunsCountUptoSaid : Prop := runsCountUptoRow.holds Try.pinned (OpenSpec.upto runsCountSpec)

/-- 'boustrophedonlaw17.ImplicitLevel', WHERE WHAT IT READS IS OF BULK AT MOST 1048576: true; the input reads as it did. -/
def implicitLevelUptoRow : OpenClaim := { program := "ytfjhbhnelkpgdaa", sum := "9f4a33024c57af895a4617e2360fbf8b93bcad3aca4e9c86461107c538e6f874", func := "boustrophedon/boustrophedonlaw17.ImplicitLevel", spec := "implicitLevel", apart := false, narrowed := true }
def ImplicitLevelUptoSaid : Prop := implicitLevelUptoRow.holds Try.pinned (OpenSpec.upto implicitLevelSpec)

/-- 'boustrophedonlaw17.ImplicitSides', WHERE WHAT IT READS IS OF BULK AT MOST 1048576: true; the input reads as it did. -/
def implicitSidesUptoRow : OpenClaim := { program := "ytfjhbhnelkpgdaa", sum := "9f4a33024c57af895a4617e2360fbf8b93bcad3aca4e9c86461107c538e6f874", func := "boustrophedon/boustrophedonlaw17.ImplicitSides", spec := "implicitSides", apart := false, narrowed := true }
def ImplicitSidesUptoSaid : Prop := implicitSidesUptoRow.holds Try.pinned (OpenSpec.upto implicitSidesSpec)

/-- 'boustrophedonlaw17.ImplicitTwo', WHERE WHAT IT READS IS OF BULK AT MOST 1048576: true; the input reads as it did. -/
def implicitTwoUptoRow : OpenClaim := { program := "ytfjhbhnelkpgdaa", sum := "9f4a33024c57af895a4617e2360fbf8b93bcad3aca4e9c86461107c538e6f874", func := "boustrophedon/boustrophedonlaw17.ImplicitTwo", spec := "implicitTwo", apart := false, narrowed := true }
def ImplicitTwoUptoSaid : Prop := implicitTwoUptoRow.holds Try.pinned (OpenSpec.upto implicitTwoSpec)

/-- 'boustrophedonlaw28.CellsStarts', WHERE WHAT IT READS IS OF BULK AT MOST 1048576: true; the input reads as it did. -/
def cellsStartsUptoRow : OpenClaim := { program := "ytfjhbhnelkpgdaa", sum := "9f4a33024c57af895a4617e2360fbf8b93bcad3aca4e9c86461107c538e6f874", func := "boustrophedon/boustrophedonlaw28.CellsStarts", spec := "cellsStarts", apart := false, narrowed := true }
def CellsStartsUptoSaid : Prop := cellsStartsUptoRow.holds Try.pinned (OpenSpec.upto cellsStartsSpec)

/-- 'boustrophedonlaw28.CellsHit', WHERE WHAT IT READS IS OF BULK AT MOST 1048576: true; the input reads as it did. -/
def cellsHitUptoRow : OpenClaim := { program := "ytfjhbhnelkpgdaa", sum := "9f4a33024c57af895a4617e2360fbf8b93bcad3aca4e9c86461107c538e6f874", func := "boustrophedon/boustrophedonlaw28.CellsHit", spec := "cellsHit", apart := false, narrowed := true }
def CellsHitUptoSaid : Prop := cellsHitUptoRow.holds Try.pinned (OpenSpec.upto cellsHitSpec)

/-- 'boustrophedonlaw28.CellsAll', WHERE WHAT IT READS IS OF BULK AT MOST 1048576: true; the input reads as it did. -/
def cellsAllUptoRow : OpenClaim := { program := "ytfjhbhnelkpgdaa", sum := "9f4a33024c57af895a4617e2360fbf8b93bcad3aca4e9c86461107c538e6f874", func := "boustrophedon/boustrophedonlaw28.CellsAll", spec := "cellsAll", apart := false, narrowed := true }
def CellsAllUptoSaid : Prop := cellsAllUptoRow.holds Try.pinned (OpenSpec.upto cellsAllSpec)

/-- 'boustrophedonlaw28.CellsParts', WHERE WHAT IT READS IS OF BULK AT MOST 1048576: true; the input reads as it did. -/
def cellsPartsUptoRow : OpenClaim := { program := "ytfjhbhnelkpgdaa", sum := "9f4a33024c57af895a4617e2360fbf8b93bcad3aca4e9c86461107c538e6f874", func := "boustrophedon/boustrophedonlaw28.CellsParts", spec := "cellsParts", apart := false, narrowed := true }
def CellsPartsUptoSaid : Prop := cellsPartsUptoRow.holds Try.pinned (OpenSpec.upto cellsPartsSpec)

end Rows
end Go.Proofs.Ytfjhbhnelkpgdaa
