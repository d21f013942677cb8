/-
  No cell of these rows narrows 'for every input' (looked for: loops, veiled, ifaces, maps, wideKeys, modest, calm, conditions, laid).
  DERIVED. THE GIVEN ROWS OF THIS SEAT. 4 by the template 'for every input the law returns true; each argument reads behind the call as it read before'; 0 by the template 'total and deterministic' (their statements: YtenopbjggdhfgaaTotals.lean).
  GIVEN WITH THE SEED: the statements are not yours to turn. If you find one false, say at which input.
  Laid BY PROGRAM, IN A SANDBOX (cutbox-rows.mjs): the forced cells as the released guide's own fill.sh prints them over the translation 125f830a46bb67ea… (all of the seat's roots in one cut). By AI agents, Wed Nov 11 2026. No macro, syntax, notation, axiom, sorry.
-/
import Derived.Test.YtenopbjggdhfgaaChecked
import GoSem.Claim
import GoSem.ClaimJoined
import GoSem.ClaimMapViews
import Derived.JoinedTies
import Derived.KernelRfl
namespace Go.Proofs.Ytenopbjggdhfgaa
/- THE CELL 'sum', in the pinned program and in every row, IS THE sha256 OF THE DUMP (.gsa) THAT YtenopbjggdhfgaaProg.lean LOADS. Nothing in Lean hashes anything: it is a label: what it is worth is what the hold of that sum in a sandbox is worth. -/
noncomputable def Try.pinned : Pinned := { name := "ytenopbjggdhfgaa", sum := "125f830a46bb67eada82e6d5ef9e3d9222a53d65f05995a6ca9ad913aca8e2b2", checked := Try.checked }
namespace Rows
def none {H : Type} : Left H := { results := [], args := [] }

/-- 'boustrophedonlaw31.ClusterSpans': WHATEVER THE INPUT: true; the input reads as it did. -/
def clusterSpansSpec : ChangeSpec := { name := "clusterSpans", fn := fun _ => fun
  | [d] => { results := [.lit (.bool true)], args := [d] }
  | _ => none }
def clusterSpansRow : OpenClaim := { program := "ytenopbjggdhfgaa", sum := "125f830a46bb67eada82e6d5ef9e3d9222a53d65f05995a6ca9ad913aca8e2b2", func := "boustrophedon/boustrophedonlaw31.ClusterSpans", spec := "clusterSpans", apart := false }
def ClusterSpansSaid : Prop := clusterSpansRow.holds Try.pinned (OpenSpec.ofChange clusterSpansSpec)

/-- ITS FALSE NEIGHBOUR: 'it returns false'. Refute it at one input. -/
def clusterSpansWrong : ChangeSpec := { name := "clusterSpans", fn := fun _ => fun
  | [d] => { results := [.lit (.bool false)], args := [d] }
  | _ => none }
def ClusterSpansWrongFalsely : Prop := clusterSpansRow.holds Try.pinned (OpenSpec.ofChange clusterSpansWrong)

/-- 'boustrophedonlaw31.ClusterMoves': WHATEVER THE INPUT: true; the input reads as it did. -/
def clusterMovesSpec : ChangeSpec := { name := "clusterMoves", fn := fun _ => fun
  | [d1, d2] => { results := [.lit (.bool true)], args := [d1, d2] }
  | _ => none }
def clusterMovesRow : OpenClaim := { program := "ytenopbjggdhfgaa", sum := "125f830a46bb67eada82e6d5ef9e3d9222a53d65f05995a6ca9ad913aca8e2b2", func := "boustrophedon/boustrophedonlaw31.ClusterMoves", spec := "clusterMoves", apart := false }
def ClusterMovesSaid : Prop := clusterMovesRow.holds Try.pinned (OpenSpec.ofChange clusterMovesSpec)

/-- ITS FALSE NEIGHBOUR: 'it returns false'. Refute it at one input. -/
def clusterMovesWrong : ChangeSpec := { name := "clusterMoves", fn := fun _ => fun
  | [d1, d2] => { results := [.lit (.bool false)], args := [d1, d2] }
  | _ => none }
def ClusterMovesWrongFalsely : Prop := clusterMovesRow.holds Try.pinned (OpenSpec.ofChange clusterMovesWrong)

/-- 'boustrophedonlaw31.ClusterBack': WHATEVER THE INPUT: true; the input reads as it did. -/
def clusterBackSpec : ChangeSpec := { name := "clusterBack", fn := fun _ => fun
  | [d] => { results := [.lit (.bool true)], args := [d] }
  | _ => none }
def clusterBackRow : OpenClaim := { program := "ytenopbjggdhfgaa", sum := "125f830a46bb67eada82e6d5ef9e3d9222a53d65f05995a6ca9ad913aca8e2b2", func := "boustrophedon/boustrophedonlaw31.ClusterBack", spec := "clusterBack", apart := false }
def ClusterBackSaid : Prop := clusterBackRow.holds Try.pinned (OpenSpec.ofChange clusterBackSpec)

/-- ITS FALSE NEIGHBOUR: 'it returns false'. Refute it at one input. -/
def clusterBackWrong : ChangeSpec := { name := "clusterBack", fn := fun _ => fun
  | [d] => { results := [.lit (.bool false)], args := [d] }
  | _ => none }
def ClusterBackWrongFalsely : Prop := clusterBackRow.holds Try.pinned (OpenSpec.ofChange clusterBackWrong)

/-- 'boustrophedonlaw31.ClusterLetters': WHATEVER THE INPUT: true; the input reads as it did. -/
def clusterLettersSpec : ChangeSpec := { name := "clusterLetters", fn := fun _ => fun
  | [d] => { results := [.lit (.bool true)], args := [d] }
  | _ => none }
def clusterLettersRow : OpenClaim := { program := "ytenopbjggdhfgaa", sum := "125f830a46bb67eada82e6d5ef9e3d9222a53d65f05995a6ca9ad913aca8e2b2", func := "boustrophedon/boustrophedonlaw31.ClusterLetters", spec := "clusterLetters", apart := false }
def ClusterLettersSaid : Prop := clusterLettersRow.holds Try.pinned (OpenSpec.ofChange clusterLettersSpec)

/-- ITS FALSE NEIGHBOUR: 'it returns false'. Refute it at one input. -/
def clusterLettersWrong : ChangeSpec := { name := "clusterLetters", fn := fun _ => fun
  | [d] => { results := [.lit (.bool false)], args := [d] }
  | _ => none }
def ClusterLettersWrongFalsely : Prop := clusterLettersRow.holds Try.pinned (OpenSpec.ofChange clusterLettersWrong)

/- THE SECOND FORM. 'bulk': how many values and letters a reading holds, each counted each time it is reached (what is shared counts as often as it is met; a slice's spare places count too). A statement '..UptoSaid' is the law's where the arguments, and the package variables that the reading takes, are together of bulk at most 1048576: NARROWER than '..Said'. Prove '..Said' where nothing that the law and all that it calls make is longer than what came in: it says more and counts as full. Else prove '..UptoSaid'. A law counts once. -/
mutual
def uptoBulk {H : Type} : DataW H → Nat
  | .lit (.string bytes) => bytes.length + 1
  | .lit _ => 1
  | .nil => 1
  | .ptr d => uptoBulk d + 1
  | .slice elems spare => uptoBulkAll elems + uptoBulkAll spare + 1
  | .agg parts => uptoBulkAll parts + 1
  | .iface _ d => uptoBulk d + 1
  | .map entries => uptoBulkEntries entries + 1
  | .held _ => 1
def uptoBulkAll {H : Type} : List (DataW H) → Nat
  | [] => 0
  | d :: r => uptoBulk d + uptoBulkAll r
def uptoBulkEntries {H : Type} : List (Lit × DataW H) → Nat
  | [] => 0
  | x :: r => uptoBulkEntry x + uptoBulkEntries r
def uptoBulkEntry {H : Type} : Lit × DataW H → Nat
  | (.string bytes, d) => bytes.length + uptoBulk d + 1
  | (_, d) => uptoBulk d + 1
 end
def uptoSmall : (H : Type) → List (DataW H) → Bool := fun _ ds => decide (uptoBulkAll ds ≤ 1048576)
def OpenSpec.upto (s : _root_.Go.ChangeSpec) : _root_.Go.OpenSpec := { _root_.Go.OpenSpec.ofChange s with cond := some uptoSmall }

/-- 'boustrophedonlaw31.ClusterSpans', WHERE WHAT IT READS IS OF BULK AT MOST 1048576: true; the input reads as it did. -/
def clusterSpansUptoRow : OpenClaim := { program := "ytenopbjggdhfgaa", sum := "125f830a46bb67eada82e6d5ef9e3d9222a53d65f05995a6ca9ad913aca8e2b2", func := "boustrophedon/boustrophedonlaw31.ClusterSpans", spec := "clusterSpans", apart := false, narrowed := true }
def ClusterSpansUptoSaid : Prop := clusterSpansUptoRow.holds Try.pinned (OpenSpec.upto clusterSpansSpec)

/-- 'boustrophedonlaw31.ClusterMoves', WHERE WHAT IT READS IS OF BULK AT MOST 1048576: true; the input reads as it did. -/
def clusterMovesUptoRow : OpenClaim := { program := "ytenopbjggdhfgaa", sum := "125f830a46bb67eada82e6d5ef9e3d9222a53d65f05995a6ca9ad913aca8e2b2", func := "boustrophedon/boustrophedonlaw31.ClusterMoves", spec := "clusterMoves", apart := false, narrowed := true }
def ClusterMovesUptoSaid : Prop := clusterMovesUptoRow.holds Try.pinned (OpenSpec.upto clusterMovesSpec)

/-- 'boustrophedonlaw31.ClusterBack', WHERE WHAT IT READS IS OF BULK AT MOST 1048576: true; the input reads as it did. -/
def clusterBackUptoRow : OpenClaim := { program := "ytenopbjggdhfgaa", sum := "125f830a46bb67eada82e6d5ef9e3d9222a53d65f05995a6ca9ad913aca8e2b2", func := "boustrophedon/boustrophedonlaw31.ClusterBack", spec := "clusterBack", apart := false, narrowed := true }
def ClusterBackUptoSaid : Prop := clusterBackUptoRow.holds Try.pinned (OpenSpec.upto clusterBackSpec)

/-- 'boustrophedonlaw31.ClusterLetters', WHERE WHAT IT READS IS OF BULK AT MOST 1048576: true; the input reads as it did. -/
def clusterLettersUptoRow : OpenClaim := { program := "ytenopbjggdhfgaa", sum := "125f830a46bb67eada82e6d5ef9e3d9222a53d65f05995a6ca9ad913aca8e2b2", func := "boustrophedon/boustrophedonlaw31.ClusterLetters", spec := "clusterLetters", apart := false, narrowed := true }
def ClusterLettersUptoSaid : Prop := clusterLettersUptoRow.holds Try.pinned (OpenSpec.upto clusterLettersSpec)

end Rows
end Go.Proofs.Ytenopbjggdhfgaa
