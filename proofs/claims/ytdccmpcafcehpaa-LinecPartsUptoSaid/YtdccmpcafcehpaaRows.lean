/-
  No cell of these rows narrows 'for every input' (looked for: loops, veiled, ifaces, maps, wideKeys, modest, calm, conditions, laid).
  DERIVED. THE GIVEN ROWS OF THIS SEAT. 4 by the template 'for every input the law returns true; each argument reads behind the call as it read before'; 0 by the template 'total and deterministic' (their statements: YtdccmpcafcehpaaTotals.lean).
  GIVEN WITH THE SEED: the statements are not yours to turn. If you find one false, say at which input.
  Laid BY PROGRAM, IN A SANDBOX (cutbox-rows.mjs): the forced cells as the released guide's own fill.sh prints them over the translation 75d67ebc51c7e215… (all of the seat's roots in one cut). By AI agents, Wed Nov 11 2026. No macro, syntax, notation, axiom, sorry.
-/
import Derived.Test.YtdccmpcafcehpaaChecked
import GoSem.Claim
import GoSem.ClaimJoined
import GoSem.ClaimMapViews
import Derived.JoinedTies
import Derived.KernelRfl
namespace Go.Proofs.Ytdccmpcafcehpaa
/- THE CELL 'sum', in the pinned program and in every row, IS THE sha256 OF THE DUMP (.gsa) THAT YtdccmpcafcehpaaProg.lean LOADS. Nothing in Lean hashes anything: it is a label: what it is worth is what the hold of that sum in a sandbox is worth. -/
noncomputable def Try.pinned : Pinned := { name := "ytdccmpcafcehpaa", sum := "75d67ebc51c7e2157ef045907869df24c84f4aa95bab474c3a366cd67788bb94", checked := Try.checked }
namespace Rows
def none {H : Type} : Left H := { results := [], args := [] }

/-- 'boustrophedonlaw06.LinecTables': WHATEVER THE INPUT: true; the input reads as it did. -/
def linecTablesSpec : ChangeSpec := { name := "linecTables", fn := fun _ => fun
  | [d] => { results := [.lit (.bool true)], args := [d] }
  | _ => none }
def linecTablesRow : OpenClaim := { program := "ytdccmpcafcehpaa", sum := "75d67ebc51c7e2157ef045907869df24c84f4aa95bab474c3a366cd67788bb94", func := "boustrophedon/boustrophedonlaw06.LinecTables", spec := "linecTables", apart := false }
def LinecTablesSaid : Prop := linecTablesRow.holds Try.pinned (OpenSpec.ofChange linecTablesSpec)

/-- ITS FALSE NEIGHBOUR: 'it returns false'. Refute it at one input. -/
def linecTablesWrong : ChangeSpec := { name := "linecTables", fn := fun _ => fun
  | [d] => { results := [.lit (.bool false)], args := [d] }
  | _ => none }
def LinecTablesWrongFalsely : Prop := linecTablesRow.holds Try.pinned (OpenSpec.ofChange linecTablesWrong)

/-- 'boustrophedonlaw06.LinecOf': WHATEVER THE INPUT: true; the input reads as it did. -/
def linecOfSpec : ChangeSpec := { name := "linecOf", fn := fun _ => fun
  | [d] => { results := [.lit (.bool true)], args := [d] }
  | _ => none }
def linecOfRow : OpenClaim := { program := "ytdccmpcafcehpaa", sum := "75d67ebc51c7e2157ef045907869df24c84f4aa95bab474c3a366cd67788bb94", func := "boustrophedon/boustrophedonlaw06.LinecOf", spec := "linecOf", apart := false }
def LinecOfSaid : Prop := linecOfRow.holds Try.pinned (OpenSpec.ofChange linecOfSpec)

/-- ITS FALSE NEIGHBOUR: 'it returns false'. Refute it at one input. -/
def linecOfWrong : ChangeSpec := { name := "linecOf", fn := fun _ => fun
  | [d] => { results := [.lit (.bool false)], args := [d] }
  | _ => none }
def LinecOfWrongFalsely : Prop := linecOfRow.holds Try.pinned (OpenSpec.ofChange linecOfWrong)

/-- 'boustrophedonlaw06.LinecEach': WHATEVER THE INPUT: true; the input reads as it did. -/
def linecEachSpec : ChangeSpec := { name := "linecEach", fn := fun _ => fun
  | [d1, d2] => { results := [.lit (.bool true)], args := [d1, d2] }
  | _ => none }
def linecEachRow : OpenClaim := { program := "ytdccmpcafcehpaa", sum := "75d67ebc51c7e2157ef045907869df24c84f4aa95bab474c3a366cd67788bb94", func := "boustrophedon/boustrophedonlaw06.LinecEach", spec := "linecEach", apart := false }
def LinecEachSaid : Prop := linecEachRow.holds Try.pinned (OpenSpec.ofChange linecEachSpec)

/-- ITS FALSE NEIGHBOUR: 'it returns false'. Refute it at one input. -/
def linecEachWrong : ChangeSpec := { name := "linecEach", fn := fun _ => fun
  | [d1, d2] => { results := [.lit (.bool false)], args := [d1, d2] }
  | _ => none }
def LinecEachWrongFalsely : Prop := linecEachRow.holds Try.pinned (OpenSpec.ofChange linecEachWrong)

/-- 'boustrophedonlaw06.LinecParts': WHATEVER THE INPUT: true; the input reads as it did. -/
def linecPartsSpec : ChangeSpec := { name := "linecParts", fn := fun _ => fun
  | [d1, d2] => { results := [.lit (.bool true)], args := [d1, d2] }
  | _ => none }
def linecPartsRow : OpenClaim := { program := "ytdccmpcafcehpaa", sum := "75d67ebc51c7e2157ef045907869df24c84f4aa95bab474c3a366cd67788bb94", func := "boustrophedon/boustrophedonlaw06.LinecParts", spec := "linecParts", apart := false }
def LinecPartsSaid : Prop := linecPartsRow.holds Try.pinned (OpenSpec.ofChange linecPartsSpec)

/-- ITS FALSE NEIGHBOUR: 'it returns false'. Refute it at one input. -/
def linecPartsWrong : ChangeSpec := { name := "linecParts", fn := fun _ => fun
  | [d1, d2] => { results := [.lit (.bool false)], args := [d1, d2] }
  | _ => none }
def LinecPartsWrongFalsely : Prop := linecPartsRow.holds Try.pinned (OpenSpec.ofChange linecPartsWrong)

/- THE SECOND FORM. 'bulk': how many values and letters a reading holds, each counted each time it is reached (what is shared counts as often as it is met; a slice's spare places count too). A statement '..UptoSaid' is the law's where the arguments, and the package variables that the reading takes, are together of bulk at most 1048576: NARROWER than '..Said'. Prove '..Said' where nothing that the law and all that it calls make is longer than what came in: it says more and counts as full. Else prove '..UptoSaid'. A law counts once. -/
mutual
def uptoBulk {H : Type} : DataW H → Nat
  | .lit (.string bytes) => bytes.length + 1
  | .lit _ => 1
  | .nil => 1
  | .ptr d => uptoBulk d + 1
  | .slice elems spare => uptoBulkAll elems + uptoBulkAll spare + 1
  | .agg parts => uptoBulkAll parts + 1
  | .iface _ d => uptoBulk d + 1
  | .map entries => uptoBulkEntries entries + 1
  | .held _ => 1
def uptoBulkAll {H : Type} : List (DataW H) → Nat
  | [] => 0
  | d :: r => uptoBulk d + uptoBulkAll r
def uptoBulkEntries {H : Type} : List (Lit × DataW H) → Nat
  | [] => 0
  | x :: r => uptoBulkEntry x + uptoBulkEntries r
def uptoBulkEntry {H : Type} : Lit × DataW H → Nat
  | (.string bytes, d) => bytes.length + uptoBulk d + 1
  | (_, d) => uptoBulk d + 1
 end
def uptoSmall : (H : Type) → List (DataW H) → Bool := fun _ ds => decide (uptoBulkAll ds ≤ 1048576)
def OpenSpec.upto (s : _root_.Go.ChangeSpec) : _root_.Go.OpenSpec := { _root_.Go.OpenSpec.ofChange s with cond := some uptoSmall }

/-- 'boustrophedonlaw06.LinecTables', WHERE WHAT IT READS IS OF BULK AT MOST 1048576: true; the input reads as it did. -/
def linecTablesUptoRow : OpenClaim := { program := "ytdccmpcafcehpaa", sum := "75d67ebc51c7e2157ef045907869df24c84f4aa95bab474c3a366cd67788bb94", func := "boustrophedon/boustrophedonlaw06.LinecTables", spec := "linecTables", apart := false, narrowed := true }
def LinecTablesUptoSaid : Prop := linecTablesUptoRow.holds Try.pinned (OpenSpec.upto linecTablesSpec)

/-- 'boustrophedonlaw06.LinecOf', WHERE WHAT IT READS IS OF BULK AT MOST 1048576: true; the input reads as it did. -/
def linecOfUptoRow : OpenClaim := { program := "ytdccmpcafcehpaa", sum := "75d67ebc51c7e2157ef045907869df24c84f4aa95bab474c3a366cd67788bb94", func := "boustrophedon/boustrophedonlaw06.LinecOf", spec := "linecOf", apart := false, narrowed := true }
def LinecOfUptoSaid : Prop := linecOfUptoRow.holds Try.pinned (OpenSpec.upto linecOfSpec)

/-- 'boustrophedonlaw06.LinecEach', WHERE WHAT IT READS IS OF BULK AT MOST 1048576: true; the input reads as it did. -/
def linecEachUptoRow : OpenClaim := { program := "ytdccmpcafcehpaa", sum := "75d67ebc51c7e2157ef045907869df24c84f4aa95bab474c3a366cd67788bb94", func := "boustrophedon/boustrophedonlaw06.LinecEach", spec := "linecEach", apart := false, narrowed := true }
def LinecEachUptoSaid : Prop := linecEachUptoRow.holds Try.pinned (OpenSpec.upto linecEachSpec)

/-- 'boustrophedonlaw06.LinecParts', WHERE WHAT IT READS IS OF BULK AT MOST 1048576: true; the input reads as it did. -/
def linecPartsUptoRow : OpenClaim := { program := "ytdccmpcafcehpaa", sum := "75d67ebc51c7e2157ef045907869df24c84f4aa95bab474c3a366cd67788bb94", func := "boustrophedon/boustrophedonlaw06.LinecParts", spec := "linecParts", apart := false, narrowed := true }
def LinecPartsUptoSaid : Prop := linecPartsUptoRow.holds Try.pinned (OpenSpec.upto linecPartsSpec)

end Rows
end Go.Proofs.Ytdccmpcafcehpaa
