/-
  No cell of these rows narrows 'for every input' (looked for: loops, veiled, ifaces, maps, wideKeys, modest, calm, conditions, laid).
  DERIVED. THE GIVEN ROWS OF THIS SEAT. 4 by the template 'for every input the law returns true; each argument reads behind the call as it read before'; 0 by the template 'total and deterministic' (their statements: YtggnnjofbknjjaaTotals.lean).
  GIVEN WITH THE SEED: the statements are not yours to turn. If you find one false, say at which input.
  Laid BY PROGRAM, IN A SANDBOX (cutbox-rows.mjs): the forced cells as the released guide's own fill.sh prints them over the translation 250877222cf7eee3… (all of the seat's roots in one cut). By AI agents, Wed Nov 11 2026. No macro, syntax, notation, axiom, sorry.
-/
import Derived.Test.YtggnnjofbknjjaaChecked
import GoSem.Claim
import GoSem.ClaimJoined
import GoSem.ClaimMapViews
import Derived.JoinedTies
import Derived.KernelRfl
namespace Go.Proofs.Ytggnnjofbknjjaa
/- THE CELL 'sum', in the pinned program and in every row, IS THE sha256 OF THE DUMP (.gsa) THAT YtggnnjofbknjjaaProg.lean LOADS. Nothing in Lean hashes anything: it is a label: what it is worth is what the hold of that sum in a sandbox is worth. -/
noncomputable def Try.pinned : Pinned := { name := "ytggnnjofbknjjaa", sum := "250877222cf7eee3412600573bd33efbf9c71b97fd153cf0ba86e83b5d14d0a8", checked := Try.checked }
namespace Rows
def none {H : Type} : Left H := { results := [], args := [] }

/-- 'boustrophedonlaw26.MarksFix': WHATEVER THE INPUT: true; the input reads as it did. -/
def marksFixSpec : ChangeSpec := { name := "marksFix", fn := fun _ => fun
  | [d1, d2, d3] => { results := [.lit (.bool true)], args := [d1, d2, d3] }
  | _ => none }
def marksFixRow : OpenClaim := { program := "ytggnnjofbknjjaa", sum := "250877222cf7eee3412600573bd33efbf9c71b97fd153cf0ba86e83b5d14d0a8", func := "boustrophedon/boustrophedonlaw26.MarksFix", spec := "marksFix", unfollowed := true, recurses := true, apart := false }
def MarksFixSaid : Prop := marksFixRow.holds Try.pinned (OpenSpec.ofChange marksFixSpec)

/-- ITS FALSE NEIGHBOUR: 'it returns false'. Refute it at one input. -/
def marksFixWrong : ChangeSpec := { name := "marksFix", fn := fun _ => fun
  | [d1, d2, d3] => { results := [.lit (.bool false)], args := [d1, d2, d3] }
  | _ => none }
def MarksFixWrongFalsely : Prop := marksFixRow.holds Try.pinned (OpenSpec.ofChange marksFixWrong)

/-- 'boustrophedonlaw26.MarksRaw': WHATEVER THE INPUT: true; the input reads as it did. -/
def marksRawSpec : ChangeSpec := { name := "marksRaw", fn := fun _ => fun
  | [d1, d2, d3, d4] => { results := [.lit (.bool true)], args := [d1, d2, d3, d4] }
  | _ => none }
def marksRawRow : OpenClaim := { program := "ytggnnjofbknjjaa", sum := "250877222cf7eee3412600573bd33efbf9c71b97fd153cf0ba86e83b5d14d0a8", func := "boustrophedon/boustrophedonlaw26.MarksRaw", spec := "marksRaw", unfollowed := true, recurses := true, apart := false }
def MarksRawSaid : Prop := marksRawRow.holds Try.pinned (OpenSpec.ofChange marksRawSpec)

/-- ITS FALSE NEIGHBOUR: 'it returns false'. Refute it at one input. -/
def marksRawWrong : ChangeSpec := { name := "marksRaw", fn := fun _ => fun
  | [d1, d2, d3, d4] => { results := [.lit (.bool false)], args := [d1, d2, d3, d4] }
  | _ => none }
def MarksRawWrongFalsely : Prop := marksRawRow.holds Try.pinned (OpenSpec.ofChange marksRawWrong)

/-- 'boustrophedonlaw26.MarksKeep': WHATEVER THE INPUT: true; the input reads as it did. -/
def marksKeepSpec : ChangeSpec := { name := "marksKeep", fn := fun _ => fun
  | [d1, d2, d3] => { results := [.lit (.bool true)], args := [d1, d2, d3] }
  | _ => none }
def marksKeepRow : OpenClaim := { program := "ytggnnjofbknjjaa", sum := "250877222cf7eee3412600573bd33efbf9c71b97fd153cf0ba86e83b5d14d0a8", func := "boustrophedon/boustrophedonlaw26.MarksKeep", spec := "marksKeep", unfollowed := true, recurses := true, apart := false }
def MarksKeepSaid : Prop := marksKeepRow.holds Try.pinned (OpenSpec.ofChange marksKeepSpec)

/-- ITS FALSE NEIGHBOUR: 'it returns false'. Refute it at one input. -/
def marksKeepWrong : ChangeSpec := { name := "marksKeep", fn := fun _ => fun
  | [d1, d2, d3] => { results := [.lit (.bool false)], args := [d1, d2, d3] }
  | _ => none }
def MarksKeepWrongFalsely : Prop := marksKeepRow.holds Try.pinned (OpenSpec.ofChange marksKeepWrong)

/-- 'boustrophedonlaw26.MarksBase': WHATEVER THE INPUT: true; the input reads as it did. -/
def marksBaseSpec : ChangeSpec := { name := "marksBase", fn := fun _ => fun
  | [d] => { results := [.lit (.bool true)], args := [d] }
  | _ => none }
def marksBaseRow : OpenClaim := { program := "ytggnnjofbknjjaa", sum := "250877222cf7eee3412600573bd33efbf9c71b97fd153cf0ba86e83b5d14d0a8", func := "boustrophedon/boustrophedonlaw26.MarksBase", spec := "marksBase", unfollowed := true, recurses := true, apart := false }
def MarksBaseSaid : Prop := marksBaseRow.holds Try.pinned (OpenSpec.ofChange marksBaseSpec)

/-- ITS FALSE NEIGHBOUR: 'it returns false'. Refute it at one input. -/
def marksBaseWrong : ChangeSpec := { name := "marksBase", fn := fun _ => fun
  | [d] => { results := [.lit (.bool false)], args := [d] }
  | _ => none }
def MarksBaseWrongFalsely : Prop := marksBaseRow.holds Try.pinned (OpenSpec.ofChange marksBaseWrong)

/- THE SECOND FORM. 'bulk': how many values and letters a reading holds, each counted each time it is reached (what is shared counts as often as it is met; a slice's spare places count too). A statement '..UptoSaid' is the law's where the arguments, and the package variables that the reading takes, are together of bulk at most 1048576: NARROWER than '..Said'. Prove '..Said' where nothing that the law and all that it calls make is longer than what came in: it says more and counts as full. Else prove '..UptoSaid'. A law counts once. -/
mutual
def uptoBulk {H : Type} : DataW H → Nat
  | .lit (.string bytes) => bytes.length + 1
  | .lit _ => 1
  | .nil => 1
  | .ptr d => uptoBulk d + 1
  | .slice elems spare => uptoBulkAll elems + uptoBulkAll spare + 1
  | .agg parts => uptoBulkAll parts + 1
  | .iface _ d => uptoBulk d + 1
  | .map entries => uptoBulkEntries entries + 1
  | .held _ => 1
def uptoBulkAll {H : Type} : List (DataW H) → Nat
  | [] => 0
  | d :: r => uptoBulk d + uptoBulkAll r
def uptoBulkEntries {H : Type} : List (Lit × DataW H) → Nat
  | [] => 0
  | x :: r => uptoBulkEntry x + uptoBulkEntries r
def uptoBulkEntry {H : Type} : Lit × DataW H → Nat
  | (.string bytes, d) => bytes.length + uptoBulk d + 1
  | (_, d) => uptoBulk d + 1
 end
def uptoSmall : (H : Type) → List (DataW H) → Bool := fun _ ds => decide (uptoBulkAll ds ≤ 1048576)
def OpenSpec.upto (s : _root_.Go.ChangeSpec) : _root_.Go.OpenSpec := { _root_.Go.OpenSpec.ofChange s with cond := some uptoSmall }

/-- 'boustrophedonlaw26.MarksFix', WHERE WHAT IT READS IS OF BULK AT MOST 1048576: true; the input reads as it did. -/
def marksFixUptoRow : OpenClaim := { program := "ytggnnjofbknjjaa", sum := "250877222cf7eee3412600573bd33efbf9c71b97fd153cf0ba86e83b5d14d0a8", func := "boustrophedon/boustrophedonlaw26.MarksFix", spec := "marksFix", unfollowed := true, recurses := true, apart := false, narrowed := true }
def MarksFixUptoSaid : Prop := marksFixUptoRow.holds Try.pinned (OpenSpec.upto marksFixSpec)

/-- 'boustrophedonlaw26.MarksRaw', WHERE WHAT IT READS IS OF BULK AT MOST 1048576: true; the input reads as it did. -/
def marksRawUptoRow : OpenClaim := { program := "ytggnnjofbknjjaa", sum := "250877222cf7eee3412600573bd33efbf9c71b97fd153cf0ba86e83b5d14d0a8", func := "boustrophedon/boustrophedonlaw26.MarksRaw", spec := "marksRaw", unfollowed := true, recurses := true, apart := false, narrowed := true }
def MarksRawUptoSaid : Prop := marksRawUptoRow.holds Try.pinned (OpenSpec.upto marksRawSpec)

/-- 'boustrophedonlaw26.MarksKeep', WHERE WHAT IT READS IS OF BULK AT MOST 1048576: true; the input reads as it did. -/
def marksKeepUptoRow : OpenClaim := { program := "ytggnnjofbknjjaa", sum := "250877222cf7eee3412600573bd33efbf9c71b97fd153cf0ba86e83b5d14d0a8", func := "boustrophedon/boustrophedonlaw26.MarksKeep", spec := "marksKeep", unfollowed := true, recurses := true, apart := false, narrowed := true }
def MarksKeepUptoSaid : Prop := marksKeepUptoRow.holds Try.pinned (OpenSpec.upto marksKeepSpec)

/-- 'boustrophedonlaw26.MarksBase', WHERE WHAT IT READS IS OF BULK AT MOST 1048576: true; the input reads as it did. -/
def marksBaseUptoRow : OpenClaim := { program := "ytggnnjofbknjjaa", sum := "250877222cf7eee3412600573bd33efbf9c71b97fd153cf0ba86e83b5d14d0a8", func := "boustrophedon/boustrophedonlaw26.MarksBase", spec := "marksBase", unfollowed := true, recurses := true, apart := false, narrowed := true }
def MarksBaseUptoSaid : Prop := marksBaseUptoRow.holds Try.pinned (OpenSpec.upto marksBaseSpec)

end Rows
end Go.Proofs.Ytggnnjofbknjjaa
