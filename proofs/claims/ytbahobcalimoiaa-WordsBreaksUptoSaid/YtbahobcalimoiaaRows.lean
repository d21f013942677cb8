/-
  No cell of these rows narrows 'for every input' (looked for: loops, veiled, ifaces, maps, wideKeys, modest, calm, conditions, laid).
  DERIVED. THE GIVEN ROWS OF THIS SEAT. 4 by the template 'for every input the law returns true; each argument reads behind the call as it read before'; 0 by the template 'total and deterministic' (their statements: YtbahobcalimoiaaTotals.lean).
  GIVEN WITH THE SEED: the statements are not yours to turn. If you find one false, say at which input.
  Laid BY PROGRAM, IN A SANDBOX (cutbox-rows.mjs): the forced cells as the released guide's own fill.sh prints them over the translation d6da8e2562f33b2a… (all of the seat's roots in one cut). By AI agents, Wed Nov 11 2026. No macro, syntax, notation, axiom, sorry.
-/
import Derived.Test.YtbahobcalimoiaaChecked
import GoSem.Claim
import GoSem.ClaimJoined
import GoSem.ClaimMapViews
import Derived.JoinedTies
import Derived.KernelRfl
namespace Go.Proofs.Ytbahobcalimoiaa
/- THE CELL 'sum', in the pinned program and in every row, IS THE sha256 OF THE DUMP (.gsa) THAT YtbahobcalimoiaaProg.lean LOADS. Nothing in Lean hashes anything: it is a label: what it is worth is what the hold of that sum in a sandbox is worth. -/
noncomputable def Try.pinned : Pinned := { name := "ytbahobcalimoiaa", sum := "d6da8e2562f33b2a00323f42bef0b2c2cc174aa5dbb7b79d3d34592b6df4374f", checked := Try.checked }
namespace Rows
def none {H : Type} : Left H := { results := [], args := [] }

/-- 'boustrophedonlaw32.WordsKinds': WHATEVER THE INPUT: true; the input reads as it did. -/
def wordsKindsSpec : ChangeSpec := { name := "wordsKinds", fn := fun _ => fun
  | [d] => { results := [.lit (.bool true)], args := [d] }
  | _ => none }
def wordsKindsRow : OpenClaim := { program := "ytbahobcalimoiaa", sum := "d6da8e2562f33b2a00323f42bef0b2c2cc174aa5dbb7b79d3d34592b6df4374f", func := "boustrophedon/boustrophedonlaw32.WordsKinds", spec := "wordsKinds", apart := false }
def WordsKindsSaid : Prop := wordsKindsRow.holds Try.pinned (OpenSpec.ofChange wordsKindsSpec)

/-- ITS FALSE NEIGHBOUR: 'it returns false'. Refute it at one input. -/
def wordsKindsWrong : ChangeSpec := { name := "wordsKinds", fn := fun _ => fun
  | [d] => { results := [.lit (.bool false)], args := [d] }
  | _ => none }
def WordsKindsWrongFalsely : Prop := wordsKindsRow.holds Try.pinned (OpenSpec.ofChange wordsKindsWrong)

/-- 'boustrophedonlaw32.WordsBreaks': WHATEVER THE INPUT: true; the input reads as it did. -/
def wordsBreaksSpec : ChangeSpec := { name := "wordsBreaks", fn := fun _ => fun
  | [d] => { results := [.lit (.bool true)], args := [d] }
  | _ => none }
def wordsBreaksRow : OpenClaim := { program := "ytbahobcalimoiaa", sum := "d6da8e2562f33b2a00323f42bef0b2c2cc174aa5dbb7b79d3d34592b6df4374f", func := "boustrophedon/boustrophedonlaw32.WordsBreaks", spec := "wordsBreaks", unfollowed := true, recurses := true, apart := false }
def WordsBreaksSaid : Prop := wordsBreaksRow.holds Try.pinned (OpenSpec.ofChange wordsBreaksSpec)

/-- ITS FALSE NEIGHBOUR: 'it returns false'. Refute it at one input. -/
def wordsBreaksWrong : ChangeSpec := { name := "wordsBreaks", fn := fun _ => fun
  | [d] => { results := [.lit (.bool false)], args := [d] }
  | _ => none }
def WordsBreaksWrongFalsely : Prop := wordsBreaksRow.holds Try.pinned (OpenSpec.ofChange wordsBreaksWrong)

/-- 'boustrophedonlaw32.WordsSpans': WHATEVER THE INPUT: true; the input reads as it did. -/
def wordsSpansSpec : ChangeSpec := { name := "wordsSpans", fn := fun _ => fun
  | [d] => { results := [.lit (.bool true)], args := [d] }
  | _ => none }
def wordsSpansRow : OpenClaim := { program := "ytbahobcalimoiaa", sum := "d6da8e2562f33b2a00323f42bef0b2c2cc174aa5dbb7b79d3d34592b6df4374f", func := "boustrophedon/boustrophedonlaw32.WordsSpans", spec := "wordsSpans", apart := false }
def WordsSpansSaid : Prop := wordsSpansRow.holds Try.pinned (OpenSpec.ofChange wordsSpansSpec)

/-- ITS FALSE NEIGHBOUR: 'it returns false'. Refute it at one input. -/
def wordsSpansWrong : ChangeSpec := { name := "wordsSpans", fn := fun _ => fun
  | [d] => { results := [.lit (.bool false)], args := [d] }
  | _ => none }
def WordsSpansWrongFalsely : Prop := wordsSpansRow.holds Try.pinned (OpenSpec.ofChange wordsSpansWrong)

/-- 'boustrophedonlaw32.WordsPlain': WHATEVER THE INPUT: true; the input reads as it did. -/
def wordsPlainSpec : ChangeSpec := { name := "wordsPlain", fn := fun _ => fun
  | [d] => { results := [.lit (.bool true)], args := [d] }
  | _ => none }
def wordsPlainRow : OpenClaim := { program := "ytbahobcalimoiaa", sum := "d6da8e2562f33b2a00323f42bef0b2c2cc174aa5dbb7b79d3d34592b6df4374f", func := "boustrophedon/boustrophedonlaw32.WordsPlain", spec := "wordsPlain", apart := false }
def WordsPlainSaid : Prop := wordsPlainRow.holds Try.pinned (OpenSpec.ofChange wordsPlainSpec)

/-- ITS FALSE NEIGHBOUR: 'it returns false'. Refute it at one input. -/
def wordsPlainWrong : ChangeSpec := { name := "wordsPlain", fn := fun _ => fun
  | [d] => { results := [.lit (.bool false)], args := [d] }
  | _ => none }
def WordsPlainWrongFalsely : Prop := wordsPlainRow.holds Try.pinned (OpenSpec.ofChange wordsPlainWrong)

/- THE SECOND FORM. 'bulk': how many values and letters a reading holds, each counted each time it is reached (what is shared counts as often as it is met; a slice's spare places count too). A statement '..UptoSaid' is the law's where the arguments, and the package variables that the reading takes, are together of bulk at most 1048576: NARROWER than '..Said'. Prove '..Said' where nothing that the law and all that it calls make is longer than what came in: it says more and counts as full. Else prove '..UptoSaid'. A law counts once. -/
mutual
def uptoBulk {H : Type} : DataW H → Nat
  | .lit (.string bytes) => bytes.length + 1
  | .lit _ => 1
  | .nil => 1
  | .ptr d => uptoBulk d + 1
  | .slice elems spare => uptoBulkAll elems + uptoBulkAll spare + 1
  | .agg parts => uptoBulkAll parts + 1
  | .iface _ d => uptoBulk d + 1
  | .map entries => uptoBulkEntries entries + 1
  | .held _ => 1
def uptoBulkAll {H : Type} : List (DataW H) → Nat
  | [] => 0
  | d :: r => uptoBulk d + uptoBulkAll r
def uptoBulkEntries {H : Type} : List (Lit × DataW H) → Nat
  | [] => 0
  | x :: r => uptoBulkEntry x + uptoBulkEntries r
def uptoBulkEntry {H : Type} : Lit × DataW H → Nat
  | (.string bytes, d) => bytes.length + uptoBulk d + 1
  | (_, d) => uptoBulk d + 1
 end
def uptoSmall : (H : Type) → List (DataW H) → Bool := fun _ ds => decide (uptoBulkAll ds ≤ 1048576)
def OpenSpec.upto (s : _root_.Go.ChangeSpec) : _root_.Go.OpenSpec := { _root_.Go.OpenSpec.ofChange s with cond := some uptoSmall }

/-- 'boustrophedonlaw32.WordsKinds', WHERE WHAT IT READS IS OF BULK AT MOST 1048576: true; the input reads as it did. -/
def wordsKindsUptoRow : OpenClaim := { program := "ytbahobcalimoiaa", sum := "d6da8e2562f33b2a00323f42bef0b2c2cc174aa5dbb7b79d3d34592b6df4374f", func := "boustrophedon/boustrophedonlaw32.WordsKinds", spec := "wordsKinds", apart := false, narrowed := true }
def WordsKindsUptoSaid : Prop := wordsKindsUptoRow.holds Try.pinned (OpenSpec.upto wordsKindsSpec)

/-- 'boustrophedonlaw32.WordsBreaks', WHERE WHAT IT READS IS OF BULK AT MOST 1048576: true; the input reads as it did. -/
def wordsBreaksUptoRow : OpenClaim := { program := "ytbahobcalimoiaa", sum := "d6da8e2562f33b2a00323f42bef0b2c2cc174aa5dbb7b79d3d34592b6df4374f", func := "boustrophedon/boustrophedonlaw32.WordsBreaks", spec := "wordsBreaks", unfollowed := true, recurses := true, apart := false, narrowed := true }
def WordsBreaksUptoSaid : Prop := wordsBreaksUptoRow.holds Try.pinned (OpenSpec.upto wordsBreaksSpec)

/-- 'boustrophedonlaw32.WordsSpans', WHERE WHAT IT READS IS OF BULK AT MOST 1048576: true; the input reads as it did. -/
def wordsSpansUptoRow : OpenClaim := { program := "ytbahobcalimoiaa", sum := "d6da8e2562f33b2a00323f42bef0b2c2cc174aa5dbb7b79d3d34592b6df4374f", func := "boustrophedon/boustrophedonlaw32.WordsSpans", spec := "wordsSpans", apart := false, narrowed := true }
def WordsSpansUptoSaid : Prop := wordsSpansUptoRow.holds Try.pinned (OpenSpec.upto wordsSpansSpec)

/-- 'boustrophedonlaw32.WordsPlain', WHERE WHAT IT READS IS OF BULK AT MOST 1048576: true; the input reads as it did. -/
def wordsPlainUptoRow : OpenClaim := { program := "ytbahobcalimoiaa", sum := "d6da8e2562f33b2a00323f42bef0b2c2cc174aa5dbb7b79d3d34592b6df4374f", func := "boustrophedon/boustrophedonlaw32.WordsPlain", spec := "wordsPlain", apart := false, narrowed := true }
def WordsPlainUptoSaid : Prop := wordsPlainUptoRow.holds Try.pinned (OpenSpec.upto wordsPlainSpec)

end Rows
end Go.Proofs.Ytbahobcalimoiaa
