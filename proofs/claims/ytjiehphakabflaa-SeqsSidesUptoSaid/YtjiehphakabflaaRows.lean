/-
  No cell of these rows narrows 'for every input' (looked for: loops, veiled, ifaces, maps, wideKeys, modest, calm, conditions, laid).
  DERIVED. THE GIVEN ROWS OF THIS SEAT. 9 by the template 'for every input the law returns true; each argument reads behind the call as it read before'; 0 by the template 'total and deterministic' (their statements: YtjiehphakabflaaTotals.lean).
  GIVEN WITH THE SEED: the statements are not yours to turn. If you find one false, say at which input.
  Laid BY PROGRAM, IN A SANDBOX (cutbox-rows.mjs): the forced cells as the released guide's own fill.sh prints them over the translation fdfd306e8efc2564… (all of the seat's roots in one cut). By AI agents, Wed Nov 11 2026. No macro, syntax, notation, axiom, sorry.
-/
import Derived.Test.YtjiehphakabflaaChecked
import GoSem.Claim
import GoSem.ClaimJoined
import GoSem.ClaimMapViews
import Derived.JoinedTies
import Derived.KernelRfl
namespace Go.Proofs.Ytjiehphakabflaa
/- THE CELL 'sum', in the pinned program and in every row, IS THE sha256 OF THE DUMP (.gsa) THAT YtjiehphakabflaaProg.lean LOADS. Nothing in Lean hashes anything: it is a label: what it is worth is what the hold of that sum in a sandbox is worth. -/
noncomputable def Try.pinned : Pinned := { name := "ytjiehphakabflaa", sum := "fdfd306e8efc2564c80b48f61db9488aefdf82e22f9ce2675c093e1a2bf89524", checked := Try.checked }
namespace Rows
def none {H : Type} : Left H := { results := [], args := [] }

/-- 'boustrophedonlaw11.ExplicitResolves': WHATEVER THE INPUT: true; the input reads as it did. -/
def explicitResolvesSpec : ChangeSpec := { name := "explicitResolves", fn := fun _ => fun
  | [d1, d2] => { results := [.lit (.bool true)], args := [d1, d2] }
  | _ => none }
def explicitResolvesRow : OpenClaim := { program := "ytjiehphakabflaa", sum := "fdfd306e8efc2564c80b48f61db9488aefdf82e22f9ce2675c093e1a2bf89524", func := "boustrophedon/boustrophedonlaw11.ExplicitResolves", spec := "explicitResolves", apart := false }
def ExplicitResolvesSaid : Prop := explicitResolvesRow.holds Try.pinned (OpenSpec.ofChange explicitResolvesSpec)

/-- ITS FALSE NEIGHBOUR: 'it returns false'. Refute it at one input. -/
def explicitResolvesWrong : ChangeSpec := { name := "explicitResolves", fn := fun _ => fun
  | [d1, d2] => { results := [.lit (.bool false)], args := [d1, d2] }
  | _ => none }
def ExplicitResolvesWrongFalsely : Prop := explicitResolvesRow.holds Try.pinned (OpenSpec.ofChange explicitResolvesWrong)

/-- 'boustrophedonlaw11.ExplicitDeep': WHATEVER THE INPUT: true; the input reads as it did. -/
def explicitDeepSpec : ChangeSpec := { name := "explicitDeep", fn := fun _ => fun
  | [d1, d2, d3] => { results := [.lit (.bool true)], args := [d1, d2, d3] }
  | _ => none }
def explicitDeepRow : OpenClaim := { program := "ytjiehphakabflaa", sum := "fdfd306e8efc2564c80b48f61db9488aefdf82e22f9ce2675c093e1a2bf89524", func := "boustrophedon/boustrophedonlaw11.ExplicitDeep", spec := "explicitDeep", apart := false }
def ExplicitDeepSaid : Prop := explicitDeepRow.holds Try.pinned (OpenSpec.ofChange explicitDeepSpec)

/-- ITS FALSE NEIGHBOUR: 'it returns false'. Refute it at one input. -/
def explicitDeepWrong : ChangeSpec := { name := "explicitDeep", fn := fun _ => fun
  | [d1, d2, d3] => { results := [.lit (.bool false)], args := [d1, d2, d3] }
  | _ => none }
def ExplicitDeepWrongFalsely : Prop := explicitDeepRow.holds Try.pinned (OpenSpec.ofChange explicitDeepWrong)

/-- 'boustrophedonlaw11.ExplicitBounds': WHATEVER THE INPUT: true; the input reads as it did. -/
def explicitBoundsSpec : ChangeSpec := { name := "explicitBounds", fn := fun _ => fun
  | [d1, d2] => { results := [.lit (.bool true)], args := [d1, d2] }
  | _ => none }
def explicitBoundsRow : OpenClaim := { program := "ytjiehphakabflaa", sum := "fdfd306e8efc2564c80b48f61db9488aefdf82e22f9ce2675c093e1a2bf89524", func := "boustrophedon/boustrophedonlaw11.ExplicitBounds", spec := "explicitBounds", apart := false }
def ExplicitBoundsSaid : Prop := explicitBoundsRow.holds Try.pinned (OpenSpec.ofChange explicitBoundsSpec)

/-- ITS FALSE NEIGHBOUR: 'it returns false'. Refute it at one input. -/
def explicitBoundsWrong : ChangeSpec := { name := "explicitBounds", fn := fun _ => fun
  | [d1, d2] => { results := [.lit (.bool false)], args := [d1, d2] }
  | _ => none }
def ExplicitBoundsWrongFalsely : Prop := explicitBoundsRow.holds Try.pinned (OpenSpec.ofChange explicitBoundsWrong)

/-- 'boustrophedonlaw11.ExplicitPlain': WHATEVER THE INPUT: true; the input reads as it did. -/
def explicitPlainSpec : ChangeSpec := { name := "explicitPlain", fn := fun _ => fun
  | [d1, d2] => { results := [.lit (.bool true)], args := [d1, d2] }
  | _ => none }
def explicitPlainRow : OpenClaim := { program := "ytjiehphakabflaa", sum := "fdfd306e8efc2564c80b48f61db9488aefdf82e22f9ce2675c093e1a2bf89524", func := "boustrophedon/boustrophedonlaw11.ExplicitPlain", spec := "explicitPlain", apart := false }
def ExplicitPlainSaid : Prop := explicitPlainRow.holds Try.pinned (OpenSpec.ofChange explicitPlainSpec)

/-- ITS FALSE NEIGHBOUR: 'it returns false'. Refute it at one input. -/
def explicitPlainWrong : ChangeSpec := { name := "explicitPlain", fn := fun _ => fun
  | [d1, d2] => { results := [.lit (.bool false)], args := [d1, d2] }
  | _ => none }
def ExplicitPlainWrongFalsely : Prop := explicitPlainRow.holds Try.pinned (OpenSpec.ofChange explicitPlainWrong)

/-- 'boustrophedonlaw11.ExplicitAhead': WHATEVER THE INPUT: true; the input reads as it did. -/
def explicitAheadSpec : ChangeSpec := { name := "explicitAhead", fn := fun _ => fun
  | [d1, d2, d3] => { results := [.lit (.bool true)], args := [d1, d2, d3] }
  | _ => none }
def explicitAheadRow : OpenClaim := { program := "ytjiehphakabflaa", sum := "fdfd306e8efc2564c80b48f61db9488aefdf82e22f9ce2675c093e1a2bf89524", func := "boustrophedon/boustrophedonlaw11.ExplicitAhead", spec := "explicitAhead", apart := false }
def ExplicitAheadSaid : Prop := explicitAheadRow.holds Try.pinned (OpenSpec.ofChange explicitAheadSpec)

/-- ITS FALSE NEIGHBOUR: 'it returns false'. Refute it at one input. -/
def explicitAheadWrong : ChangeSpec := { name := "explicitAhead", fn := fun _ => fun
  | [d1, d2, d3] => { results := [.lit (.bool false)], args := [d1, d2, d3] }
  | _ => none }
def ExplicitAheadWrongFalsely : Prop := explicitAheadRow.holds Try.pinned (OpenSpec.ofChange explicitAheadWrong)

/-- 'boustrophedonlaw11.ExplicitFirst': WHATEVER THE INPUT: true; the input reads as it did. -/
def explicitFirstSpec : ChangeSpec := { name := "explicitFirst", fn := fun _ => fun
  | [d1, d2, d3] => { results := [.lit (.bool true)], args := [d1, d2, d3] }
  | _ => none }
def explicitFirstRow : OpenClaim := { program := "ytjiehphakabflaa", sum := "fdfd306e8efc2564c80b48f61db9488aefdf82e22f9ce2675c093e1a2bf89524", func := "boustrophedon/boustrophedonlaw11.ExplicitFirst", spec := "explicitFirst", apart := false }
def ExplicitFirstSaid : Prop := explicitFirstRow.holds Try.pinned (OpenSpec.ofChange explicitFirstSpec)

/-- ITS FALSE NEIGHBOUR: 'it returns false'. Refute it at one input. -/
def explicitFirstWrong : ChangeSpec := { name := "explicitFirst", fn := fun _ => fun
  | [d1, d2, d3] => { results := [.lit (.bool false)], args := [d1, d2, d3] }
  | _ => none }
def ExplicitFirstWrongFalsely : Prop := explicitFirstRow.holds Try.pinned (OpenSpec.ofChange explicitFirstWrong)

/-- 'boustrophedonlaw13.SeqsJoin': WHATEVER THE INPUT: true; the input reads as it did. -/
def seqsJoinSpec : ChangeSpec := { name := "seqsJoin", fn := fun _ => fun
  | [d1, d2] => { results := [.lit (.bool true)], args := [d1, d2] }
  | _ => none }
def seqsJoinRow : OpenClaim := { program := "ytjiehphakabflaa", sum := "fdfd306e8efc2564c80b48f61db9488aefdf82e22f9ce2675c093e1a2bf89524", func := "boustrophedon/boustrophedonlaw13.SeqsJoin", spec := "seqsJoin", apart := false }
def SeqsJoinSaid : Prop := seqsJoinRow.holds Try.pinned (OpenSpec.ofChange seqsJoinSpec)

/-- ITS FALSE NEIGHBOUR: 'it returns false'. Refute it at one input. -/
def seqsJoinWrong : ChangeSpec := { name := "seqsJoin", fn := fun _ => fun
  | [d1, d2] => { results := [.lit (.bool false)], args := [d1, d2] }
  | _ => none }
def SeqsJoinWrongFalsely : Prop := seqsJoinRow.holds Try.pinned (OpenSpec.ofChange seqsJoinWrong)

/-- 'boustrophedonlaw13.SeqsRaw': WHATEVER THE INPUT: true; the input reads as it did. -/
def seqsRawSpec : ChangeSpec := { name := "seqsRaw", fn := fun _ => fun
  | [d1, d2, d3] => { results := [.lit (.bool true)], args := [d1, d2, d3] }
  | _ => none }
def seqsRawRow : OpenClaim := { program := "ytjiehphakabflaa", sum := "fdfd306e8efc2564c80b48f61db9488aefdf82e22f9ce2675c093e1a2bf89524", func := "boustrophedon/boustrophedonlaw13.SeqsRaw", spec := "seqsRaw", apart := false }
def SeqsRawSaid : Prop := seqsRawRow.holds Try.pinned (OpenSpec.ofChange seqsRawSpec)

/-- ITS FALSE NEIGHBOUR: 'it returns false'. Refute it at one input. -/
def seqsRawWrong : ChangeSpec := { name := "seqsRaw", fn := fun _ => fun
  | [d1, d2, d3] => { results := [.lit (.bool false)], args := [d1, d2, d3] }
  | _ => none }
def SeqsRawWrongFalsely : Prop := seqsRawRow.holds Try.pinned (OpenSpec.ofChange seqsRawWrong)

/-- 'boustrophedonlaw13.SeqsSides': WHATEVER THE INPUT: true; the input reads as it did. -/
def seqsSidesSpec : ChangeSpec := { name := "seqsSides", fn := fun _ => fun
  | [d1, d2] => { results := [.lit (.bool true)], args := [d1, d2] }
  | _ => none }
def seqsSidesRow : OpenClaim := { program := "ytjiehphakabflaa", sum := "fdfd306e8efc2564c80b48f61db9488aefdf82e22f9ce2675c093e1a2bf89524", func := "boustrophedon/boustrophedonlaw13.SeqsSides", spec := "seqsSides", apart := false }
def SeqsSidesSaid : Prop := seqsSidesRow.holds Try.pinned (OpenSpec.ofChange seqsSidesSpec)

/-- ITS FALSE NEIGHBOUR: 'it returns false'. Refute it at one input. -/
def seqsSidesWrong : ChangeSpec := { name := "seqsSides", fn := fun _ => fun
  | [d1, d2] => { results := [.lit (.bool false)], args := [d1, d2] }
  | _ => none }
def SeqsSidesWrongFalsely : Prop := seqsSidesRow.holds Try.pinned (OpenSpec.ofChange seqsSidesWrong)

/- THE SECOND FORM. 'bulk': how many values and letters a reading holds, each counted each time it is reached (what is shared counts as often as it is met; a slice's spare places count too). A statement '..UptoSaid' is the law's where the arguments, and the package variables that the reading takes, are together of bulk at most 1048576: NARROWER than '..Said'. Prove '..Said' where nothing that the law and all that it calls make is longer than what came in: it says more and counts as full. Else prove '..UptoSaid'. A law counts once. -/
mutual
def uptoBulk {H : Type} : DataW H → Nat
  | .lit (.string bytes) => bytes.length + 1
  | .lit _ => 1
  | .nil => 1
  | .ptr d => uptoBulk d + 1
  | .slice elems spare => uptoBulkAll elems + uptoBulkAll spare + 1
  | .agg parts => uptoBulkAll parts + 1
  | .iface _ d => uptoBulk d + 1
  | .map entries => uptoBulkEntries entries + 1
  | .held _ => 1
def uptoBulkAll {H : Type} : List (DataW H) → Nat
  | [] => 0
  | d :: r => uptoBulk d + uptoBulkAll r
def uptoBulkEntries {H : Type} : List (Lit × DataW H) → Nat
  | [] => 0
  | x :: r => uptoBulkEntry x + uptoBulkEntries r
def uptoBulkEntry {H : Type} : Lit × DataW H → Nat
  | (.string bytes, d) => bytes.length + uptoBulk d + 1
  | (_, d) => uptoBulk d + 1
 end
def uptoSmall : (H : Type) → List (DataW H) → Bool := fun _ ds => decide (uptoBulkAll ds ≤ 1048576)
def OpenSpec.upto (s : _root_.Go.ChangeSpec) : _root_.Go.OpenSpec := { _root_.Go.OpenSpec.ofChange s with cond := some uptoSmall }

/-- 'boustrophedonlaw11.ExplicitResolves', WHERE WHAT IT READS IS OF BULK AT MOST 1048576: true; the input reads as it did. -/
def explicitResolvesUptoRow : OpenClaim := { program := "ytjiehphakabflaa", sum := "fdfd306e8efc2564c80b48f61db9488aefdf82e22f9ce2675c093e1a2bf89524", func := "boustrophedon/boustrophedonlaw11.ExplicitResolves", spec := "explicitResolves", apart := false, narrowed := true }
def ExplicitResolvesUptoSaid : Prop := explicitResolvesUptoRow.holds Try.pinned (OpenSpec.upto explicitResolvesSpec)

/-- 'boustrophedonlaw11.ExplicitDeep', WHERE WHAT IT READS IS OF BULK AT MOST 1048576: true; the input reads as it did. -/
def explicitDeepUptoRow : OpenClaim := { program := "ytjiehphakabflaa", sum := "fdfd306e8efc2564c80b48f61db9488aefdf82e22f9ce2675c093e1a2bf89524", func := "boustrophedon/boustrophedonlaw11.ExplicitDeep", spec := "explicitDeep", apart := false, narrowed := true }
def ExplicitDeepUptoSaid : Prop := explicitDeepUptoRow.holds Try.pinned (OpenSpec.upto explicitDeepSpec)

/-- 'boustrophedonlaw11.ExplicitBounds', WHERE WHAT IT READS IS OF BULK AT MOST 1048576: true; the input reads as it did. -/
def explicitBoundsUptoRow : OpenClaim := { program := "ytjiehphakabflaa", sum := "fdfd306e8efc2564c80b48f61db9488aefdf82e22f9ce2675c093e1a2bf89524", func := "boustrophedon/boustrophedonlaw11.ExplicitBounds", spec := "explicitBounds", apart := false, narrowed := true }
def ExplicitBoundsUptoSaid : Prop := explicitBoundsUptoRow.holds Try.pinned (OpenSpec.upto explicitBoundsSpec)

/-- 'boustrophedonlaw11.ExplicitPlain', WHERE WHAT IT READS IS OF BULK AT MOST 1048576: true; the input reads as it did. -/
def explicitPlainUptoRow : OpenClaim := { program := "ytjiehphakabflaa", sum := "fdfd306e8efc2564c80b48f61db9488aefdf82e22f9ce2675c093e1a2bf89524", func := "boustrophedon/boustrophedonlaw11.ExplicitPlain", spec := "explicitPlain", apart := false, narrowed := true }
def ExplicitPlainUptoSaid : Prop := explicitPlainUptoRow.holds Try.pinned (OpenSpec.upto explicitPlainSpec)

/-- 'boustrophedonlaw11.ExplicitAhead', WHERE WHAT IT READS IS OF BULK AT MOST 1048576: true; the input reads as it did. -/
def explicitAheadUptoRow : OpenClaim := { program := "ytjiehphakabflaa", sum := "fdfd306e8efc2564c80b48f61db9488aefdf82e22f9ce2675c093e1a2bf89524", func := "boustrophedon/boustrophedonlaw11.ExplicitAhead", spec := "explicitAhead", apart := false, narrowed := true }
def ExplicitAheadUptoSaid : Prop := explicitAheadUptoRow.holds Try.pinned (OpenSpec.upto explicitAheadSpec)

/-- 'boustrophedonlaw11.ExplicitFirst', WHERE WHAT IT READS IS OF BULK AT MOST 1048576: true; the input reads as it did. -/
def explicitFirstUptoRow : OpenClaim := { program := "ytjiehphakabflaa", sum := "fdfd306e8efc2564c80b48f61db9488aefdf82e22f9ce2675c093e1a2bf89524", func := "boustrophedon/boustrophedonlaw11.ExplicitFirst", spec := "explicitFirst", apart := false, narrowed := true }
def ExplicitFirstUptoSaid : Prop := explicitFirstUptoRow.holds Try.pinned (OpenSpec.upto explicitFirstSpec)

/-- 'boustrophedonlaw13.SeqsJoin', WHERE WHAT IT READS IS OF BULK AT MOST 1048576: true; the input reads as it did. -/
def seqsJoinUptoRow : OpenClaim := { program := "ytjiehphakabflaa", sum := "fdfd306e8efc2564c80b48f61db9488aefdf82e22f9ce2675c093e1a2bf89524", func := "boustrophedon/boustrophedonlaw13.SeqsJoin", spec := "seqsJoin", apart := false, narrowed := true }
def SeqsJoinUptoSaid : Prop := seqsJoinUptoRow.holds Try.pinned (OpenSpec.upto seqsJoinSpec)

/-- 'boustrophedonlaw13.SeqsRaw', WHERE WHAT IT READS IS OF BULK AT MOST 1048576: true; the input reads as it did. -/
def seqsRawUptoRow : OpenClaim := { program := "ytjiehphakabflaa", sum := "fdfd306e8efc2564c80b48f61db9488aefdf82e22f9ce2675c093e1a2bf89524", func := "boustrophedon/boustrophedonlaw13.SeqsRaw", spec := "seqsRaw", apart := false, narrowed := true }
def SeqsRawUptoSaid : Prop := seqsRawUptoRow.holds Try.pinned (OpenSpec.upto seqsRawSpec)

/-- 'boustrophedonlaw13.SeqsSides', WHERE WHAT IT READS IS OF BULK AT MOST 1048576: true; the input reads as it did. -/
def seqsSidesUptoRow : OpenClaim := { program := "ytjiehphakabflaa", sum := "fdfd306e8efc2564c80b48f61db9488aefdf82e22f9ce2675c093e1a2bf89524", func := "boustrophedon/boustrophedonlaw13.SeqsSides", spec := "seqsSides", apart := false, narrowed := true }
def SeqsSidesUptoSaid : Prop := seqsSidesUptoRow.holds Try.pinned (OpenSpec.upto seqsSidesSpec)

end Rows
end Go.Proofs.Ytjiehphakabflaa
