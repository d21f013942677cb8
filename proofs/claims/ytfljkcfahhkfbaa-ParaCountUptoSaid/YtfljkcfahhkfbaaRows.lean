/-
  No cell of these rows narrows 'for every input' (looked for: loops, veiled, ifaces, maps, wideKeys, modest, calm, conditions, laid).
  DERIVED. THE GIVEN ROWS OF THIS SEAT. 11 by the template 'for every input the law returns true; each argument reads behind the call as it read before'; 0 by the template 'total and deterministic' (their statements: YtfljkcfahhkfbaaTotals.lean).
  GIVEN WITH THE SEED: the statements are not yours to turn. If you find one false, say at which input.
  Laid BY PROGRAM, IN A SANDBOX (cutbox-rows.mjs): the forced cells as the released guide's own fill.sh prints them over the translation 62d658a4c9915a57… (all of the seat's roots in one cut). By AI agents, Wed Nov 11 2026. No macro, syntax, notation, axiom, sorry.
-/
import Derived.Test.YtfljkcfahhkfbaaChecked
import GoSem.Claim
import GoSem.ClaimJoined
import GoSem.ClaimMapViews
import Derived.JoinedTies
import Derived.KernelRfl
namespace Go.Proofs.Ytfljkcfahhkfbaa
/- THE CELL 'sum', in the pinned program and in every row, IS THE sha256 OF THE DUMP (.gsa) THAT YtfljkcfahhkfbaaProg.lean LOADS. Nothing in Lean hashes anything: it is a label: what it is worth is what the hold of that sum in a sandbox is worth. -/
noncomputable def Try.pinned : Pinned := { name := "ytfljkcfahhkfbaa", sum := "62d658a4c9915a5780418e69c116efbef02689b91294307d7a6b15daa26082ea", checked := Try.checked }
namespace Rows
def none {H : Type} : Left H := { results := [], args := [] }

/-- 'boustrophedonlaw08.ParaSplits': WHATEVER THE INPUT: true; the input reads as it did. -/
def paraSplitsSpec : ChangeSpec := { name := "paraSplits", fn := fun _ => fun
  | [d1, d2] => { results := [.lit (.bool true)], args := [d1, d2] }
  | _ => none }
def paraSplitsRow : OpenClaim := { program := "ytfljkcfahhkfbaa", sum := "62d658a4c9915a5780418e69c116efbef02689b91294307d7a6b15daa26082ea", func := "boustrophedon/boustrophedonlaw08.ParaSplits", spec := "paraSplits", apart := false }
def ParaSplitsSaid : Prop := paraSplitsRow.holds Try.pinned (OpenSpec.ofChange paraSplitsSpec)

/-- ITS FALSE NEIGHBOUR: 'it returns false'. Refute it at one input. -/
def paraSplitsWrong : ChangeSpec := { name := "paraSplits", fn := fun _ => fun
  | [d1, d2] => { results := [.lit (.bool false)], args := [d1, d2] }
  | _ => none }
def ParaSplitsWrongFalsely : Prop := paraSplitsRow.holds Try.pinned (OpenSpec.ofChange paraSplitsWrong)

/-- 'boustrophedonlaw08.ParaJoins': WHATEVER THE INPUT: true; the input reads as it did. -/
def paraJoinsSpec : ChangeSpec := { name := "paraJoins", fn := fun _ => fun
  | [d1, d2, d3, d4] => { results := [.lit (.bool true)], args := [d1, d2, d3, d4] }
  | _ => none }
def paraJoinsRow : OpenClaim := { program := "ytfljkcfahhkfbaa", sum := "62d658a4c9915a5780418e69c116efbef02689b91294307d7a6b15daa26082ea", func := "boustrophedon/boustrophedonlaw08.ParaJoins", spec := "paraJoins", apart := false }
def ParaJoinsSaid : Prop := paraJoinsRow.holds Try.pinned (OpenSpec.ofChange paraJoinsSpec)

/-- ITS FALSE NEIGHBOUR: 'it returns false'. Refute it at one input. -/
def paraJoinsWrong : ChangeSpec := { name := "paraJoins", fn := fun _ => fun
  | [d1, d2, d3, d4] => { results := [.lit (.bool false)], args := [d1, d2, d3, d4] }
  | _ => none }
def ParaJoinsWrongFalsely : Prop := paraJoinsRow.holds Try.pinned (OpenSpec.ofChange paraJoinsWrong)

/-- 'boustrophedonlaw08.ParaShort': WHATEVER THE INPUT: true; the input reads as it did. -/
def paraShortSpec : ChangeSpec := { name := "paraShort", fn := fun _ => fun
  | [d1, d2] => { results := [.lit (.bool true)], args := [d1, d2] }
  | _ => none }
def paraShortRow : OpenClaim := { program := "ytfljkcfahhkfbaa", sum := "62d658a4c9915a5780418e69c116efbef02689b91294307d7a6b15daa26082ea", func := "boustrophedon/boustrophedonlaw08.ParaShort", spec := "paraShort", apart := false }
def ParaShortSaid : Prop := paraShortRow.holds Try.pinned (OpenSpec.ofChange paraShortSpec)

/-- ITS FALSE NEIGHBOUR: 'it returns false'. Refute it at one input. -/
def paraShortWrong : ChangeSpec := { name := "paraShort", fn := fun _ => fun
  | [d1, d2] => { results := [.lit (.bool false)], args := [d1, d2] }
  | _ => none }
def ParaShortWrongFalsely : Prop := paraShortRow.holds Try.pinned (OpenSpec.ofChange paraShortWrong)

/-- 'boustrophedonlaw08.ParaCount': WHATEVER THE INPUT: true; the input reads as it did. -/
def paraCountSpec : ChangeSpec := { name := "paraCount", fn := fun _ => fun
  | [d] => { results := [.lit (.bool true)], args := [d] }
  | _ => none }
def paraCountRow : OpenClaim := { program := "ytfljkcfahhkfbaa", sum := "62d658a4c9915a5780418e69c116efbef02689b91294307d7a6b15daa26082ea", func := "boustrophedon/boustrophedonlaw08.ParaCount", spec := "paraCount", apart := false }
def ParaCountSaid : Prop := paraCountRow.holds Try.pinned (OpenSpec.ofChange paraCountSpec)

/-- ITS FALSE NEIGHBOUR: 'it returns false'. Refute it at one input. -/
def paraCountWrong : ChangeSpec := { name := "paraCount", fn := fun _ => fun
  | [d] => { results := [.lit (.bool false)], args := [d] }
  | _ => none }
def ParaCountWrongFalsely : Prop := paraCountRow.holds Try.pinned (OpenSpec.ofChange paraCountWrong)

/-- 'boustrophedonlaw09.IsolateMatches': WHATEVER THE INPUT: true; the input reads as it did. -/
def isolateMatchesSpec : ChangeSpec := { name := "isolateMatches", fn := fun _ => fun
  | [d] => { results := [.lit (.bool true)], args := [d] }
  | _ => none }
def isolateMatchesRow : OpenClaim := { program := "ytfljkcfahhkfbaa", sum := "62d658a4c9915a5780418e69c116efbef02689b91294307d7a6b15daa26082ea", func := "boustrophedon/boustrophedonlaw09.IsolateMatches", spec := "isolateMatches", apart := false }
def IsolateMatchesSaid : Prop := isolateMatchesRow.holds Try.pinned (OpenSpec.ofChange isolateMatchesSpec)

/-- ITS FALSE NEIGHBOUR: 'it returns false'. Refute it at one input. -/
def isolateMatchesWrong : ChangeSpec := { name := "isolateMatches", fn := fun _ => fun
  | [d] => { results := [.lit (.bool false)], args := [d] }
  | _ => none }
def IsolateMatchesWrongFalsely : Prop := isolateMatchesRow.holds Try.pinned (OpenSpec.ofChange isolateMatchesWrong)

/-- 'boustrophedonlaw09.IsolateBoth': WHATEVER THE INPUT: true; the input reads as it did. -/
def isolateBothSpec : ChangeSpec := { name := "isolateBoth", fn := fun _ => fun
  | [d] => { results := [.lit (.bool true)], args := [d] }
  | _ => none }
def isolateBothRow : OpenClaim := { program := "ytfljkcfahhkfbaa", sum := "62d658a4c9915a5780418e69c116efbef02689b91294307d7a6b15daa26082ea", func := "boustrophedon/boustrophedonlaw09.IsolateBoth", spec := "isolateBoth", apart := false }
def IsolateBothSaid : Prop := isolateBothRow.holds Try.pinned (OpenSpec.ofChange isolateBothSpec)

/-- ITS FALSE NEIGHBOUR: 'it returns false'. Refute it at one input. -/
def isolateBothWrong : ChangeSpec := { name := "isolateBoth", fn := fun _ => fun
  | [d] => { results := [.lit (.bool false)], args := [d] }
  | _ => none }
def IsolateBothWrongFalsely : Prop := isolateBothRow.holds Try.pinned (OpenSpec.ofChange isolateBothWrong)

/-- 'boustrophedonlaw09.IsolateRest': WHATEVER THE INPUT: true; the input reads as it did. -/
def isolateRestSpec : ChangeSpec := { name := "isolateRest", fn := fun _ => fun
  | [d] => { results := [.lit (.bool true)], args := [d] }
  | _ => none }
def isolateRestRow : OpenClaim := { program := "ytfljkcfahhkfbaa", sum := "62d658a4c9915a5780418e69c116efbef02689b91294307d7a6b15daa26082ea", func := "boustrophedon/boustrophedonlaw09.IsolateRest", spec := "isolateRest", apart := false }
def IsolateRestSaid : Prop := isolateRestRow.holds Try.pinned (OpenSpec.ofChange isolateRestSpec)

/-- ITS FALSE NEIGHBOUR: 'it returns false'. Refute it at one input. -/
def isolateRestWrong : ChangeSpec := { name := "isolateRest", fn := fun _ => fun
  | [d] => { results := [.lit (.bool false)], args := [d] }
  | _ => none }
def IsolateRestWrongFalsely : Prop := isolateRestRow.holds Try.pinned (OpenSpec.ofChange isolateRestWrong)

/-- 'boustrophedonlaw09.IsolateAhead': WHATEVER THE INPUT: true; the input reads as it did. -/
def isolateAheadSpec : ChangeSpec := { name := "isolateAhead", fn := fun _ => fun
  | [d1, d2] => { results := [.lit (.bool true)], args := [d1, d2] }
  | _ => none }
def isolateAheadRow : OpenClaim := { program := "ytfljkcfahhkfbaa", sum := "62d658a4c9915a5780418e69c116efbef02689b91294307d7a6b15daa26082ea", func := "boustrophedon/boustrophedonlaw09.IsolateAhead", spec := "isolateAhead", apart := false }
def IsolateAheadSaid : Prop := isolateAheadRow.holds Try.pinned (OpenSpec.ofChange isolateAheadSpec)

/-- ITS FALSE NEIGHBOUR: 'it returns false'. Refute it at one input. -/
def isolateAheadWrong : ChangeSpec := { name := "isolateAhead", fn := fun _ => fun
  | [d1, d2] => { results := [.lit (.bool false)], args := [d1, d2] }
  | _ => none }
def IsolateAheadWrongFalsely : Prop := isolateAheadRow.holds Try.pinned (OpenSpec.ofChange isolateAheadWrong)

/-- 'boustrophedonlaw10.BaseFirst': WHATEVER THE INPUT: true; the input reads as it did. -/
def baseFirstSpec : ChangeSpec := { name := "baseFirst", fn := fun _ => fun
  | [d1, d2, d3] => { results := [.lit (.bool true)], args := [d1, d2, d3] }
  | _ => none }
def baseFirstRow : OpenClaim := { program := "ytfljkcfahhkfbaa", sum := "62d658a4c9915a5780418e69c116efbef02689b91294307d7a6b15daa26082ea", func := "boustrophedon/boustrophedonlaw10.BaseFirst", spec := "baseFirst", apart := false }
def BaseFirstSaid : Prop := baseFirstRow.holds Try.pinned (OpenSpec.ofChange baseFirstSpec)

/-- ITS FALSE NEIGHBOUR: 'it returns false'. Refute it at one input. -/
def baseFirstWrong : ChangeSpec := { name := "baseFirst", fn := fun _ => fun
  | [d1, d2, d3] => { results := [.lit (.bool false)], args := [d1, d2, d3] }
  | _ => none }
def BaseFirstWrongFalsely : Prop := baseFirstRow.holds Try.pinned (OpenSpec.ofChange baseFirstWrong)

/-- 'boustrophedonlaw10.BaseSkips': WHATEVER THE INPUT: true; the input reads as it did. -/
def baseSkipsSpec : ChangeSpec := { name := "baseSkips", fn := fun _ => fun
  | [d1, d2, d3, d4] => { results := [.lit (.bool true)], args := [d1, d2, d3, d4] }
  | _ => none }
def baseSkipsRow : OpenClaim := { program := "ytfljkcfahhkfbaa", sum := "62d658a4c9915a5780418e69c116efbef02689b91294307d7a6b15daa26082ea", func := "boustrophedon/boustrophedonlaw10.BaseSkips", spec := "baseSkips", apart := false }
def BaseSkipsSaid : Prop := baseSkipsRow.holds Try.pinned (OpenSpec.ofChange baseSkipsSpec)

/-- ITS FALSE NEIGHBOUR: 'it returns false'. Refute it at one input. -/
def baseSkipsWrong : ChangeSpec := { name := "baseSkips", fn := fun _ => fun
  | [d1, d2, d3, d4] => { results := [.lit (.bool false)], args := [d1, d2, d3, d4] }
  | _ => none }
def BaseSkipsWrongFalsely : Prop := baseSkipsRow.holds Try.pinned (OpenSpec.ofChange baseSkipsWrong)

/-- 'boustrophedonlaw10.BaseNeutral': WHATEVER THE INPUT: true; the input reads as it did. -/
def baseNeutralSpec : ChangeSpec := { name := "baseNeutral", fn := fun _ => fun
  | [d1, d2, d3] => { results := [.lit (.bool true)], args := [d1, d2, d3] }
  | _ => none }
def baseNeutralRow : OpenClaim := { program := "ytfljkcfahhkfbaa", sum := "62d658a4c9915a5780418e69c116efbef02689b91294307d7a6b15daa26082ea", func := "boustrophedon/boustrophedonlaw10.BaseNeutral", spec := "baseNeutral", apart := false }
def BaseNeutralSaid : Prop := baseNeutralRow.holds Try.pinned (OpenSpec.ofChange baseNeutralSpec)

/-- ITS FALSE NEIGHBOUR: 'it returns false'. Refute it at one input. -/
def baseNeutralWrong : ChangeSpec := { name := "baseNeutral", fn := fun _ => fun
  | [d1, d2, d3] => { results := [.lit (.bool false)], args := [d1, d2, d3] }
  | _ => none }
def BaseNeutralWrongFalsely : Prop := baseNeutralRow.holds Try.pinned (OpenSpec.ofChange baseNeutralWrong)

/- THE SECOND FORM. 'bulk': how many values and letters a reading holds, each counted each time it is reached (what is shared counts as often as it is met; a slice's spare places count too). A statement '..UptoSaid' is the law's where the arguments, and the package variables that the reading takes, are together of bulk at most 1048576: NARROWER than '..Said'. Prove '..Said' where nothing that the law and all that it calls make is longer than what came in: it says more and counts as full. Else prove '..UptoSaid'. A law counts once. -/
mutual
def uptoBulk {H : Type} : DataW H → Nat
  | .lit (.string bytes) => bytes.length + 1
  | .lit _ => 1
  | .nil => 1
  | .ptr d => uptoBulk d + 1
  | .slice elems spare => uptoBulkAll elems + uptoBulkAll spare + 1
  | .agg parts => uptoBulkAll parts + 1
  | .iface _ d => uptoBulk d + 1
  | .map entries => uptoBulkEntries entries + 1
  | .held _ => 1
def uptoBulkAll {H : Type} : List (DataW H) → Nat
  | [] => 0
  | d :: r => uptoBulk d + uptoBulkAll r
def uptoBulkEntries {H : Type} : List (Lit × DataW H) → Nat
  | [] => 0
  | x :: r => uptoBulkEntry x + uptoBulkEntries r
def uptoBulkEntry {H : Type} : Lit × DataW H → Nat
  | (.string bytes, d) => bytes.length + uptoBulk d + 1
  | (_, d) => uptoBulk d + 1
 end
def uptoSmall : (H : Type) → List (DataW H) → Bool := fun _ ds => decide (uptoBulkAll ds ≤ 1048576)
def OpenSpec.upto (s : _root_.Go.ChangeSpec) : _root_.Go.OpenSpec := { _root_.Go.OpenSpec.ofChange s with cond := some uptoSmall }

/-- 'boustrophedonlaw08.ParaSplits', WHERE WHAT IT READS IS OF BULK AT MOST 1048576: true; the input reads as it did. -/
def paraSplitsUptoRow : OpenClaim := { program := "ytfljkcfahhkfbaa", sum := "62d658a4c9915a5780418e69c116efbef02689b91294307d7a6b15daa26082ea", func := "boustrophedon/boustrophedonlaw08.ParaSplits", spec := "paraSplits", apart := false, narrowed := true }
def ParaSplitsUptoSaid : Prop := paraSplitsUptoRow.holds Try.pinned (OpenSpec.upto paraSplitsSpec)

/-- 'boustrophedonlaw08.ParaJoins', WHERE WHAT IT READS IS OF BULK AT MOST 1048576: true; the input reads as it did. -/
def paraJoinsUptoRow : OpenClaim := { program := "ytfljkcfahhkfbaa", sum := "62d658a4c9915a5780418e69c116efbef02689b91294307d7a6b15daa26082ea", func := "boustrophedon/boustrophedonlaw08.ParaJoins", spec := "paraJoins", apart := false, narrowed := true }
def ParaJoinsUptoSaid : Prop := paraJoinsUptoRow.holds Try.pinned (OpenSpec.upto paraJoinsSpec)

/-- 'boustrophedonlaw08.ParaShort', WHERE WHAT IT READS IS OF BULK AT MOST 1048576: true; the input reads as it did. -/
def paraShortUptoRow : OpenClaim := { program := "ytfljkcfahhkfbaa", sum := "62d658a4c9915a5780418e69c116efbef02689b91294307d7a6b15daa26082ea", func := "boustrophedon/boustrophedonlaw08.ParaShort", spec := "paraShort", apart := false, narrowed := true }
def ParaShortUptoSaid : Prop := paraShortUptoRow.holds Try.pinned (OpenSpec.upto paraShortSpec)

/-- 'boustrophedonlaw08.ParaCount', WHERE WHAT IT READS IS OF BULK AT MOST 1048576: true; the input reads as it did. -/
def paraCountUptoRow : OpenClaim := { program := "ytfljkcfahhkfbaa", sum := "62d658a4c9915a5780418e69c116efbef02689b91294307d7a6b15daa26082ea", func := "boustrophedon/boustrophedonlaw08.ParaCount", spec := "paraCount", apart := false, narrowed := true }
def ParaCountUptoSaid : Prop := paraCountUptoRow.holds Try.pinned (OpenSpec.upto paraCountSpec)

/-- 'boustrophedonlaw09.IsolateMatches', WHERE WHAT IT READS IS OF BULK AT MOST 1048576: true; the input reads as it did. -/
def isolateMatchesUptoRow : OpenClaim := { program := "ytfljkcfahhkfbaa", sum := "62d658a4c9915a5780418e69c116efbef02689b91294307d7a6b15daa26082ea", func := "boustrophedon/boustrophedonlaw09.IsolateMatches", spec := "isolateMatches", apart := false, narrowed := true }
def IsolateMatchesUptoSaid : Prop := isolateMatchesUptoRow.holds Try.pinned (OpenSpec.upto isolateMatchesSpec)

/-- 'boustrophedonlaw09.IsolateBoth', WHERE WHAT IT READS IS OF BULK AT MOST 1048576: true; the input reads as it did. -/
def isolateBothUptoRow : OpenClaim := { program := "ytfljkcfahhkfbaa", sum := "62d658a4c9915a5780418e69c116efbef02689b91294307d7a6b15daa26082ea", func := "boustrophedon/boustrophedonlaw09.IsolateBoth", spec := "isolateBoth", apart := false, narrowed := true }
def IsolateBothUptoSaid : Prop := isolateBothUptoRow.holds Try.pinned (OpenSpec.upto isolateBothSpec)

/-- 'boustrophedonlaw09.IsolateRest', WHERE WHAT IT READS IS OF BULK AT MOST 1048576: true; the input reads as it did. -/
def isolateRestUptoRow : OpenClaim := { program := "ytfljkcfahhkfbaa", sum := "62d658a4c9915a5780418e69c116efbef02689b91294307d7a6b15daa26082ea", func := "boustrophedon/boustrophedonlaw09.IsolateRest", spec := "isolateRest", apart := false, narrowed := true }
def IsolateRestUptoSaid : Prop := isolateRestUptoRow.holds Try.pinned (OpenSpec.upto isolateRestSpec)

/-- 'boustrophedonlaw09.IsolateAhead', WHERE WHAT IT READS IS OF BULK AT MOST 1048576: true; the input reads as it did. -/
def isolateAheadUptoRow : OpenClaim := { program := "ytfljkcfahhkfbaa", sum := "62d658a4c9915a5780418e69c116efbef02689b91294307d7a6b15daa26082ea", func := "boustrophedon/boustrophedonlaw09.IsolateAhead", spec := "isolateAhead", apart := false, narrowed := true }
def IsolateAheadUptoSaid : Prop := isolateAheadUptoRow.holds Try.pinned (OpenSpec.upto isolateAheadSpec)

/-- 'boustrophedonlaw10.BaseFirst', WHERE WHAT IT READS IS OF BULK AT MOST 1048576: true; the input reads as it did. -/
def baseFirstUptoRow : OpenClaim := { program := "ytfljkcfahhkfbaa", sum := "62d658a4c9915a5780418e69c116efbef02689b91294307d7a6b15daa26082ea", func := "boustrophedon/boustrophedonlaw10.BaseFirst", spec := "baseFirst", apart := false, narrowed := true }
def BaseFirstUptoSaid : Prop := baseFirstUptoRow.holds Try.pinned (OpenSpec.upto baseFirstSpec)

/-- 'boustrophedonlaw10.BaseSkips', WHERE WHAT IT READS IS OF BULK AT MOST 1048576: true; the input reads as it did. -/
def baseSkipsUptoRow : OpenClaim := { program := "ytfljkcfahhkfbaa", sum := "62d658a4c9915a5780418e69c116efbef02689b91294307d7a6b15daa26082ea", func := "boustrophedon/boustrophedonlaw10.BaseSkips", spec := "baseSkips", apart := false, narrowed := true }
def BaseSkipsUptoSaid : Prop := baseSkipsUptoRow.holds Try.pinned (OpenSpec.upto baseSkipsSpec)

/-- 'boustrophedonlaw10.BaseNeutral', WHERE WHAT IT READS IS OF BULK AT MOST 1048576: true; the input reads as it did. -/
def baseNeutralUptoRow : OpenClaim := { program := "ytfljkcfahhkfbaa", sum := "62d658a4c9915a5780418e69c116efbef02689b91294307d7a6b15daa26082ea", func := "boustrophedon/boustrophedonlaw10.BaseNeutral", spec := "baseNeutral", apart := false, narrowed := true }
def BaseNeutralUptoSaid : Prop := baseNeutralUptoRow.holds Try.pinned (OpenSpec.upto baseNeutralSpec)

end Rows
end Go.Proofs.Ytfljkcfahhkfbaa
