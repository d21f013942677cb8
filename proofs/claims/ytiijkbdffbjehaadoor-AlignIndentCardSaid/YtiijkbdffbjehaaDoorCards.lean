/-
  DERIVED. GIVEN WITH THE SEED: THE CARDS: each row of YtiijkbdffbjehaaDoorRows.lean that lists a variable, with what it lists TIED to the program's text (the seventh form; the later family's looks); each row that meets fmt, with fmt's text TOLD by the authors' own Lean function (tested against real Go, not proved from fmt's source: count such statements apart). THE CARD IS WHAT COUNTS. Prove the row's statement (the work); the ties are given (YtiijkbdffbjehaaDoorTie.lean); close each card by the builder's one call (the guide's Derived/Test/ToyasCard.lean, 'card_holds'). Laid BY PROGRAM, IN A SANDBOX (cutbox-door.mjs). By AI agents, Wed Nov 11 2026. No macro, syntax, notation, axiom, sorry.
-/
import Derived.Test.YtiijkbdffbjehaaDoorRows
import GoSem.ClaimSeven
namespace Go.Proofs.YtiijkbdffbjehaaDoor
namespace Rows

/-- THE TIED CARD OF 'boustrophedonlaw34.AlignIndent'. -/
def alignIndentCard : Claim7 := { stood := { row := alignIndentRow, standIns := [], harness := (true, "f8ac76b0f6cb8d82ebf89d0f45e414f49c661c0c2c8cc0ca948a18f85f9af251"), looks := true }, kinds := [], alts := [], laidByText := true, laidKinds := [.handle], laidTests := true, laidLooks := .later }
def AlignIndentCardSaid : Prop := Claim7.holds Tryd.pinned (.plain (OpenSpec.ofChange alignIndentSpec)) alignIndentCard

/-- THE SECOND FORM's CARD OF 'boustrophedonlaw34.AlignIndent'. -/
def alignIndentUptoCard : Claim7 := { stood := { row := alignIndentUptoRow, standIns := [], harness := (true, "f8ac76b0f6cb8d82ebf89d0f45e414f49c661c0c2c8cc0ca948a18f85f9af251"), looks := true }, kinds := [], alts := [], laidByText := true, laidKinds := [.handle], laidTests := true, laidLooks := .later }
def AlignIndentUptoCardSaid : Prop := Claim7.holds Tryd.pinned (.plain (OpenSpec.upto alignIndentSpec)) alignIndentUptoCard
end Rows
end Go.Proofs.YtiijkbdffbjehaaDoor
