/-
  DERIVED. GIVEN WITH THE SEED: THE CARDS: each row of YtnldcpanpojeiaaGreatDoorRows.lean that lists a variable, with what it lists TIED to the program's text (the seventh form; the later family's looks); each row that meets fmt, with fmt's text TOLD by the authors' own Lean function (tested against real Go, not proved from fmt's source: count such statements apart). THE CARD IS WHAT COUNTS. Prove the row's statement (the work); the ties are given (YtnldcpanpojeiaaGreatDoorTie.lean); close each card by the builder's one call (the guide's Derived/Test/ToyasCard.lean, 'card_holds'). Laid BY PROGRAM, IN A SANDBOX (cutbox-door.mjs). By AI agents, Wed Nov 11 2026. No macro, syntax, notation, axiom, sorry.
-/
import Derived.Test.YtnldcpanpojeiaaGreatDoorRows
import GoSem.ClaimSeven
namespace Go.Proofs.YtnldcpanpojeiaaGreatDoor
namespace Rows

/-- THE TIED CARD OF 'boustrophedonlaw30.LayoutChecks'. -/
def layoutChecksCard : Claim7 := { stood := { row := layoutChecksRow, standIns := [], harness := (true, "14b368bca3717312a566c3b436b070fed93f64c27e4a18ce1a4f82b6ce378bcf"), looks := true }, kinds := [], alts := [], laidByText := true, laidKinds := [.data, .handle], laidTests := true, laidLooks := .later }
def LayoutChecksCardSaid : Prop := Claim7.holds Tryz.pinned (.plain (OpenSpec.ofChange layoutChecksSpec)) layoutChecksCard

/-- THE TIED CARD OF 'boustrophedonlaw30.LayoutEmpty'. -/
def layoutEmptyCard : Claim7 := { stood := { row := layoutEmptyRow, standIns := [], harness := (true, "14b368bca3717312a566c3b436b070fed93f64c27e4a18ce1a4f82b6ce378bcf"), looks := true }, kinds := [], alts := [], laidByText := true, laidKinds := [.data], laidTests := true, laidLooks := .later }
def LayoutEmptyCardSaid : Prop := Claim7.holds Tryz.pinned (.plain (OpenSpec.ofChange layoutEmptySpec)) layoutEmptyCard

/-- THE SECOND FORM's CARD OF 'boustrophedonlaw30.LayoutChecks'. -/
def layoutChecksUptoCard : Claim7 := { stood := { row := layoutChecksUptoRow, standIns := [], harness := (true, "14b368bca3717312a566c3b436b070fed93f64c27e4a18ce1a4f82b6ce378bcf"), looks := true }, kinds := [], alts := [], laidByText := true, laidKinds := [.data, .handle], laidTests := true, laidLooks := .later }
def LayoutChecksUptoCardSaid : Prop := Claim7.holds Tryz.pinned (.plain (OpenSpec.upto layoutChecksSpec)) layoutChecksUptoCard

/-- THE SECOND FORM's CARD OF 'boustrophedonlaw30.LayoutEmpty'. -/
def layoutEmptyUptoCard : Claim7 := { stood := { row := layoutEmptyUptoRow, standIns := [], harness := (true, "14b368bca3717312a566c3b436b070fed93f64c27e4a18ce1a4f82b6ce378bcf"), looks := true }, kinds := [], alts := [], laidByText := true, laidKinds := [.data], laidTests := true, laidLooks := .later }
def LayoutEmptyUptoCardSaid : Prop := Claim7.holds Tryz.pinned (.plain (OpenSpec.upto layoutEmptySpec)) layoutEmptyUptoCard
end Rows
end Go.Proofs.YtnldcpanpojeiaaGreatDoor
