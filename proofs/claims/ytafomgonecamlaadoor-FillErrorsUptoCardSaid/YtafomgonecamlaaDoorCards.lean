/-
  DERIVED. GIVEN WITH THE SEED: THE CARDS: each row of YtafomgonecamlaaDoorRows.lean that lists a variable, with what it lists TIED to the program's text (the seventh form; the later family's looks); each row that meets fmt, with fmt's text TOLD by the authors' own Lean function (tested against real Go, not proved from fmt's source: count such statements apart). THE CARD IS WHAT COUNTS. Prove the row's statement (the work); the ties are given (YtafomgonecamlaaDoorTie.lean); close each card by the builder's one call (the guide's Derived/Test/ToyasCard.lean, 'card_holds'). Laid BY PROGRAM, IN A SANDBOX (cutbox-door.mjs). By AI agents, Wed Nov 11 2026. No macro, syntax, notation, axiom, sorry.
-/
import Derived.Test.YtafomgonecamlaaDoorRows
import GoSem.ClaimSeven
namespace Go.Proofs.YtafomgonecamlaaDoor
namespace Rows

/-- THE TIED CARD OF 'boustrophedonlaw23.FillErrors'. -/
def fillErrorsCard : Claim7 := { stood := { row := fillErrorsRow, standIns := [], harness := (true, "609925353b8444a90fe722c41f8ba90179f1b964f653c3ca9232bec018aeaf44"), looks := true }, kinds := [], alts := [], laidByText := true, laidKinds := [.handle], laidTests := true, laidLooks := .later }
def FillErrorsCardSaid : Prop := Claim7.holds Tryd.pinned (.plain (OpenSpec.ofChange fillErrorsSpec)) fillErrorsCard

/-- THE SECOND FORM's CARD OF 'boustrophedonlaw23.FillErrors'. -/
def fillErrorsUptoCard : Claim7 := { stood := { row := fillErrorsUptoRow, standIns := [], harness := (true, "609925353b8444a90fe722c41f8ba90179f1b964f653c3ca9232bec018aeaf44"), looks := true }, kinds := [], alts := [], laidByText := true, laidKinds := [.handle], laidTests := true, laidLooks := .later }
def FillErrorsUptoCardSaid : Prop := Claim7.holds Tryd.pinned (.plain (OpenSpec.upto fillErrorsSpec)) fillErrorsUptoCard
end Rows
end Go.Proofs.YtafomgonecamlaaDoor
