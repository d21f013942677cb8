/-
  DERIVED. GIVEN WITH THE SEED: THE CARDS: each row of YtcbmacpdiiehjaaDoorRows.lean that lists a variable, with what it lists TIED to the program's text (the seventh form; the later family's looks); each row that meets fmt, with fmt's text TOLD by the authors' own Lean function (tested against real Go, not proved from fmt's source: count such statements apart). THE CARD IS WHAT COUNTS. Prove the row's statement (the work); the ties are given (YtcbmacpdiiehjaaDoorTie.lean); close each card by the builder's one call (the guide's Derived/Test/ToyasCard.lean, 'card_holds'). Laid BY PROGRAM, IN A SANDBOX (cutbox-door.mjs). By AI agents, Wed Nov 11 2026. No macro, syntax, notation, axiom, sorry.
-/
import Derived.Test.YtcbmacpdiiehjaaDoorRows
import GoSem.ClaimSeven
namespace Go.Proofs.YtcbmacpdiiehjaaDoor
namespace Rows

/-- THE TIED CARD OF 'boustrophedonlaw36.ViewErrors'. -/
def viewErrorsCard : Claim7 := { stood := { row := viewErrorsRow, standIns := [], harness := (true, "fbba6ba09c7fcf3fa200b57ac43652acd28b5232a9550180dd3c3336aeb231b7"), looks := true }, kinds := [], alts := [], laidByText := true, laidKinds := [.handle], laidTests := true, laidLooks := .later }
def ViewErrorsCardSaid : Prop := Claim7.holds Tryd.pinned (.plain (OpenSpec.ofChange viewErrorsSpec)) viewErrorsCard

/-- THE TIED CARD OF 'boustrophedonlaw36.ViewMost'. -/
def viewMostCard : Claim7 := { stood := { row := viewMostRow, standIns := [], harness := (true, "fbba6ba09c7fcf3fa200b57ac43652acd28b5232a9550180dd3c3336aeb231b7"), looks := true }, kinds := [], alts := [], laidByText := true, laidKinds := [.handle], laidTests := true, laidLooks := .later }
def ViewMostCardSaid : Prop := Claim7.holds Tryd.pinned (.plain (OpenSpec.ofChange viewMostSpec)) viewMostCard

/-- THE SECOND FORM's CARD OF 'boustrophedonlaw36.ViewErrors'. -/
def viewErrorsUptoCard : Claim7 := { stood := { row := viewErrorsUptoRow, standIns := [], harness := (true, "fbba6ba09c7fcf3fa200b57ac43652acd28b5232a9550180dd3c3336aeb231b7"), looks := true }, kinds := [], alts := [], laidByText := true, laidKinds := [.handle], laidTests := true, laidLooks := .later }
def ViewErrorsUptoCardSaid : Prop := Claim7.holds Tryd.pinned (.plain (OpenSpec.upto viewErrorsSpec)) viewErrorsUptoCard

/-- THE SECOND FORM's CARD OF 'boustrophedonlaw36.ViewMost'. -/
def viewMostUptoCard : Claim7 := { stood := { row := viewMostUptoRow, standIns := [], harness := (true, "fbba6ba09c7fcf3fa200b57ac43652acd28b5232a9550180dd3c3336aeb231b7"), looks := true }, kinds := [], alts := [], laidByText := true, laidKinds := [.handle], laidTests := true, laidLooks := .later }
def ViewMostUptoCardSaid : Prop := Claim7.holds Tryd.pinned (.plain (OpenSpec.upto viewMostSpec)) viewMostUptoCard
end Rows
end Go.Proofs.YtcbmacpdiiehjaaDoor
