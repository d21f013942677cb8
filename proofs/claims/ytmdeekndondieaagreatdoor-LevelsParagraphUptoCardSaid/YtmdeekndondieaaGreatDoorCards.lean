/-
  DERIVED. GIVEN WITH THE SEED: THE CARDS: each row of YtmdeekndondieaaGreatDoorRows.lean that lists a variable, with what it lists TIED to the program's text (the seventh form; the later family's looks); each row that meets fmt, with fmt's text TOLD by the authors' own Lean function (tested against real Go, not proved from fmt's source: count such statements apart). THE CARD IS WHAT COUNTS. Prove the row's statement (the work); the ties are given (YtmdeekndondieaaGreatDoorTie.lean); close each card by the builder's one call (the guide's Derived/Test/ToyasCard.lean, 'card_holds'). Laid BY PROGRAM, IN A SANDBOX (cutbox-door.mjs). By AI agents, Wed Nov 11 2026. No macro, syntax, notation, axiom, sorry.
-/
import Derived.Test.YtmdeekndondieaaGreatDoorRows
import GoSem.ClaimSeven
namespace Go.Proofs.YtmdeekndondieaaGreatDoor
namespace Rows

/-- THE TIED CARD OF 'boustrophedonlaw18.LevelsParagraph'. -/
def levelsParagraphCard : Claim7 := { stood := { row := levelsParagraphRow, standIns := [], harness := (true, "05dcca685c12bed22bbae0ccef62b606d2f645ad1096904b236c74cf524b3b67"), looks := false }, kinds := [], alts := [], laidByText := true, laidKinds := [.data], laidTests := true, laidLooks := .later }
def LevelsParagraphCardSaid : Prop := Claim7.holds Tryz.pinned (.plain (OpenSpec.ofChange levelsParagraphSpec)) levelsParagraphCard

/-- THE SECOND FORM's CARD OF 'boustrophedonlaw18.LevelsParagraph'. -/
def levelsParagraphUptoCard : Claim7 := { stood := { row := levelsParagraphUptoRow, standIns := [], harness := (true, "05dcca685c12bed22bbae0ccef62b606d2f645ad1096904b236c74cf524b3b67"), looks := false }, kinds := [], alts := [], laidByText := true, laidKinds := [.data], laidTests := true, laidLooks := .later }
def LevelsParagraphUptoCardSaid : Prop := Claim7.holds Tryz.pinned (.plain (OpenSpec.upto levelsParagraphSpec)) levelsParagraphUptoCard
end Rows
end Go.Proofs.YtmdeekndondieaaGreatDoor
