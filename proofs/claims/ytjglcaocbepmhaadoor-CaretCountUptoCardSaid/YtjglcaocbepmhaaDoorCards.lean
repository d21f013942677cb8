/-
  DERIVED. GIVEN WITH THE SEED: THE CARDS: each row of YtjglcaocbepmhaaDoorRows.lean that lists a variable, with what it lists TIED to the program's text (the seventh form; the later family's looks); each row that meets fmt, with fmt's text TOLD by the authors' own Lean function (tested against real Go, not proved from fmt's source: count such statements apart). THE CARD IS WHAT COUNTS. Prove the row's statement (the work); the ties are given (YtjglcaocbepmhaaDoorTie.lean); close each card by the builder's one call (the guide's Derived/Test/ToyasCard.lean, 'card_holds'). Laid BY PROGRAM, IN A SANDBOX (cutbox-door.mjs). By AI agents, Wed Nov 11 2026. No macro, syntax, notation, axiom, sorry.
-/
import Derived.Test.YtjglcaocbepmhaaDoorRows
import GoSem.ClaimSeven
namespace Go.Proofs.YtjglcaocbepmhaaDoor
namespace Rows

/-- THE TIED CARD OF 'boustrophedonlaw29.CaretMoves'. -/
def caretMovesCard : Claim7 := { stood := { row := caretMovesRow, standIns := [], harness := (true, "56b0111828882215e3c7a356271415ae924aaa6b79563bb16fb1a608da6b836c"), looks := true }, kinds := [], alts := [], laidByText := true, laidKinds := [.handle], laidTests := true, laidLooks := .later }
def CaretMovesCardSaid : Prop := Claim7.holds Tryd.pinned (.plain (OpenSpec.ofChange caretMovesSpec)) caretMovesCard

/-- THE TIED CARD OF 'boustrophedonlaw29.CaretBack'. -/
def caretBackCard : Claim7 := { stood := { row := caretBackRow, standIns := [], harness := (true, "56b0111828882215e3c7a356271415ae924aaa6b79563bb16fb1a608da6b836c"), looks := true }, kinds := [], alts := [], laidByText := true, laidKinds := [.handle], laidTests := true, laidLooks := .later }
def CaretBackCardSaid : Prop := Claim7.holds Tryd.pinned (.plain (OpenSpec.ofChange caretBackSpec)) caretBackCard

/-- THE TIED CARD OF 'boustrophedonlaw29.CaretCount'. -/
def caretCountCard : Claim7 := { stood := { row := caretCountRow, standIns := [], harness := (true, "56b0111828882215e3c7a356271415ae924aaa6b79563bb16fb1a608da6b836c"), looks := true }, kinds := [], alts := [], laidByText := true, laidKinds := [.handle], laidTests := true, laidLooks := .later }
def CaretCountCardSaid : Prop := Claim7.holds Tryd.pinned (.plain (OpenSpec.ofChange caretCountSpec)) caretCountCard

/-- THE TIED CARD OF 'boustrophedonlaw10.BaseLevel'. -/
def baseLevelCard : Claim7 := { stood := { row := baseLevelRow, standIns := [], harness := (true, "56b0111828882215e3c7a356271415ae924aaa6b79563bb16fb1a608da6b836c"), looks := true }, kinds := [], alts := [], laidByText := true, laidKinds := [.handle], laidTests := true, laidLooks := .later }
def BaseLevelCardSaid : Prop := Claim7.holds Tryd.pinned (.plain (OpenSpec.ofChange baseLevelSpec)) baseLevelCard

/-- THE SECOND FORM's CARD OF 'boustrophedonlaw29.CaretMoves'. -/
def caretMovesUptoCard : Claim7 := { stood := { row := caretMovesUptoRow, standIns := [], harness := (true, "56b0111828882215e3c7a356271415ae924aaa6b79563bb16fb1a608da6b836c"), looks := true }, kinds := [], alts := [], laidByText := true, laidKinds := [.handle], laidTests := true, laidLooks := .later }
def CaretMovesUptoCardSaid : Prop := Claim7.holds Tryd.pinned (.plain (OpenSpec.upto caretMovesSpec)) caretMovesUptoCard

/-- THE SECOND FORM's CARD OF 'boustrophedonlaw29.CaretBack'. -/
def caretBackUptoCard : Claim7 := { stood := { row := caretBackUptoRow, standIns := [], harness := (true, "56b0111828882215e3c7a356271415ae924aaa6b79563bb16fb1a608da6b836c"), looks := true }, kinds := [], alts := [], laidByText := true, laidKinds := [.handle], laidTests := true, laidLooks := .later }
def CaretBackUptoCardSaid : Prop := Claim7.holds Tryd.pinned (.plain (OpenSpec.upto caretBackSpec)) caretBackUptoCard

/-- THE SECOND FORM's CARD OF 'boustrophedonlaw29.CaretCount'. -/
def caretCountUptoCard : Claim7 := { stood := { row := caretCountUptoRow, standIns := [], harness := (true, "56b0111828882215e3c7a356271415ae924aaa6b79563bb16fb1a608da6b836c"), looks := true }, kinds := [], alts := [], laidByText := true, laidKinds := [.handle], laidTests := true, laidLooks := .later }
def CaretCountUptoCardSaid : Prop := Claim7.holds Tryd.pinned (.plain (OpenSpec.upto caretCountSpec)) caretCountUptoCard

/-- THE SECOND FORM's CARD OF 'boustrophedonlaw10.BaseLevel'. -/
def baseLevelUptoCard : Claim7 := { stood := { row := baseLevelUptoRow, standIns := [], harness := (true, "56b0111828882215e3c7a356271415ae924aaa6b79563bb16fb1a608da6b836c"), looks := true }, kinds := [], alts := [], laidByText := true, laidKinds := [.handle], laidTests := true, laidLooks := .later }
def BaseLevelUptoCardSaid : Prop := Claim7.holds Tryd.pinned (.plain (OpenSpec.upto baseLevelSpec)) baseLevelUptoCard
end Rows
end Go.Proofs.YtjglcaocbepmhaaDoor
