/-
  DERIVED. GIVEN WITH THE SEED: THE CARDS: each row of YtaahkcepdgmagaaDoorRows.lean that lists a variable, with what it lists TIED to the program's text (the seventh form; the later family's looks); each row that meets fmt, with fmt's text TOLD by the authors' own Lean function (tested against real Go, not proved from fmt's source: count such statements apart). THE CARD IS WHAT COUNTS. Prove the row's statement (the work); the ties are given (YtaahkcepdgmagaaDoorTie.lean); close each card by the builder's one call (the guide's Derived/Test/ToyasCard.lean, 'card_holds'). Laid BY PROGRAM, IN A SANDBOX (cutbox-door.mjs). By AI agents, Wed Nov 11 2026. No macro, syntax, notation, axiom, sorry.
-/
import Derived.Test.YtaahkcepdgmagaaDoorRows
import GoSem.ClaimSeven
namespace Go.Proofs.YtaahkcepdgmagaaDoor
namespace Rows

/-- THE TIED CARD OF 'boustrophedonlaw16.NeutralBrackets'. -/
def neutralBracketsCard : Claim7 := { stood := { row := neutralBracketsRow, standIns := [], harness := (true, "c7c91eec2a16f1af153c2baf3a7f56ac0d61fc0f26d85778c0ef572acce21230"), looks := false }, kinds := [], alts := [], laidByText := true, laidKinds := [.data], laidTests := true, laidLooks := .later }
def NeutralBracketsCardSaid : Prop := Claim7.holds Tryd.pinned (.plain (OpenSpec.ofChange neutralBracketsSpec)) neutralBracketsCard

/-- THE TIED CARD OF 'boustrophedonlaw16.NeutralPlain'. -/
def neutralPlainCard : Claim7 := { stood := { row := neutralPlainRow, standIns := [], harness := (true, "c7c91eec2a16f1af153c2baf3a7f56ac0d61fc0f26d85778c0ef572acce21230"), looks := false }, kinds := [], alts := [], laidByText := true, laidKinds := [.data], laidTests := true, laidLooks := .later }
def NeutralPlainCardSaid : Prop := Claim7.holds Tryd.pinned (.plain (OpenSpec.ofChange neutralPlainSpec)) neutralPlainCard

/-- THE TIED CARD OF 'boustrophedonlaw16.NeutralRest'. -/
def neutralRestCard : Claim7 := { stood := { row := neutralRestRow, standIns := [], harness := (true, "c7c91eec2a16f1af153c2baf3a7f56ac0d61fc0f26d85778c0ef572acce21230"), looks := false }, kinds := [], alts := [], laidByText := true, laidKinds := [.data], laidTests := true, laidLooks := .later }
def NeutralRestCardSaid : Prop := Claim7.holds Tryd.pinned (.plain (OpenSpec.ofChange neutralRestSpec)) neutralRestCard

/-- THE TIED CARD OF 'boustrophedonlaw16.NeutralSides'. -/
def neutralSidesCard : Claim7 := { stood := { row := neutralSidesRow, standIns := [], harness := (true, "c7c91eec2a16f1af153c2baf3a7f56ac0d61fc0f26d85778c0ef572acce21230"), looks := false }, kinds := [], alts := [], laidByText := true, laidKinds := [.data], laidTests := true, laidLooks := .later }
def NeutralSidesCardSaid : Prop := Claim7.holds Tryd.pinned (.plain (OpenSpec.ofChange neutralSidesSpec)) neutralSidesCard

/-- THE TIED CARD OF 'boustrophedonlaw16.NeutralTwo'. -/
def neutralTwoCard : Claim7 := { stood := { row := neutralTwoRow, standIns := [], harness := (true, "c7c91eec2a16f1af153c2baf3a7f56ac0d61fc0f26d85778c0ef572acce21230"), looks := false }, kinds := [], alts := [], laidByText := true, laidKinds := [.data], laidTests := true, laidLooks := .later }
def NeutralTwoCardSaid : Prop := Claim7.holds Tryd.pinned (.plain (OpenSpec.ofChange neutralTwoSpec)) neutralTwoCard

/-- THE TIED CARD OF 'boustrophedonlaw16.NeutralAlone'. -/
def neutralAloneCard : Claim7 := { stood := { row := neutralAloneRow, standIns := [], harness := (true, "c7c91eec2a16f1af153c2baf3a7f56ac0d61fc0f26d85778c0ef572acce21230"), looks := false }, kinds := [], alts := [], laidByText := true, laidKinds := [.data], laidTests := true, laidLooks := .later }
def NeutralAloneCardSaid : Prop := Claim7.holds Tryd.pinned (.plain (OpenSpec.ofChange neutralAloneSpec)) neutralAloneCard

/-- THE SECOND FORM's CARD OF 'boustrophedonlaw16.NeutralBrackets'. -/
def neutralBracketsUptoCard : Claim7 := { stood := { row := neutralBracketsUptoRow, standIns := [], harness := (true, "c7c91eec2a16f1af153c2baf3a7f56ac0d61fc0f26d85778c0ef572acce21230"), looks := false }, kinds := [], alts := [], laidByText := true, laidKinds := [.data], laidTests := true, laidLooks := .later }
def NeutralBracketsUptoCardSaid : Prop := Claim7.holds Tryd.pinned (.plain (OpenSpec.upto neutralBracketsSpec)) neutralBracketsUptoCard

/-- THE SECOND FORM's CARD OF 'boustrophedonlaw16.NeutralPlain'. -/
def neutralPlainUptoCard : Claim7 := { stood := { row := neutralPlainUptoRow, standIns := [], harness := (true, "c7c91eec2a16f1af153c2baf3a7f56ac0d61fc0f26d85778c0ef572acce21230"), looks := false }, kinds := [], alts := [], laidByText := true, laidKinds := [.data], laidTests := true, laidLooks := .later }
def NeutralPlainUptoCardSaid : Prop := Claim7.holds Tryd.pinned (.plain (OpenSpec.upto neutralPlainSpec)) neutralPlainUptoCard

/-- THE SECOND FORM's CARD OF 'boustrophedonlaw16.NeutralRest'. -/
def neutralRestUptoCard : Claim7 := { stood := { row := neutralRestUptoRow, standIns := [], harness := (true, "c7c91eec2a16f1af153c2baf3a7f56ac0d61fc0f26d85778c0ef572acce21230"), looks := false }, kinds := [], alts := [], laidByText := true, laidKinds := [.data], laidTests := true, laidLooks := .later }
def NeutralRestUptoCardSaid : Prop := Claim7.holds Tryd.pinned (.plain (OpenSpec.upto neutralRestSpec)) neutralRestUptoCard

/-- THE SECOND FORM's CARD OF 'boustrophedonlaw16.NeutralSides'. -/
def neutralSidesUptoCard : Claim7 := { stood := { row := neutralSidesUptoRow, standIns := [], harness := (true, "c7c91eec2a16f1af153c2baf3a7f56ac0d61fc0f26d85778c0ef572acce21230"), looks := false }, kinds := [], alts := [], laidByText := true, laidKinds := [.data], laidTests := true, laidLooks := .later }
def NeutralSidesUptoCardSaid : Prop := Claim7.holds Tryd.pinned (.plain (OpenSpec.upto neutralSidesSpec)) neutralSidesUptoCard

/-- THE SECOND FORM's CARD OF 'boustrophedonlaw16.NeutralTwo'. -/
def neutralTwoUptoCard : Claim7 := { stood := { row := neutralTwoUptoRow, standIns := [], harness := (true, "c7c91eec2a16f1af153c2baf3a7f56ac0d61fc0f26d85778c0ef572acce21230"), looks := false }, kinds := [], alts := [], laidByText := true, laidKinds := [.data], laidTests := true, laidLooks := .later }
def NeutralTwoUptoCardSaid : Prop := Claim7.holds Tryd.pinned (.plain (OpenSpec.upto neutralTwoSpec)) neutralTwoUptoCard

/-- THE SECOND FORM's CARD OF 'boustrophedonlaw16.NeutralAlone'. -/
def neutralAloneUptoCard : Claim7 := { stood := { row := neutralAloneUptoRow, standIns := [], harness := (true, "c7c91eec2a16f1af153c2baf3a7f56ac0d61fc0f26d85778c0ef572acce21230"), looks := false }, kinds := [], alts := [], laidByText := true, laidKinds := [.data], laidTests := true, laidLooks := .later }
def NeutralAloneUptoCardSaid : Prop := Claim7.holds Tryd.pinned (.plain (OpenSpec.upto neutralAloneSpec)) neutralAloneUptoCard
end Rows
end Go.Proofs.YtaahkcepdgmagaaDoor
