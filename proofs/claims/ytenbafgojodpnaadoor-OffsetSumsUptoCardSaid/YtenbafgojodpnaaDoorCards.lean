/-
  DERIVED. GIVEN WITH THE SEED: THE CARDS: each row of YtenbafgojodpnaaDoorRows.lean that lists a variable, with what it lists TIED to the program's text (the seventh form; the later family's looks); each row that meets fmt, with fmt's text TOLD by the authors' own Lean function (tested against real Go, not proved from fmt's source: count such statements apart). THE CARD IS WHAT COUNTS. Prove the row's statement (the work); the ties are given (YtenbafgojodpnaaDoorTie.lean); close each card by the builder's one call (the guide's Derived/Test/ToyasCard.lean, 'card_holds'). Laid BY PROGRAM, IN A SANDBOX (cutbox-door.mjs). By AI agents, Wed Nov 11 2026. No macro, syntax, notation, axiom, sorry.
-/
import Derived.Test.YtenbafgojodpnaaDoorRows
import GoSem.ClaimSeven
namespace Go.Proofs.YtenbafgojodpnaaDoor
namespace Rows

/-- THE TIED CARD OF 'boustrophedonlaw02.OffsetPlaces'. -/
def offsetPlacesCard : Claim7 := { stood := { row := offsetPlacesRow, standIns := [], harness := (true, "89b612c8a413a12ce226075812a59c0256adb8966cd4f69a4179f1a2273a047c"), looks := true }, kinds := [], alts := [], laidByText := true, laidKinds := [.handle], laidTests := true, laidLooks := .later }
def OffsetPlacesCardSaid : Prop := Claim7.holds Tryd.pinned (.plain (OpenSpec.ofChange offsetPlacesSpec)) offsetPlacesCard

/-- THE TIED CARD OF 'boustrophedonlaw02.OffsetSpans'. -/
def offsetSpansCard : Claim7 := { stood := { row := offsetSpansRow, standIns := [], harness := (true, "89b612c8a413a12ce226075812a59c0256adb8966cd4f69a4179f1a2273a047c"), looks := true }, kinds := [], alts := [], laidByText := true, laidKinds := [.handle], laidTests := true, laidLooks := .later }
def OffsetSpansCardSaid : Prop := Claim7.holds Tryd.pinned (.plain (OpenSpec.ofChange offsetSpansSpec)) offsetSpansCard

/-- THE TIED CARD OF 'boustrophedonlaw02.OffsetBack'. -/
def offsetBackCard : Claim7 := { stood := { row := offsetBackRow, standIns := [], harness := (true, "89b612c8a413a12ce226075812a59c0256adb8966cd4f69a4179f1a2273a047c"), looks := true }, kinds := [], alts := [], laidByText := true, laidKinds := [.handle], laidTests := true, laidLooks := .later }
def OffsetBackCardSaid : Prop := Claim7.holds Tryd.pinned (.plain (OpenSpec.ofChange offsetBackSpec)) offsetBackCard

/-- THE TIED CARD OF 'boustrophedonlaw02.OffsetSums'. -/
def offsetSumsCard : Claim7 := { stood := { row := offsetSumsRow, standIns := [], harness := (true, "89b612c8a413a12ce226075812a59c0256adb8966cd4f69a4179f1a2273a047c"), looks := true }, kinds := [], alts := [], laidByText := true, laidKinds := [.handle], laidTests := true, laidLooks := .later }
def OffsetSumsCardSaid : Prop := Claim7.holds Tryd.pinned (.plain (OpenSpec.ofChange offsetSumsSpec)) offsetSumsCard

/-- THE TIED CARD OF 'boustrophedonlaw36.ViewErrors'. -/
def viewErrorsCard : Claim7 := { stood := { row := viewErrorsRow, standIns := [], harness := (true, "89b612c8a413a12ce226075812a59c0256adb8966cd4f69a4179f1a2273a047c"), looks := true }, kinds := [], alts := [], laidByText := true, laidKinds := [.handle], laidTests := true, laidLooks := .later }
def ViewErrorsCardSaid : Prop := Claim7.holds Tryd.pinned (.plain (OpenSpec.ofChange viewErrorsSpec)) viewErrorsCard

/-- THE TIED CARD OF 'boustrophedonlaw36.ViewMost'. -/
def viewMostCard : Claim7 := { stood := { row := viewMostRow, standIns := [], harness := (true, "89b612c8a413a12ce226075812a59c0256adb8966cd4f69a4179f1a2273a047c"), looks := true }, kinds := [], alts := [], laidByText := true, laidKinds := [.handle], laidTests := true, laidLooks := .later }
def ViewMostCardSaid : Prop := Claim7.holds Tryd.pinned (.plain (OpenSpec.ofChange viewMostSpec)) viewMostCard

/-- THE SECOND FORM's CARD OF 'boustrophedonlaw02.OffsetPlaces'. -/
def offsetPlacesUptoCard : Claim7 := { stood := { row := offsetPlacesUptoRow, standIns := [], harness := (true, "89b612c8a413a12ce226075812a59c0256adb8966cd4f69a4179f1a2273a047c"), looks := true }, kinds := [], alts := [], laidByText := true, laidKinds := [.handle], laidTests := true, laidLooks := .later }
def OffsetPlacesUptoCardSaid : Prop := Claim7.holds Tryd.pinned (.plain (OpenSpec.upto offsetPlacesSpec)) offsetPlacesUptoCard

/-- THE SECOND FORM's CARD OF 'boustrophedonlaw02.OffsetSpans'. -/
def offsetSpansUptoCard : Claim7 := { stood := { row := offsetSpansUptoRow, standIns := [], harness := (true, "89b612c8a413a12ce226075812a59c0256adb8966cd4f69a4179f1a2273a047c"), looks := true }, kinds := [], alts := [], laidByText := true, laidKinds := [.handle], laidTests := true, laidLooks := .later }
def OffsetSpansUptoCardSaid : Prop := Claim7.holds Tryd.pinned (.plain (OpenSpec.upto offsetSpansSpec)) offsetSpansUptoCard

/-- THE SECOND FORM's CARD OF 'boustrophedonlaw02.OffsetBack'. -/
def offsetBackUptoCard : Claim7 := { stood := { row := offsetBackUptoRow, standIns := [], harness := (true, "89b612c8a413a12ce226075812a59c0256adb8966cd4f69a4179f1a2273a047c"), looks := true }, kinds := [], alts := [], laidByText := true, laidKinds := [.handle], laidTests := true, laidLooks := .later }
def OffsetBackUptoCardSaid : Prop := Claim7.holds Tryd.pinned (.plain (OpenSpec.upto offsetBackSpec)) offsetBackUptoCard

/-- THE SECOND FORM's CARD OF 'boustrophedonlaw02.OffsetSums'. -/
def offsetSumsUptoCard : Claim7 := { stood := { row := offsetSumsUptoRow, standIns := [], harness := (true, "89b612c8a413a12ce226075812a59c0256adb8966cd4f69a4179f1a2273a047c"), looks := true }, kinds := [], alts := [], laidByText := true, laidKinds := [.handle], laidTests := true, laidLooks := .later }
def OffsetSumsUptoCardSaid : Prop := Claim7.holds Tryd.pinned (.plain (OpenSpec.upto offsetSumsSpec)) offsetSumsUptoCard

/-- THE SECOND FORM's CARD OF 'boustrophedonlaw36.ViewErrors'. -/
def viewErrorsUptoCard : Claim7 := { stood := { row := viewErrorsUptoRow, standIns := [], harness := (true, "89b612c8a413a12ce226075812a59c0256adb8966cd4f69a4179f1a2273a047c"), looks := true }, kinds := [], alts := [], laidByText := true, laidKinds := [.handle], laidTests := true, laidLooks := .later }
def ViewErrorsUptoCardSaid : Prop := Claim7.holds Tryd.pinned (.plain (OpenSpec.upto viewErrorsSpec)) viewErrorsUptoCard

/-- THE SECOND FORM's CARD OF 'boustrophedonlaw36.ViewMost'. -/
def viewMostUptoCard : Claim7 := { stood := { row := viewMostUptoRow, standIns := [], harness := (true, "89b612c8a413a12ce226075812a59c0256adb8966cd4f69a4179f1a2273a047c"), looks := true }, kinds := [], alts := [], laidByText := true, laidKinds := [.handle], laidTests := true, laidLooks := .later }
def ViewMostUptoCardSaid : Prop := Claim7.holds Tryd.pinned (.plain (OpenSpec.upto viewMostSpec)) viewMostUptoCard
end Rows
end Go.Proofs.YtenbafgojodpnaaDoor
