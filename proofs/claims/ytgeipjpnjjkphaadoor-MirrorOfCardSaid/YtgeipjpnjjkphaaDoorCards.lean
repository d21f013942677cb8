/-
  DERIVED. GIVEN WITH THE SEED: THE CARDS: each row of YtgeipjpnjjkphaaDoorRows.lean that lists a variable, with what it lists TIED to the program's text (the seventh form; the later family's looks); each row that meets fmt, with fmt's text TOLD by the authors' own Lean function (tested against real Go, not proved from fmt's source: count such statements apart). THE CARD IS WHAT COUNTS. Prove the row's statement (the work); the ties are given (YtgeipjpnjjkphaaDoorTie.lean); close each card by the builder's one call (the guide's Derived/Test/ToyasCard.lean, 'card_holds'). Laid BY PROGRAM, IN A SANDBOX (cutbox-door.mjs). By AI agents, Wed Nov 11 2026. No macro, syntax, notation, axiom, sorry.
-/
import Derived.Test.YtgeipjpnjjkphaaDoorRows
import GoSem.ClaimSeven
namespace Go.Proofs.YtgeipjpnjjkphaaDoor
namespace Rows

/-- THE TIED CARD OF 'boustrophedonlaw05.MirrorPairs'. -/
def mirrorPairsCard : Claim7 := { stood := { row := mirrorPairsRow, standIns := [], harness := (true, "3542576f9c678b8054a6de330b8bbf765d64bcae6a30a1ff536d5a2c8f38b3e5"), looks := false }, kinds := [], alts := [], laidByText := true, laidKinds := [.data], laidTests := true, laidLooks := .later }
def MirrorPairsCardSaid : Prop := Claim7.holds Tryd.pinned (.plain (OpenSpec.ofChange mirrorPairsSpec)) mirrorPairsCard

/-- THE TIED CARD OF 'boustrophedonlaw05.MirrorOf'. -/
def mirrorOfCard : Claim7 := { stood := { row := mirrorOfRow, standIns := [], harness := (true, "3542576f9c678b8054a6de330b8bbf765d64bcae6a30a1ff536d5a2c8f38b3e5"), looks := false }, kinds := [], alts := [], laidByText := true, laidKinds := [.data], laidTests := true, laidLooks := .later }
def MirrorOfCardSaid : Prop := Claim7.holds Tryd.pinned (.plain (OpenSpec.ofChange mirrorOfSpec)) mirrorOfCard

/-- THE TIED CARD OF 'boustrophedonlaw05.MirrorTwice'. -/
def mirrorTwiceCard : Claim7 := { stood := { row := mirrorTwiceRow, standIns := [], harness := (true, "3542576f9c678b8054a6de330b8bbf765d64bcae6a30a1ff536d5a2c8f38b3e5"), looks := false }, kinds := [], alts := [], laidByText := true, laidKinds := [.data], laidTests := true, laidLooks := .later }
def MirrorTwiceCardSaid : Prop := Claim7.holds Tryd.pinned (.plain (OpenSpec.ofChange mirrorTwiceSpec)) mirrorTwiceCard

/-- THE TIED CARD OF 'boustrophedonlaw05.MirrorBrackets'. -/
def mirrorBracketsCard : Claim7 := { stood := { row := mirrorBracketsRow, standIns := [], harness := (true, "3542576f9c678b8054a6de330b8bbf765d64bcae6a30a1ff536d5a2c8f38b3e5"), looks := false }, kinds := [], alts := [], laidByText := true, laidKinds := [.data], laidTests := true, laidLooks := .later }
def MirrorBracketsCardSaid : Prop := Claim7.holds Tryd.pinned (.plain (OpenSpec.ofChange mirrorBracketsSpec)) mirrorBracketsCard

/-- THE SECOND FORM's CARD OF 'boustrophedonlaw05.MirrorPairs'. -/
def mirrorPairsUptoCard : Claim7 := { stood := { row := mirrorPairsUptoRow, standIns := [], harness := (true, "3542576f9c678b8054a6de330b8bbf765d64bcae6a30a1ff536d5a2c8f38b3e5"), looks := false }, kinds := [], alts := [], laidByText := true, laidKinds := [.data], laidTests := true, laidLooks := .later }
def MirrorPairsUptoCardSaid : Prop := Claim7.holds Tryd.pinned (.plain (OpenSpec.upto mirrorPairsSpec)) mirrorPairsUptoCard

/-- THE SECOND FORM's CARD OF 'boustrophedonlaw05.MirrorOf'. -/
def mirrorOfUptoCard : Claim7 := { stood := { row := mirrorOfUptoRow, standIns := [], harness := (true, "3542576f9c678b8054a6de330b8bbf765d64bcae6a30a1ff536d5a2c8f38b3e5"), looks := false }, kinds := [], alts := [], laidByText := true, laidKinds := [.data], laidTests := true, laidLooks := .later }
def MirrorOfUptoCardSaid : Prop := Claim7.holds Tryd.pinned (.plain (OpenSpec.upto mirrorOfSpec)) mirrorOfUptoCard

/-- THE SECOND FORM's CARD OF 'boustrophedonlaw05.MirrorTwice'. -/
def mirrorTwiceUptoCard : Claim7 := { stood := { row := mirrorTwiceUptoRow, standIns := [], harness := (true, "3542576f9c678b8054a6de330b8bbf765d64bcae6a30a1ff536d5a2c8f38b3e5"), looks := false }, kinds := [], alts := [], laidByText := true, laidKinds := [.data], laidTests := true, laidLooks := .later }
def MirrorTwiceUptoCardSaid : Prop := Claim7.holds Tryd.pinned (.plain (OpenSpec.upto mirrorTwiceSpec)) mirrorTwiceUptoCard

/-- THE SECOND FORM's CARD OF 'boustrophedonlaw05.MirrorBrackets'. -/
def mirrorBracketsUptoCard : Claim7 := { stood := { row := mirrorBracketsUptoRow, standIns := [], harness := (true, "3542576f9c678b8054a6de330b8bbf765d64bcae6a30a1ff536d5a2c8f38b3e5"), looks := false }, kinds := [], alts := [], laidByText := true, laidKinds := [.data], laidTests := true, laidLooks := .later }
def MirrorBracketsUptoCardSaid : Prop := Claim7.holds Tryd.pinned (.plain (OpenSpec.upto mirrorBracketsSpec)) mirrorBracketsUptoCard
end Rows
end Go.Proofs.YtgeipjpnjjkphaaDoor
