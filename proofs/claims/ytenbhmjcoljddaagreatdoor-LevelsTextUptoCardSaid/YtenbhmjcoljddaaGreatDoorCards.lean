/-
  DERIVED. GIVEN WITH THE SEED: THE CARDS: each row of YtenbhmjcoljddaaGreatDoorRows.lean that lists a variable, with what it lists TIED to the program's text (the seventh form; the later family's looks); each row that meets fmt, with fmt's text TOLD by the authors' own Lean function (tested against real Go, not proved from fmt's source: count such statements apart). THE CARD IS WHAT COUNTS. Prove the row's statement (the work); the ties are given (YtenbhmjcoljddaaGreatDoorTie.lean); close each card by the builder's one call (the guide's Derived/Test/ToyasCard.lean, 'card_holds'). Laid BY PROGRAM, IN A SANDBOX (cutbox-door.mjs). By AI agents, Wed Nov 11 2026. No macro, syntax, notation, axiom, sorry.
-/
import Derived.Test.YtenbhmjcoljddaaGreatDoorRows
import GoSem.ClaimSeven
namespace Go.Proofs.YtenbhmjcoljddaaGreatDoor
namespace Rows

/-- THE TIED CARD OF 'boustrophedonlaw18.LevelsParagraph'. -/
def levelsParagraphCard : Claim7 := { stood := { row := levelsParagraphRow, standIns := [], harness := (true, "709f5c8cf7ce8c3ed10fa96326477746b0fde286d4b7513017eb7cf3669256d8"), looks := true }, kinds := [], alts := [], laidByText := true, laidKinds := [.data], laidTests := true, laidLooks := .later }
def LevelsParagraphCardSaid : Prop := Claim7.holds Tryz.pinned (.plain (OpenSpec.ofChange levelsParagraphSpec)) levelsParagraphCard

/-- THE TIED CARD OF 'boustrophedonlaw18.LevelsText'. -/
def levelsTextCard : Claim7 := { stood := { row := levelsTextRow, standIns := [], harness := (true, "709f5c8cf7ce8c3ed10fa96326477746b0fde286d4b7513017eb7cf3669256d8"), looks := true }, kinds := [], alts := [], laidByText := true, laidKinds := [.data, .handle], laidTests := true, laidLooks := .later }
def LevelsTextCardSaid : Prop := Claim7.holds Tryz.pinned (.plain (OpenSpec.ofChange levelsTextSpec)) levelsTextCard

/-- THE SECOND FORM's CARD OF 'boustrophedonlaw18.LevelsParagraph'. -/
def levelsParagraphUptoCard : Claim7 := { stood := { row := levelsParagraphUptoRow, standIns := [], harness := (true, "709f5c8cf7ce8c3ed10fa96326477746b0fde286d4b7513017eb7cf3669256d8"), looks := true }, kinds := [], alts := [], laidByText := true, laidKinds := [.data], laidTests := true, laidLooks := .later }
def LevelsParagraphUptoCardSaid : Prop := Claim7.holds Tryz.pinned (.plain (OpenSpec.upto levelsParagraphSpec)) levelsParagraphUptoCard

/-- THE SECOND FORM's CARD OF 'boustrophedonlaw18.LevelsText'. -/
def levelsTextUptoCard : Claim7 := { stood := { row := levelsTextUptoRow, standIns := [], harness := (true, "709f5c8cf7ce8c3ed10fa96326477746b0fde286d4b7513017eb7cf3669256d8"), looks := true }, kinds := [], alts := [], laidByText := true, laidKinds := [.data, .handle], laidTests := true, laidLooks := .later }
def LevelsTextUptoCardSaid : Prop := Claim7.holds Tryz.pinned (.plain (OpenSpec.upto levelsTextSpec)) levelsTextUptoCard
end Rows
end Go.Proofs.YtenbhmjcoljddaaGreatDoor
