/-
  DERIVED. GIVEN WITH THE SEED: THE CARDS: each row of YtenbhmjcoljddaaDoorRows.lean that lists a variable, with what it lists TIED to the program's text (the seventh form; the later family's looks); each row that meets fmt, with fmt's text TOLD by the authors' own Lean function (tested against real Go, not proved from fmt's source: count such statements apart). THE CARD IS WHAT COUNTS. Prove the row's statement (the work); the ties are given (YtenbhmjcoljddaaDoorTie.lean); close each card by the builder's one call (the guide's Derived/Test/ToyasCard.lean, 'card_holds'). Laid BY PROGRAM, IN A SANDBOX (cutbox-door.mjs). By AI agents, Wed Nov 11 2026. No macro, syntax, notation, axiom, sorry.
-/
import Derived.Test.YtenbhmjcoljddaaDoorRows
import GoSem.ClaimSeven
namespace Go.Proofs.YtenbhmjcoljddaaDoor
namespace Rows

/-- THE TIED CARD OF 'boustrophedonlaw18.LevelsPlain'. -/
def levelsPlainCard : Claim7 := { stood := { row := levelsPlainRow, standIns := [], harness := (true, "74721fc124e771708971c90d2d35f3bb5a9ddf38b6c39dbd201d83d5bdccc142"), looks := false }, kinds := [], alts := [], laidByText := true, laidKinds := [.data], laidTests := true, laidLooks := .later }
def LevelsPlainCardSaid : Prop := Claim7.holds Tryd.pinned (.plain (OpenSpec.ofChange levelsPlainSpec)) levelsPlainCard

/-- THE TIED CARD OF 'boustrophedonlaw18.LevelsParts'. -/
def levelsPartsCard : Claim7 := { stood := { row := levelsPartsRow, standIns := [], harness := (true, "74721fc124e771708971c90d2d35f3bb5a9ddf38b6c39dbd201d83d5bdccc142"), looks := false }, kinds := [], alts := [], laidByText := true, laidKinds := [.data], laidTests := true, laidLooks := .later }
def LevelsPartsCardSaid : Prop := Claim7.holds Tryd.pinned (.plain (OpenSpec.ofChange levelsPartsSpec)) levelsPartsCard

/-- THE TIED CARD OF 'boustrophedonlaw18.LevelsBase'. -/
def levelsBaseCard : Claim7 := { stood := { row := levelsBaseRow, standIns := [], harness := (true, "74721fc124e771708971c90d2d35f3bb5a9ddf38b6c39dbd201d83d5bdccc142"), looks := false }, kinds := [], alts := [], laidByText := true, laidKinds := [.data], laidTests := true, laidLooks := .later }
def LevelsBaseCardSaid : Prop := Claim7.holds Tryd.pinned (.plain (OpenSpec.ofChange levelsBaseSpec)) levelsBaseCard

/-- THE SECOND FORM's CARD OF 'boustrophedonlaw18.LevelsPlain'. -/
def levelsPlainUptoCard : Claim7 := { stood := { row := levelsPlainUptoRow, standIns := [], harness := (true, "74721fc124e771708971c90d2d35f3bb5a9ddf38b6c39dbd201d83d5bdccc142"), looks := false }, kinds := [], alts := [], laidByText := true, laidKinds := [.data], laidTests := true, laidLooks := .later }
def LevelsPlainUptoCardSaid : Prop := Claim7.holds Tryd.pinned (.plain (OpenSpec.upto levelsPlainSpec)) levelsPlainUptoCard

/-- THE SECOND FORM's CARD OF 'boustrophedonlaw18.LevelsParts'. -/
def levelsPartsUptoCard : Claim7 := { stood := { row := levelsPartsUptoRow, standIns := [], harness := (true, "74721fc124e771708971c90d2d35f3bb5a9ddf38b6c39dbd201d83d5bdccc142"), looks := false }, kinds := [], alts := [], laidByText := true, laidKinds := [.data], laidTests := true, laidLooks := .later }
def LevelsPartsUptoCardSaid : Prop := Claim7.holds Tryd.pinned (.plain (OpenSpec.upto levelsPartsSpec)) levelsPartsUptoCard

/-- THE SECOND FORM's CARD OF 'boustrophedonlaw18.LevelsBase'. -/
def levelsBaseUptoCard : Claim7 := { stood := { row := levelsBaseUptoRow, standIns := [], harness := (true, "74721fc124e771708971c90d2d35f3bb5a9ddf38b6c39dbd201d83d5bdccc142"), looks := false }, kinds := [], alts := [], laidByText := true, laidKinds := [.data], laidTests := true, laidLooks := .later }
def LevelsBaseUptoCardSaid : Prop := Claim7.holds Tryd.pinned (.plain (OpenSpec.upto levelsBaseSpec)) levelsBaseUptoCard
end Rows
end Go.Proofs.YtenbhmjcoljddaaDoor
