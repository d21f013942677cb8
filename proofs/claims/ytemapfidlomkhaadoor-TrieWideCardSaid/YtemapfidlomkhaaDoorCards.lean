/-
  DERIVED. GIVEN WITH THE SEED: THE CARDS: each row of YtemapfidlomkhaaDoorRows.lean that lists a variable, with what it lists TIED to the program's text (the seventh form; the later family's looks); each row that meets fmt, with fmt's text TOLD by the authors' own Lean function (tested against real Go, not proved from fmt's source: count such statements apart). THE CARD IS WHAT COUNTS. Prove the row's statement (the work); the ties are given (YtemapfidlomkhaaDoorTie.lean); close each card by the builder's one call (the guide's Derived/Test/ToyasCard.lean, 'card_holds'). Laid BY PROGRAM, IN A SANDBOX (cutbox-door.mjs). By AI agents, Wed Nov 11 2026. No macro, syntax, notation, axiom, sorry.
-/
import Derived.Test.YtemapfidlomkhaaDoorRows
import GoSem.ClaimSeven
namespace Go.Proofs.YtemapfidlomkhaaDoor
namespace Rows

/-- THE TIED CARD OF 'boustrophedonlaw03.TrieChecks'. -/
def trieChecksCard : Claim7 := { stood := { row := trieChecksRow, standIns := [], harness := (true, "2aa5f0e1fdb4641c04da14efef6880dc4f63b676b5d7294f56bc53bd0645d4f4"), looks := true }, kinds := [], alts := [], laidByText := true, laidKinds := [.handle], laidTests := true, laidLooks := .later }
def TrieChecksCardSaid : Prop := Claim7.holds Tryd.pinned (.plain (OpenSpec.ofChange trieChecksSpec)) trieChecksCard

/-- THE TIED CARD OF 'boustrophedonlaw03.TrieGets'. -/
def trieGetsCard : Claim7 := { stood := { row := trieGetsRow, standIns := [], harness := (true, "2aa5f0e1fdb4641c04da14efef6880dc4f63b676b5d7294f56bc53bd0645d4f4"), looks := true }, kinds := [], alts := [], laidByText := true, laidKinds := [.handle], laidTests := true, laidLooks := .later }
def TrieGetsCardSaid : Prop := Claim7.holds Tryd.pinned (.plain (OpenSpec.ofChange trieGetsSpec)) trieGetsCard

/-- THE TIED CARD OF 'boustrophedonlaw03.TriePages'. -/
def triePagesCard : Claim7 := { stood := { row := triePagesRow, standIns := [], harness := (true, "2aa5f0e1fdb4641c04da14efef6880dc4f63b676b5d7294f56bc53bd0645d4f4"), looks := true }, kinds := [], alts := [], laidByText := true, laidKinds := [.handle], laidTests := true, laidLooks := .later }
def TriePagesCardSaid : Prop := Claim7.holds Tryd.pinned (.plain (OpenSpec.ofChange triePagesSpec)) triePagesCard

/-- THE TIED CARD OF 'boustrophedonlaw03.TrieWide'. -/
def trieWideCard : Claim7 := { stood := { row := trieWideRow, standIns := [], harness := (true, "2aa5f0e1fdb4641c04da14efef6880dc4f63b676b5d7294f56bc53bd0645d4f4"), looks := true }, kinds := [], alts := [], laidByText := true, laidKinds := [.handle], laidTests := true, laidLooks := .later }
def TrieWideCardSaid : Prop := Claim7.holds Tryd.pinned (.plain (OpenSpec.ofChange trieWideSpec)) trieWideCard

/-- THE SECOND FORM's CARD OF 'boustrophedonlaw03.TrieChecks'. -/
def trieChecksUptoCard : Claim7 := { stood := { row := trieChecksUptoRow, standIns := [], harness := (true, "2aa5f0e1fdb4641c04da14efef6880dc4f63b676b5d7294f56bc53bd0645d4f4"), looks := true }, kinds := [], alts := [], laidByText := true, laidKinds := [.handle], laidTests := true, laidLooks := .later }
def TrieChecksUptoCardSaid : Prop := Claim7.holds Tryd.pinned (.plain (OpenSpec.upto trieChecksSpec)) trieChecksUptoCard

/-- THE SECOND FORM's CARD OF 'boustrophedonlaw03.TrieGets'. -/
def trieGetsUptoCard : Claim7 := { stood := { row := trieGetsUptoRow, standIns := [], harness := (true, "2aa5f0e1fdb4641c04da14efef6880dc4f63b676b5d7294f56bc53bd0645d4f4"), looks := true }, kinds := [], alts := [], laidByText := true, laidKinds := [.handle], laidTests := true, laidLooks := .later }
def TrieGetsUptoCardSaid : Prop := Claim7.holds Tryd.pinned (.plain (OpenSpec.upto trieGetsSpec)) trieGetsUptoCard

/-- THE SECOND FORM's CARD OF 'boustrophedonlaw03.TriePages'. -/
def triePagesUptoCard : Claim7 := { stood := { row := triePagesUptoRow, standIns := [], harness := (true, "2aa5f0e1fdb4641c04da14efef6880dc4f63b676b5d7294f56bc53bd0645d4f4"), looks := true }, kinds := [], alts := [], laidByText := true, laidKinds := [.handle], laidTests := true, laidLooks := .later }
def TriePagesUptoCardSaid : Prop := Claim7.holds Tryd.pinned (.plain (OpenSpec.upto triePagesSpec)) triePagesUptoCard

/-- THE SECOND FORM's CARD OF 'boustrophedonlaw03.TrieWide'. -/
def trieWideUptoCard : Claim7 := { stood := { row := trieWideUptoRow, standIns := [], harness := (true, "2aa5f0e1fdb4641c04da14efef6880dc4f63b676b5d7294f56bc53bd0645d4f4"), looks := true }, kinds := [], alts := [], laidByText := true, laidKinds := [.handle], laidTests := true, laidLooks := .later }
def TrieWideUptoCardSaid : Prop := Claim7.holds Tryd.pinned (.plain (OpenSpec.upto trieWideSpec)) trieWideUptoCard
end Rows
end Go.Proofs.YtemapfidlomkhaaDoor
