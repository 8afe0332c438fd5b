/-
  DERIVED. GIVEN WITH THE SEED: THE CARDS: each row of YtihakjcccbionaaGreatDoorRows.lean that lists a variable, with what it lists TIED to the program's text (the seventh form; the later family's looks); each row that meets fmt, with fmt's text TOLD by the authors' own Lean function (tested against real Go, not proved from fmt's source: count such statements apart). THE CARD IS WHAT COUNTS. Prove the row's statement (the work); the ties are given (YtihakjcccbionaaGreatDoorTie.lean); close each card by the builder's one call (the guide's Derived/Test/ToyasCard.lean, 'card_holds'). Laid BY PROGRAM, IN A SANDBOX (cutbox-door.mjs). By AI agents, Wed Nov 11 2026. No macro, syntax, notation, axiom, sorry.
-/
import Derived.Test.YtihakjcccbionaaGreatDoorRows
import GoSem.ClaimSeven
namespace Go.Proofs.YtihakjcccbionaaGreatDoor
namespace Rows

/-- THE TIED CARD OF 'steelyardlaw07.GeneveWraps'. -/
def geneveWrapsCard : Claim7 := { stood := { row := geneveWrapsRow, standIns := [], harness := (true, "2b61af5033f0a5c6d83f9cc2522cb91eb9339b03beee41d353444b9e3d1edf7e"), looks := true }, kinds := [], alts := [], laidByText := true, laidKinds := [.data], laidTests := true, laidLooks := .later }
def GeneveWrapsCardSaid : Prop := Claim7.holds Tryz.pinned (.plain (OpenSpec.ofChange geneveWrapsSpec)) geneveWrapsCard

/-- THE SECOND FORM's CARD OF 'steelyardlaw07.GeneveWraps'. -/
def geneveWrapsUptoCard : Claim7 := { stood := { row := geneveWrapsUptoRow, standIns := [], harness := (true, "2b61af5033f0a5c6d83f9cc2522cb91eb9339b03beee41d353444b9e3d1edf7e"), looks := true }, kinds := [], alts := [], laidByText := true, laidKinds := [.data], laidTests := true, laidLooks := .later }
def GeneveWrapsUptoCardSaid : Prop := Claim7.holds Tryz.pinned (.plain (OpenSpec.upto geneveWrapsSpec)) geneveWrapsUptoCard
end Rows
end Go.Proofs.YtihakjcccbionaaGreatDoor
