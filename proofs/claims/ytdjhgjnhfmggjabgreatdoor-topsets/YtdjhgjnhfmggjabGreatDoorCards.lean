/-
  DERIVED. GIVEN WITH THE SEED: THE CARDS: each row of YtdjhgjnhfmggjabGreatDoorRows.lean that lists a variable, with what it lists TIED to the program's text (the seventh form; the later family's looks); each row that meets fmt, with fmt's text TOLD by the authors' own Lean function (tested against real Go, not proved from fmt's source: count such statements apart). THE CARD IS WHAT COUNTS. Prove the row's statement (the work); the ties are given (YtdjhgjnhfmggjabGreatDoorTie.lean); close each card by the builder's one call (the guide's Derived/Test/ToyasCard.lean, 'card_holds'). Laid BY PROGRAM, IN A SANDBOX (cutbox-door.mjs). By AI agents, Wed Nov 11 2026. No macro, syntax, notation, axiom, sorry.
-/
import Derived.Test.YtdjhgjnhfmggjabGreatDoorRows
import GoSem.ClaimSeven
namespace Go.Proofs.YtdjhgjnhfmggjabGreatDoor
namespace Rows

/-- THE TIED CARD OF 'scansiontop.TopSets'. -/
def topSetsCard : Claim7 := { stood := { row := topSetsRow, standIns := [], harness := (true, "b8eb2dadab7812b34f85ad7686ce0538db9dbcc0a2f1484dae6b42c7e105e046"), looks := true }, kinds := [], alts := [], laidByText := true, laidKinds := [.data, .data, .data, .data, .sentinel, .sentinel, .pinned, .pinned], laidTests := true, laidLooks := .later }
def TopSetsCardSaid : Prop := Claim7.holds Tryz.pinned (.plain (OpenSpec.ofChange topSetsSpec)) topSetsCard

/-- THE SECOND FORM's CARD OF 'scansiontop.TopSets'. -/
def topSetsUptoCard : Claim7 := { stood := { row := topSetsUptoRow, standIns := [], harness := (true, "b8eb2dadab7812b34f85ad7686ce0538db9dbcc0a2f1484dae6b42c7e105e046"), looks := true }, kinds := [], alts := [], laidByText := true, laidKinds := [.data, .data, .data, .data, .sentinel, .sentinel, .pinned, .pinned], laidTests := true, laidLooks := .later }
def TopSetsUptoCardSaid : Prop := Claim7.holds Tryz.pinned (.plain (OpenSpec.upto topSetsSpec)) topSetsUptoCard
end Rows
end Go.Proofs.YtdjhgjnhfmggjabGreatDoor
