/-
  DERIVED. GIVEN WITH THE SEED: THE CARDS: each row of YtpmlbdfdiebkcabDoorRows.lean that lists a variable, with what it lists TIED to the program's text (the seventh form; the later family's looks); each row that meets fmt, with fmt's text TOLD by the authors' own Lean function (tested against real Go, not proved from fmt's source: count such statements apart). THE CARD IS WHAT COUNTS. Prove the row's statement (the work); the ties are given (YtpmlbdfdiebkcabDoorTie.lean); close each card by the builder's one call (the guide's Derived/Test/ToyasCard.lean, 'card_holds'). Laid BY PROGRAM, IN A SANDBOX (cutbox-door.mjs). By AI agents, Wed Nov 11 2026. No macro, syntax, notation, axiom, sorry.
-/
import Derived.Test.YtpmlbdfdiebkcabDoorRows
import GoSem.ClaimSeven
namespace Go.Proofs.YtpmlbdfdiebkcabDoor
namespace Rows

/-- THE TIED CARD OF 'scansionlaw06.WordsSpaces'. -/
def wordsSpacesCard : Claim7 := { stood := { row := wordsSpacesRow, standIns := [], harness := (true, "1e856f131047f53f99a4ef91f1b9b4d0070c831d12b158ca60b2719ab94ddd0c"), looks := false }, kinds := [], alts := [], laidByText := true, laidKinds := [.data], laidTests := true, laidLooks := .later }
def WordsSpacesCardSaid : Prop := Claim7.holds Tryd.pinned (.plain (OpenSpec.ofChange wordsSpacesSpec)) wordsSpacesCard

/-- THE SECOND FORM's CARD OF 'scansionlaw06.WordsSpaces'. -/
def wordsSpacesUptoCard : Claim7 := { stood := { row := wordsSpacesUptoRow, standIns := [], harness := (true, "1e856f131047f53f99a4ef91f1b9b4d0070c831d12b158ca60b2719ab94ddd0c"), looks := false }, kinds := [], alts := [], laidByText := true, laidKinds := [.data], laidTests := true, laidLooks := .later }
def WordsSpacesUptoCardSaid : Prop := Claim7.holds Tryd.pinned (.plain (OpenSpec.upto wordsSpacesSpec)) wordsSpacesUptoCard
end Rows
end Go.Proofs.YtpmlbdfdiebkcabDoor
