/-
  DERIVED. GIVEN WITH THE SEED: THE CARDS: each row of YtpmlbdfdiebkcaaDoorRows.lean that lists a variable, with what it lists TIED to the program's text (the seventh form; the later family's looks); each row that meets fmt, with fmt's text TOLD by the authors' own Lean function (tested against real Go, not proved from fmt's source: count such statements apart). THE CARD IS WHAT COUNTS. Prove the row's statement (the work); the ties are given (YtpmlbdfdiebkcaaDoorTie.lean); close each card by the builder's one call (the guide's Derived/Test/ToyasCard.lean, 'card_holds'). Laid BY PROGRAM, IN A SANDBOX (cutbox-door.mjs). By AI agents, Wed Nov 11 2026. No macro, syntax, notation, axiom, sorry.
-/
import Derived.Test.YtpmlbdfdiebkcaaDoorRows
import GoSem.ClaimSeven
namespace Go.Proofs.YtpmlbdfdiebkcaaDoor
namespace Rows

/-- THE TIED CARD OF 'scansionlaw06.WordsBreaks'. -/
def wordsBreaksCard : Claim7 := { stood := { row := wordsBreaksRow, standIns := [], harness := (true, "0bb640f1a258e86dc64d148a22ad5f16acbbd08f3efa66d3d9f70c4bf08081ee"), looks := false }, kinds := [], alts := [], laidByText := true, laidKinds := [.data], laidTests := true, laidLooks := .later }
def WordsBreaksCardSaid : Prop := Claim7.holds Tryd.pinned (.plain (OpenSpec.ofChange wordsBreaksSpec)) wordsBreaksCard

/-- THE TIED CARD OF 'scansionlaw06.WordsAsks'. -/
def wordsAsksCard : Claim7 := { stood := { row := wordsAsksRow, standIns := [], harness := (true, "0bb640f1a258e86dc64d148a22ad5f16acbbd08f3efa66d3d9f70c4bf08081ee"), looks := false }, kinds := [], alts := [], laidByText := true, laidKinds := [.data], laidTests := true, laidLooks := .later }
def WordsAsksCardSaid : Prop := Claim7.holds Tryd.pinned (.plain (OpenSpec.ofChange wordsAsksSpec)) wordsAsksCard

/-- THE TIED CARD OF 'scansionlaw06.WordsParts'. -/
def wordsPartsCard : Claim7 := { stood := { row := wordsPartsRow, standIns := [], harness := (true, "0bb640f1a258e86dc64d148a22ad5f16acbbd08f3efa66d3d9f70c4bf08081ee"), looks := false }, kinds := [], alts := [], laidByText := true, laidKinds := [.data], laidTests := true, laidLooks := .later }
def WordsPartsCardSaid : Prop := Claim7.holds Tryd.pinned (.plain (OpenSpec.ofChange wordsPartsSpec)) wordsPartsCard

/-- THE TIED CARD OF 'scansionlaw06.WordsMarks'. -/
def wordsMarksCard : Claim7 := { stood := { row := wordsMarksRow, standIns := [], harness := (true, "0bb640f1a258e86dc64d148a22ad5f16acbbd08f3efa66d3d9f70c4bf08081ee"), looks := false }, kinds := [], alts := [], laidByText := true, laidKinds := [.data], laidTests := true, laidLooks := .later }
def WordsMarksCardSaid : Prop := Claim7.holds Tryd.pinned (.plain (OpenSpec.ofChange wordsMarksSpec)) wordsMarksCard

/-- THE TIED CARD OF 'scansionlaw06.WordsLines'. -/
def wordsLinesCard : Claim7 := { stood := { row := wordsLinesRow, standIns := [], harness := (true, "0bb640f1a258e86dc64d148a22ad5f16acbbd08f3efa66d3d9f70c4bf08081ee"), looks := false }, kinds := [], alts := [], laidByText := true, laidKinds := [.data], laidTests := true, laidLooks := .later }
def WordsLinesCardSaid : Prop := Claim7.holds Tryd.pinned (.plain (OpenSpec.ofChange wordsLinesSpec)) wordsLinesCard

/-- THE TIED CARD OF 'scansionlaw06.WordsLetters'. -/
def wordsLettersCard : Claim7 := { stood := { row := wordsLettersRow, standIns := [], harness := (true, "0bb640f1a258e86dc64d148a22ad5f16acbbd08f3efa66d3d9f70c4bf08081ee"), looks := false }, kinds := [], alts := [], laidByText := true, laidKinds := [.data], laidTests := true, laidLooks := .later }
def WordsLettersCardSaid : Prop := Claim7.holds Tryd.pinned (.plain (OpenSpec.ofChange wordsLettersSpec)) wordsLettersCard

/-- THE SECOND FORM's CARD OF 'scansionlaw06.WordsBreaks'. -/
def wordsBreaksUptoCard : Claim7 := { stood := { row := wordsBreaksUptoRow, standIns := [], harness := (true, "0bb640f1a258e86dc64d148a22ad5f16acbbd08f3efa66d3d9f70c4bf08081ee"), looks := false }, kinds := [], alts := [], laidByText := true, laidKinds := [.data], laidTests := true, laidLooks := .later }
def WordsBreaksUptoCardSaid : Prop := Claim7.holds Tryd.pinned (.plain (OpenSpec.upto wordsBreaksSpec)) wordsBreaksUptoCard

/-- THE SECOND FORM's CARD OF 'scansionlaw06.WordsAsks'. -/
def wordsAsksUptoCard : Claim7 := { stood := { row := wordsAsksUptoRow, standIns := [], harness := (true, "0bb640f1a258e86dc64d148a22ad5f16acbbd08f3efa66d3d9f70c4bf08081ee"), looks := false }, kinds := [], alts := [], laidByText := true, laidKinds := [.data], laidTests := true, laidLooks := .later }
def WordsAsksUptoCardSaid : Prop := Claim7.holds Tryd.pinned (.plain (OpenSpec.upto wordsAsksSpec)) wordsAsksUptoCard

/-- THE SECOND FORM's CARD OF 'scansionlaw06.WordsParts'. -/
def wordsPartsUptoCard : Claim7 := { stood := { row := wordsPartsUptoRow, standIns := [], harness := (true, "0bb640f1a258e86dc64d148a22ad5f16acbbd08f3efa66d3d9f70c4bf08081ee"), looks := false }, kinds := [], alts := [], laidByText := true, laidKinds := [.data], laidTests := true, laidLooks := .later }
def WordsPartsUptoCardSaid : Prop := Claim7.holds Tryd.pinned (.plain (OpenSpec.upto wordsPartsSpec)) wordsPartsUptoCard

/-- THE SECOND FORM's CARD OF 'scansionlaw06.WordsMarks'. -/
def wordsMarksUptoCard : Claim7 := { stood := { row := wordsMarksUptoRow, standIns := [], harness := (true, "0bb640f1a258e86dc64d148a22ad5f16acbbd08f3efa66d3d9f70c4bf08081ee"), looks := false }, kinds := [], alts := [], laidByText := true, laidKinds := [.data], laidTests := true, laidLooks := .later }
def WordsMarksUptoCardSaid : Prop := Claim7.holds Tryd.pinned (.plain (OpenSpec.upto wordsMarksSpec)) wordsMarksUptoCard

/-- THE SECOND FORM's CARD OF 'scansionlaw06.WordsLines'. -/
def wordsLinesUptoCard : Claim7 := { stood := { row := wordsLinesUptoRow, standIns := [], harness := (true, "0bb640f1a258e86dc64d148a22ad5f16acbbd08f3efa66d3d9f70c4bf08081ee"), looks := false }, kinds := [], alts := [], laidByText := true, laidKinds := [.data], laidTests := true, laidLooks := .later }
def WordsLinesUptoCardSaid : Prop := Claim7.holds Tryd.pinned (.plain (OpenSpec.upto wordsLinesSpec)) wordsLinesUptoCard

/-- THE SECOND FORM's CARD OF 'scansionlaw06.WordsLetters'. -/
def wordsLettersUptoCard : Claim7 := { stood := { row := wordsLettersUptoRow, standIns := [], harness := (true, "0bb640f1a258e86dc64d148a22ad5f16acbbd08f3efa66d3d9f70c4bf08081ee"), looks := false }, kinds := [], alts := [], laidByText := true, laidKinds := [.data], laidTests := true, laidLooks := .later }
def WordsLettersUptoCardSaid : Prop := Claim7.holds Tryd.pinned (.plain (OpenSpec.upto wordsLettersSpec)) wordsLettersUptoCard
end Rows
end Go.Proofs.YtpmlbdfdiebkcaaDoor
