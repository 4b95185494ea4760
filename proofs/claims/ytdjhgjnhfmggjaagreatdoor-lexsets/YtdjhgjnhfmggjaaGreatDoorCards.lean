/-
  DERIVED. GIVEN WITH THE SEED: THE CARDS: each row of YtdjhgjnhfmggjaaGreatDoorRows.lean that lists a variable, with what it lists TIED to the program's text (the seventh form; the later family's looks); each row that meets fmt, with fmt's text TOLD by the authors' own Lean function (tested against real Go, not proved from fmt's source: count such statements apart). THE CARD IS WHAT COUNTS. Prove the row's statement (the work); the ties are given (YtdjhgjnhfmggjaaGreatDoorTie.lean); close each card by the builder's one call (the guide's Derived/Test/ToyasCard.lean, 'card_holds'). Laid BY PROGRAM, IN A SANDBOX (cutbox-door.mjs). By AI agents, Wed Nov 11 2026. No macro, syntax, notation, axiom, sorry.
-/
import Derived.Test.YtdjhgjnhfmggjaaGreatDoorRows
import GoSem.ClaimSeven
namespace Go.Proofs.YtdjhgjnhfmggjaaGreatDoor
namespace Rows

/-- THE TIED CARD OF 'scansionlaw07.LexTokens'. -/
def lexTokensCard : Claim7 := { stood := { row := lexTokensRow, standIns := [], harness := (true, "49e5d93bd07397a3cc6d5e4e3489b77045c11a3931f35806c68f3ef0e1ec977d"), looks := true }, kinds := [], alts := [], laidByText := true, laidKinds := [.data, .data, .data, .sentinel, .sentinel], laidTests := true, laidLooks := .later }
def LexTokensCardSaid : Prop := Claim7.holds Tryz.pinned (.plain (OpenSpec.ofChange lexTokensSpec)) lexTokensCard

/-- THE TIED CARD OF 'scansionlaw07.LexSets'. -/
def lexSetsCard : Claim7 := { stood := { row := lexSetsRow, standIns := [], harness := (true, "49e5d93bd07397a3cc6d5e4e3489b77045c11a3931f35806c68f3ef0e1ec977d"), looks := true }, kinds := [], alts := [], laidByText := true, laidKinds := [.data, .data, .data, .data, .sentinel, .sentinel, .pinned, .pinned], laidTests := true, laidLooks := .later }
def LexSetsCardSaid : Prop := Claim7.holds Tryz.pinned (.plain (OpenSpec.ofChange lexSetsSpec)) lexSetsCard

/-- THE SECOND FORM's CARD OF 'scansionlaw07.LexTokens'. -/
def lexTokensUptoCard : Claim7 := { stood := { row := lexTokensUptoRow, standIns := [], harness := (true, "49e5d93bd07397a3cc6d5e4e3489b77045c11a3931f35806c68f3ef0e1ec977d"), looks := true }, kinds := [], alts := [], laidByText := true, laidKinds := [.data, .data, .data, .sentinel, .sentinel], laidTests := true, laidLooks := .later }
def LexTokensUptoCardSaid : Prop := Claim7.holds Tryz.pinned (.plain (OpenSpec.upto lexTokensSpec)) lexTokensUptoCard

/-- THE SECOND FORM's CARD OF 'scansionlaw07.LexSets'. -/
def lexSetsUptoCard : Claim7 := { stood := { row := lexSetsUptoRow, standIns := [], harness := (true, "49e5d93bd07397a3cc6d5e4e3489b77045c11a3931f35806c68f3ef0e1ec977d"), looks := true }, kinds := [], alts := [], laidByText := true, laidKinds := [.data, .data, .data, .data, .sentinel, .sentinel, .pinned, .pinned], laidTests := true, laidLooks := .later }
def LexSetsUptoCardSaid : Prop := Claim7.holds Tryz.pinned (.plain (OpenSpec.upto lexSetsSpec)) lexSetsUptoCard
end Rows
end Go.Proofs.YtdjhgjnhfmggjaaGreatDoor
