/-
  DERIVED. GIVEN WITH THE SEED: THE CARDS: each row of YtpknmpgbaccffabDoorRows.lean that lists a variable, with what it lists TIED to the program's text (the seventh form; the later family's looks); each row that meets fmt, with fmt's text TOLD by the authors' own Lean function (tested against real Go, not proved from fmt's source: count such statements apart). THE CARD IS WHAT COUNTS. Prove the row's statement (the work); the ties are given (YtpknmpgbaccffabDoorTie.lean); close each card by the builder's one call (the guide's Derived/Test/ToyasCard.lean, 'card_holds'). Laid BY PROGRAM, IN A SANDBOX (cutbox-door.mjs). By AI agents, Wed Nov 11 2026. No macro, syntax, notation, axiom, sorry.
-/
import Derived.Test.YtpknmpgbaccffabDoorRows
import GoSem.ClaimSeven
namespace Go.Proofs.YtpknmpgbaccffabDoor
namespace Rows

/-- THE TIED CARD OF 'scansionlaw04.UcdOutside'. -/
def ucdOutsideCard : Claim7 := { stood := { row := ucdOutsideRow, standIns := [], harness := (true, "451229997b9110113854ae5de59e4a4e1f874202af128ffd4ec188314d32d259"), looks := false }, kinds := [], alts := [], laidByText := true, laidKinds := [.data], laidTests := true, laidLooks := .later }
def UcdOutsideCardSaid : Prop := Claim7.holds Tryd.pinned (.plain (OpenSpec.ofChange ucdOutsideSpec)) ucdOutsideCard

/-- THE SECOND FORM's CARD OF 'scansionlaw04.UcdOutside'. -/
def ucdOutsideUptoCard : Claim7 := { stood := { row := ucdOutsideUptoRow, standIns := [], harness := (true, "451229997b9110113854ae5de59e4a4e1f874202af128ffd4ec188314d32d259"), looks := false }, kinds := [], alts := [], laidByText := true, laidKinds := [.data], laidTests := true, laidLooks := .later }
def UcdOutsideUptoCardSaid : Prop := Claim7.holds Tryd.pinned (.plain (OpenSpec.upto ucdOutsideSpec)) ucdOutsideUptoCard
end Rows
end Go.Proofs.YtpknmpgbaccffabDoor
