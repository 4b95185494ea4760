/-
  DERIVED. GIVEN WITH THE SEED: THE CARDS: each row of YtehkaiohmcenbabDoorRows.lean that lists a variable, with what it lists TIED to the program's text (the seventh form; the later family's looks); each row that meets fmt, with fmt's text TOLD by the authors' own Lean function (tested against real Go, not proved from fmt's source: count such statements apart). THE CARD IS WHAT COUNTS. Prove the row's statement (the work); the ties are given (YtehkaiohmcenbabDoorTie.lean); close each card by the builder's one call (the guide's Derived/Test/ToyasCard.lean, 'card_holds'). Laid BY PROGRAM, IN A SANDBOX (cutbox-door.mjs). By AI agents, Wed Nov 11 2026. No macro, syntax, notation, axiom, sorry.
-/
import Derived.Test.YtehkaiohmcenbabDoorRows
import GoSem.ClaimSeven
namespace Go.Proofs.YtehkaiohmcenbabDoor
namespace Rows

/-- THE TIED CARD OF 'scansionlaw12.SubsetMet'. -/
def subsetMetCard : Claim7 := { stood := { row := subsetMetRow, standIns := [], harness := (true, "6b6dd6b14c70ad6028c52fc88c916c0fd53ef146b96006a715186935a3eddaa8"), looks := false }, kinds := [], alts := [], laidByText := true, laidKinds := [.data, .data, .data], laidTests := true, laidLooks := .later }
def SubsetMetCardSaid : Prop := Claim7.holds Tryd.pinned (.plain (OpenSpec.ofChange subsetMetSpec)) subsetMetCard

/-- THE TIED CARD OF 'scansionlaw12.SubsetFree'. -/
def subsetFreeCard : Claim7 := { stood := { row := subsetFreeRow, standIns := [], harness := (true, "6b6dd6b14c70ad6028c52fc88c916c0fd53ef146b96006a715186935a3eddaa8"), looks := false }, kinds := [], alts := [], laidByText := true, laidKinds := [.data, .data, .data], laidTests := true, laidLooks := .later }
def SubsetFreeCardSaid : Prop := Claim7.holds Tryd.pinned (.plain (OpenSpec.ofChange subsetFreeSpec)) subsetFreeCard

/-- THE SECOND FORM's CARD OF 'scansionlaw12.SubsetMet'. -/
def subsetMetUptoCard : Claim7 := { stood := { row := subsetMetUptoRow, standIns := [], harness := (true, "6b6dd6b14c70ad6028c52fc88c916c0fd53ef146b96006a715186935a3eddaa8"), looks := false }, kinds := [], alts := [], laidByText := true, laidKinds := [.data, .data, .data], laidTests := true, laidLooks := .later }
def SubsetMetUptoCardSaid : Prop := Claim7.holds Tryd.pinned (.plain (OpenSpec.upto subsetMetSpec)) subsetMetUptoCard

/-- THE SECOND FORM's CARD OF 'scansionlaw12.SubsetFree'. -/
def subsetFreeUptoCard : Claim7 := { stood := { row := subsetFreeUptoRow, standIns := [], harness := (true, "6b6dd6b14c70ad6028c52fc88c916c0fd53ef146b96006a715186935a3eddaa8"), looks := false }, kinds := [], alts := [], laidByText := true, laidKinds := [.data, .data, .data], laidTests := true, laidLooks := .later }
def SubsetFreeUptoCardSaid : Prop := Claim7.holds Tryd.pinned (.plain (OpenSpec.upto subsetFreeSpec)) subsetFreeUptoCard
end Rows
end Go.Proofs.YtehkaiohmcenbabDoor
