/-
  DERIVED. GIVEN WITH THE SEED: THE CARDS: each row of YtehkaiohmcenbaaDoorRows.lean that lists a variable, with what it lists TIED to the program's text (the seventh form; the later family's looks); each row that meets fmt, with fmt's text TOLD by the authors' own Lean function (tested against real Go, not proved from fmt's source: count such statements apart). THE CARD IS WHAT COUNTS. Prove the row's statement (the work); the ties are given (YtehkaiohmcenbaaDoorTie.lean); close each card by the builder's one call (the guide's Derived/Test/ToyasCard.lean, 'card_holds'). Laid BY PROGRAM, IN A SANDBOX (cutbox-door.mjs). By AI agents, Wed Nov 11 2026. No macro, syntax, notation, axiom, sorry.
-/
import Derived.Test.YtehkaiohmcenbaaDoorRows
import GoSem.ClaimSeven
namespace Go.Proofs.YtehkaiohmcenbaaDoor
namespace Rows

/-- THE TIED CARD OF 'scansionlaw11.FollowBuilds'. -/
def followBuildsCard : Claim7 := { stood := { row := followBuildsRow, standIns := [], harness := (true, "12d7b1cbb1d1b63f935803dd244ea2ad6ac89869bf2de770cc82d788faa3859a"), looks := false }, kinds := [], alts := [], laidByText := true, laidKinds := [.data], laidTests := true, laidLooks := .later }
def FollowBuildsCardSaid : Prop := Claim7.holds Tryd.pinned (.plain (OpenSpec.ofChange followBuildsSpec)) followBuildsCard

/-- THE TIED CARD OF 'scansionlaw11.FollowSteps'. -/
def followStepsCard : Claim7 := { stood := { row := followStepsRow, standIns := [], harness := (true, "12d7b1cbb1d1b63f935803dd244ea2ad6ac89869bf2de770cc82d788faa3859a"), looks := false }, kinds := [], alts := [], laidByText := true, laidKinds := [.data], laidTests := true, laidLooks := .later }
def FollowStepsCardSaid : Prop := Claim7.holds Tryd.pinned (.plain (OpenSpec.ofChange followStepsSpec)) followStepsCard

/-- THE TIED CARD OF 'scansionlaw12.SubsetBuilds'. -/
def subsetBuildsCard : Claim7 := { stood := { row := subsetBuildsRow, standIns := [], harness := (true, "12d7b1cbb1d1b63f935803dd244ea2ad6ac89869bf2de770cc82d788faa3859a"), looks := false }, kinds := [], alts := [], laidByText := true, laidKinds := [.data, .data, .data], laidTests := true, laidLooks := .later }
def SubsetBuildsCardSaid : Prop := Claim7.holds Tryd.pinned (.plain (OpenSpec.ofChange subsetBuildsSpec)) subsetBuildsCard

/-- THE TIED CARD OF 'scansionlaw12.SubsetRuns'. -/
def subsetRunsCard : Claim7 := { stood := { row := subsetRunsRow, standIns := [], harness := (true, "12d7b1cbb1d1b63f935803dd244ea2ad6ac89869bf2de770cc82d788faa3859a"), looks := false }, kinds := [], alts := [], laidByText := true, laidKinds := [.data, .data, .data], laidTests := true, laidLooks := .later }
def SubsetRunsCardSaid : Prop := Claim7.holds Tryd.pinned (.plain (OpenSpec.ofChange subsetRunsSpec)) subsetRunsCard

/-- THE TIED CARD OF 'scansionlaw12.SubsetWords'. -/
def subsetWordsCard : Claim7 := { stood := { row := subsetWordsRow, standIns := [], harness := (true, "12d7b1cbb1d1b63f935803dd244ea2ad6ac89869bf2de770cc82d788faa3859a"), looks := false }, kinds := [], alts := [], laidByText := true, laidKinds := [.data, .data, .data], laidTests := true, laidLooks := .later }
def SubsetWordsCardSaid : Prop := Claim7.holds Tryd.pinned (.plain (OpenSpec.ofChange subsetWordsSpec)) subsetWordsCard

/-- THE TIED CARD OF 'scansionlaw12.SubsetParts'. -/
def subsetPartsCard : Claim7 := { stood := { row := subsetPartsRow, standIns := [], harness := (true, "12d7b1cbb1d1b63f935803dd244ea2ad6ac89869bf2de770cc82d788faa3859a"), looks := false }, kinds := [], alts := [], laidByText := true, laidKinds := [.data, .data, .data], laidTests := true, laidLooks := .later }
def SubsetPartsCardSaid : Prop := Claim7.holds Tryd.pinned (.plain (OpenSpec.ofChange subsetPartsSpec)) subsetPartsCard

/-- THE SECOND FORM's CARD OF 'scansionlaw11.FollowBuilds'. -/
def followBuildsUptoCard : Claim7 := { stood := { row := followBuildsUptoRow, standIns := [], harness := (true, "12d7b1cbb1d1b63f935803dd244ea2ad6ac89869bf2de770cc82d788faa3859a"), looks := false }, kinds := [], alts := [], laidByText := true, laidKinds := [.data], laidTests := true, laidLooks := .later }
def FollowBuildsUptoCardSaid : Prop := Claim7.holds Tryd.pinned (.plain (OpenSpec.upto followBuildsSpec)) followBuildsUptoCard

/-- THE SECOND FORM's CARD OF 'scansionlaw11.FollowSteps'. -/
def followStepsUptoCard : Claim7 := { stood := { row := followStepsUptoRow, standIns := [], harness := (true, "12d7b1cbb1d1b63f935803dd244ea2ad6ac89869bf2de770cc82d788faa3859a"), looks := false }, kinds := [], alts := [], laidByText := true, laidKinds := [.data], laidTests := true, laidLooks := .later }
def FollowStepsUptoCardSaid : Prop := Claim7.holds Tryd.pinned (.plain (OpenSpec.upto followStepsSpec)) followStepsUptoCard

/-- THE SECOND FORM's CARD OF 'scansionlaw12.SubsetBuilds'. -/
def subsetBuildsUptoCard : Claim7 := { stood := { row := subsetBuildsUptoRow, standIns := [], harness := (true, "12d7b1cbb1d1b63f935803dd244ea2ad6ac89869bf2de770cc82d788faa3859a"), looks := false }, kinds := [], alts := [], laidByText := true, laidKinds := [.data, .data, .data], laidTests := true, laidLooks := .later }
def SubsetBuildsUptoCardSaid : Prop := Claim7.holds Tryd.pinned (.plain (OpenSpec.upto subsetBuildsSpec)) subsetBuildsUptoCard

/-- THE SECOND FORM's CARD OF 'scansionlaw12.SubsetRuns'. -/
def subsetRunsUptoCard : Claim7 := { stood := { row := subsetRunsUptoRow, standIns := [], harness := (true, "12d7b1cbb1d1b63f935803dd244ea2ad6ac89869bf2de770cc82d788faa3859a"), looks := false }, kinds := [], alts := [], laidByText := true, laidKinds := [.data, .data, .data], laidTests := true, laidLooks := .later }
def SubsetRunsUptoCardSaid : Prop := Claim7.holds Tryd.pinned (.plain (OpenSpec.upto subsetRunsSpec)) subsetRunsUptoCard

/-- THE SECOND FORM's CARD OF 'scansionlaw12.SubsetWords'. -/
def subsetWordsUptoCard : Claim7 := { stood := { row := subsetWordsUptoRow, standIns := [], harness := (true, "12d7b1cbb1d1b63f935803dd244ea2ad6ac89869bf2de770cc82d788faa3859a"), looks := false }, kinds := [], alts := [], laidByText := true, laidKinds := [.data, .data, .data], laidTests := true, laidLooks := .later }
def SubsetWordsUptoCardSaid : Prop := Claim7.holds Tryd.pinned (.plain (OpenSpec.upto subsetWordsSpec)) subsetWordsUptoCard

/-- THE SECOND FORM's CARD OF 'scansionlaw12.SubsetParts'. -/
def subsetPartsUptoCard : Claim7 := { stood := { row := subsetPartsUptoRow, standIns := [], harness := (true, "12d7b1cbb1d1b63f935803dd244ea2ad6ac89869bf2de770cc82d788faa3859a"), looks := false }, kinds := [], alts := [], laidByText := true, laidKinds := [.data, .data, .data], laidTests := true, laidLooks := .later }
def SubsetPartsUptoCardSaid : Prop := Claim7.holds Tryd.pinned (.plain (OpenSpec.upto subsetPartsSpec)) subsetPartsUptoCard
end Rows
end Go.Proofs.YtehkaiohmcenbaaDoor
