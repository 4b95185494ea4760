/-
  DERIVED. GIVEN WITH THE SEED: THE CARDS: each row of YtmhligcmcfikfaaDoorRows.lean that lists a variable, with what it lists TIED to the program's text (the seventh form; the later family's looks); each row that meets fmt, with fmt's text TOLD by the authors' own Lean function (tested against real Go, not proved from fmt's source: count such statements apart). THE CARD IS WHAT COUNTS. Prove the row's statement (the work); the ties are given (YtmhligcmcfikfaaDoorTie.lean); close each card by the builder's one call (the guide's Derived/Test/ToyasCard.lean, 'card_holds'). Laid BY PROGRAM, IN A SANDBOX (cutbox-door.mjs). By AI agents, Wed Nov 11 2026. No macro, syntax, notation, axiom, sorry.
-/
import Derived.Test.YtmhligcmcfikfaaDoorRows
import GoSem.ClaimSeven
namespace Go.Proofs.YtmhligcmcfikfaaDoor
namespace Rows

/-- THE TIED CARD OF 'scansionlaw05.ClusterBreaks'. -/
def clusterBreaksCard : Claim7 := { stood := { row := clusterBreaksRow, standIns := [], harness := (true, "898304f81f9ac5fe45d75f299a7709f123bc58c32daf872778edc8f597bcfad0"), looks := false }, kinds := [], alts := [], laidByText := true, laidKinds := [.data], laidTests := true, laidLooks := .later }
def ClusterBreaksCardSaid : Prop := Claim7.holds Tryd.pinned (.plain (OpenSpec.ofChange clusterBreaksSpec)) clusterBreaksCard

/-- THE TIED CARD OF 'scansionlaw05.ClusterAsks'. -/
def clusterAsksCard : Claim7 := { stood := { row := clusterAsksRow, standIns := [], harness := (true, "898304f81f9ac5fe45d75f299a7709f123bc58c32daf872778edc8f597bcfad0"), looks := false }, kinds := [], alts := [], laidByText := true, laidKinds := [.data], laidTests := true, laidLooks := .later }
def ClusterAsksCardSaid : Prop := Claim7.holds Tryd.pinned (.plain (OpenSpec.ofChange clusterAsksSpec)) clusterAsksCard

/-- THE TIED CARD OF 'scansionlaw05.ClusterParts'. -/
def clusterPartsCard : Claim7 := { stood := { row := clusterPartsRow, standIns := [], harness := (true, "898304f81f9ac5fe45d75f299a7709f123bc58c32daf872778edc8f597bcfad0"), looks := false }, kinds := [], alts := [], laidByText := true, laidKinds := [.data], laidTests := true, laidLooks := .later }
def ClusterPartsCardSaid : Prop := Claim7.holds Tryd.pinned (.plain (OpenSpec.ofChange clusterPartsSpec)) clusterPartsCard

/-- THE TIED CARD OF 'scansionlaw05.ClusterControls'. -/
def clusterControlsCard : Claim7 := { stood := { row := clusterControlsRow, standIns := [], harness := (true, "898304f81f9ac5fe45d75f299a7709f123bc58c32daf872778edc8f597bcfad0"), looks := false }, kinds := [], alts := [], laidByText := true, laidKinds := [.data], laidTests := true, laidLooks := .later }
def ClusterControlsCardSaid : Prop := Claim7.holds Tryd.pinned (.plain (OpenSpec.ofChange clusterControlsSpec)) clusterControlsCard

/-- THE TIED CARD OF 'scansionlaw05.ClusterMarks'. -/
def clusterMarksCard : Claim7 := { stood := { row := clusterMarksRow, standIns := [], harness := (true, "898304f81f9ac5fe45d75f299a7709f123bc58c32daf872778edc8f597bcfad0"), looks := false }, kinds := [], alts := [], laidByText := true, laidKinds := [.data], laidTests := true, laidLooks := .later }
def ClusterMarksCardSaid : Prop := Claim7.holds Tryd.pinned (.plain (OpenSpec.ofChange clusterMarksSpec)) clusterMarksCard

/-- THE TIED CARD OF 'scansionlaw05.ClusterFlags'. -/
def clusterFlagsCard : Claim7 := { stood := { row := clusterFlagsRow, standIns := [], harness := (true, "898304f81f9ac5fe45d75f299a7709f123bc58c32daf872778edc8f597bcfad0"), looks := false }, kinds := [], alts := [], laidByText := true, laidKinds := [.data], laidTests := true, laidLooks := .later }
def ClusterFlagsCardSaid : Prop := Claim7.holds Tryd.pinned (.plain (OpenSpec.ofChange clusterFlagsSpec)) clusterFlagsCard

/-- THE SECOND FORM's CARD OF 'scansionlaw05.ClusterBreaks'. -/
def clusterBreaksUptoCard : Claim7 := { stood := { row := clusterBreaksUptoRow, standIns := [], harness := (true, "898304f81f9ac5fe45d75f299a7709f123bc58c32daf872778edc8f597bcfad0"), looks := false }, kinds := [], alts := [], laidByText := true, laidKinds := [.data], laidTests := true, laidLooks := .later }
def ClusterBreaksUptoCardSaid : Prop := Claim7.holds Tryd.pinned (.plain (OpenSpec.upto clusterBreaksSpec)) clusterBreaksUptoCard

/-- THE SECOND FORM's CARD OF 'scansionlaw05.ClusterAsks'. -/
def clusterAsksUptoCard : Claim7 := { stood := { row := clusterAsksUptoRow, standIns := [], harness := (true, "898304f81f9ac5fe45d75f299a7709f123bc58c32daf872778edc8f597bcfad0"), looks := false }, kinds := [], alts := [], laidByText := true, laidKinds := [.data], laidTests := true, laidLooks := .later }
def ClusterAsksUptoCardSaid : Prop := Claim7.holds Tryd.pinned (.plain (OpenSpec.upto clusterAsksSpec)) clusterAsksUptoCard

/-- THE SECOND FORM's CARD OF 'scansionlaw05.ClusterParts'. -/
def clusterPartsUptoCard : Claim7 := { stood := { row := clusterPartsUptoRow, standIns := [], harness := (true, "898304f81f9ac5fe45d75f299a7709f123bc58c32daf872778edc8f597bcfad0"), looks := false }, kinds := [], alts := [], laidByText := true, laidKinds := [.data], laidTests := true, laidLooks := .later }
def ClusterPartsUptoCardSaid : Prop := Claim7.holds Tryd.pinned (.plain (OpenSpec.upto clusterPartsSpec)) clusterPartsUptoCard

/-- THE SECOND FORM's CARD OF 'scansionlaw05.ClusterControls'. -/
def clusterControlsUptoCard : Claim7 := { stood := { row := clusterControlsUptoRow, standIns := [], harness := (true, "898304f81f9ac5fe45d75f299a7709f123bc58c32daf872778edc8f597bcfad0"), looks := false }, kinds := [], alts := [], laidByText := true, laidKinds := [.data], laidTests := true, laidLooks := .later }
def ClusterControlsUptoCardSaid : Prop := Claim7.holds Tryd.pinned (.plain (OpenSpec.upto clusterControlsSpec)) clusterControlsUptoCard

/-- THE SECOND FORM's CARD OF 'scansionlaw05.ClusterMarks'. -/
def clusterMarksUptoCard : Claim7 := { stood := { row := clusterMarksUptoRow, standIns := [], harness := (true, "898304f81f9ac5fe45d75f299a7709f123bc58c32daf872778edc8f597bcfad0"), looks := false }, kinds := [], alts := [], laidByText := true, laidKinds := [.data], laidTests := true, laidLooks := .later }
def ClusterMarksUptoCardSaid : Prop := Claim7.holds Tryd.pinned (.plain (OpenSpec.upto clusterMarksSpec)) clusterMarksUptoCard

/-- THE SECOND FORM's CARD OF 'scansionlaw05.ClusterFlags'. -/
def clusterFlagsUptoCard : Claim7 := { stood := { row := clusterFlagsUptoRow, standIns := [], harness := (true, "898304f81f9ac5fe45d75f299a7709f123bc58c32daf872778edc8f597bcfad0"), looks := false }, kinds := [], alts := [], laidByText := true, laidKinds := [.data], laidTests := true, laidLooks := .later }
def ClusterFlagsUptoCardSaid : Prop := Claim7.holds Tryd.pinned (.plain (OpenSpec.upto clusterFlagsSpec)) clusterFlagsUptoCard
end Rows
end Go.Proofs.YtmhligcmcfikfaaDoor
