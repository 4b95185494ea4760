/-
  DERIVED. GIVEN WITH THE SEED: THE CARDS: each row of YtmhligcmcfikfabDoorRows.lean that lists a variable, with what it lists TIED to the program's text (the seventh form; the later family's looks); each row that meets fmt, with fmt's text TOLD by the authors' own Lean function (tested against real Go, not proved from fmt's source: count such statements apart). THE CARD IS WHAT COUNTS. Prove the row's statement (the work); the ties are given (YtmhligcmcfikfabDoorTie.lean); close each card by the builder's one call (the guide's Derived/Test/ToyasCard.lean, 'card_holds'). Laid BY PROGRAM, IN A SANDBOX (cutbox-door.mjs). By AI agents, Wed Nov 11 2026. No macro, syntax, notation, axiom, sorry.
-/
import Derived.Test.YtmhligcmcfikfabDoorRows
import GoSem.ClaimSeven
namespace Go.Proofs.YtmhligcmcfikfabDoor
namespace Rows

/-- THE TIED CARD OF 'scansionlaw05.ClusterLocal'. -/
def clusterLocalCard : Claim7 := { stood := { row := clusterLocalRow, standIns := [], harness := (true, "e00ed74e63b3a2149f63454274a99ad33b64eefa4ecb705db660e0689d8d950e"), looks := false }, kinds := [], alts := [], laidByText := true, laidKinds := [.data], laidTests := true, laidLooks := .later }
def ClusterLocalCardSaid : Prop := Claim7.holds Tryd.pinned (.plain (OpenSpec.ofChange clusterLocalSpec)) clusterLocalCard

/-- THE SECOND FORM's CARD OF 'scansionlaw05.ClusterLocal'. -/
def clusterLocalUptoCard : Claim7 := { stood := { row := clusterLocalUptoRow, standIns := [], harness := (true, "e00ed74e63b3a2149f63454274a99ad33b64eefa4ecb705db660e0689d8d950e"), looks := false }, kinds := [], alts := [], laidByText := true, laidKinds := [.data], laidTests := true, laidLooks := .later }
def ClusterLocalUptoCardSaid : Prop := Claim7.holds Tryd.pinned (.plain (OpenSpec.upto clusterLocalSpec)) clusterLocalUptoCard
end Rows
end Go.Proofs.YtmhligcmcfikfabDoor
