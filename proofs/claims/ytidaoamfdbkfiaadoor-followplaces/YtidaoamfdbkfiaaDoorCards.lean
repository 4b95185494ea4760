/-
  DERIVED. GIVEN WITH THE SEED: THE CARDS: each row of YtidaoamfdbkfiaaDoorRows.lean that lists a variable, with what it lists TIED to the program's text (the seventh form; the later family's looks); each row that meets fmt, with fmt's text TOLD by the authors' own Lean function (tested against real Go, not proved from fmt's source: count such statements apart). THE CARD IS WHAT COUNTS. Prove the row's statement (the work); the ties are given (YtidaoamfdbkfiaaDoorTie.lean); close each card by the builder's one call (the guide's Derived/Test/ToyasCard.lean, 'card_holds'). Laid BY PROGRAM, IN A SANDBOX (cutbox-door.mjs). By AI agents, Wed Nov 11 2026. No macro, syntax, notation, axiom, sorry.
-/
import Derived.Test.YtidaoamfdbkfiaaDoorRows
import GoSem.ClaimSeven
namespace Go.Proofs.YtidaoamfdbkfiaaDoor
namespace Rows

/-- THE TIED CARD OF 'scansionlaw11.FollowBuilds'. -/
def followBuildsCard : Claim7 := { stood := { row := followBuildsRow, standIns := [], harness := (true, "c4a4802c67c04845a61ac24b5859e47857c33408a7fc4f3b300fba893674e0af"), looks := false }, kinds := [], alts := [], laidByText := true, laidKinds := [.data], laidTests := true, laidLooks := .later }
def FollowBuildsCardSaid : Prop := Claim7.holds Tryd.pinned (.plain (OpenSpec.ofChange followBuildsSpec)) followBuildsCard

/-- THE TIED CARD OF 'scansionlaw11.FollowSteps'. -/
def followStepsCard : Claim7 := { stood := { row := followStepsRow, standIns := [], harness := (true, "c4a4802c67c04845a61ac24b5859e47857c33408a7fc4f3b300fba893674e0af"), looks := false }, kinds := [], alts := [], laidByText := true, laidKinds := [.data], laidTests := true, laidLooks := .later }
def FollowStepsCardSaid : Prop := Claim7.holds Tryd.pinned (.plain (OpenSpec.ofChange followStepsSpec)) followStepsCard

/-- THE TIED CARD OF 'scansionlaw11.FollowWords'. -/
def followWordsCard : Claim7 := { stood := { row := followWordsRow, standIns := [], harness := (true, "c4a4802c67c04845a61ac24b5859e47857c33408a7fc4f3b300fba893674e0af"), looks := false }, kinds := [], alts := [], laidByText := true, laidKinds := [.data], laidTests := true, laidLooks := .later }
def FollowWordsCardSaid : Prop := Claim7.holds Tryd.pinned (.plain (OpenSpec.ofChange followWordsSpec)) followWordsCard

/-- THE TIED CARD OF 'scansionlaw11.FollowPlaces'. -/
def followPlacesCard : Claim7 := { stood := { row := followPlacesRow, standIns := [], harness := (true, "c4a4802c67c04845a61ac24b5859e47857c33408a7fc4f3b300fba893674e0af"), looks := false }, kinds := [], alts := [], laidByText := true, laidKinds := [.data], laidTests := true, laidLooks := .later }
def FollowPlacesCardSaid : Prop := Claim7.holds Tryd.pinned (.plain (OpenSpec.ofChange followPlacesSpec)) followPlacesCard

/-- THE TIED CARD OF 'scansionlaw11.FollowTurns'. -/
def followTurnsCard : Claim7 := { stood := { row := followTurnsRow, standIns := [], harness := (true, "c4a4802c67c04845a61ac24b5859e47857c33408a7fc4f3b300fba893674e0af"), looks := false }, kinds := [], alts := [], laidByText := true, laidKinds := [.data], laidTests := true, laidLooks := .later }
def FollowTurnsCardSaid : Prop := Claim7.holds Tryd.pinned (.plain (OpenSpec.ofChange followTurnsSpec)) followTurnsCard

/-- THE SECOND FORM's CARD OF 'scansionlaw11.FollowBuilds'. -/
def followBuildsUptoCard : Claim7 := { stood := { row := followBuildsUptoRow, standIns := [], harness := (true, "c4a4802c67c04845a61ac24b5859e47857c33408a7fc4f3b300fba893674e0af"), looks := false }, kinds := [], alts := [], laidByText := true, laidKinds := [.data], laidTests := true, laidLooks := .later }
def FollowBuildsUptoCardSaid : Prop := Claim7.holds Tryd.pinned (.plain (OpenSpec.upto followBuildsSpec)) followBuildsUptoCard

/-- THE SECOND FORM's CARD OF 'scansionlaw11.FollowSteps'. -/
def followStepsUptoCard : Claim7 := { stood := { row := followStepsUptoRow, standIns := [], harness := (true, "c4a4802c67c04845a61ac24b5859e47857c33408a7fc4f3b300fba893674e0af"), looks := false }, kinds := [], alts := [], laidByText := true, laidKinds := [.data], laidTests := true, laidLooks := .later }
def FollowStepsUptoCardSaid : Prop := Claim7.holds Tryd.pinned (.plain (OpenSpec.upto followStepsSpec)) followStepsUptoCard

/-- THE SECOND FORM's CARD OF 'scansionlaw11.FollowWords'. -/
def followWordsUptoCard : Claim7 := { stood := { row := followWordsUptoRow, standIns := [], harness := (true, "c4a4802c67c04845a61ac24b5859e47857c33408a7fc4f3b300fba893674e0af"), looks := false }, kinds := [], alts := [], laidByText := true, laidKinds := [.data], laidTests := true, laidLooks := .later }
def FollowWordsUptoCardSaid : Prop := Claim7.holds Tryd.pinned (.plain (OpenSpec.upto followWordsSpec)) followWordsUptoCard

/-- THE SECOND FORM's CARD OF 'scansionlaw11.FollowPlaces'. -/
def followPlacesUptoCard : Claim7 := { stood := { row := followPlacesUptoRow, standIns := [], harness := (true, "c4a4802c67c04845a61ac24b5859e47857c33408a7fc4f3b300fba893674e0af"), looks := false }, kinds := [], alts := [], laidByText := true, laidKinds := [.data], laidTests := true, laidLooks := .later }
def FollowPlacesUptoCardSaid : Prop := Claim7.holds Tryd.pinned (.plain (OpenSpec.upto followPlacesSpec)) followPlacesUptoCard

/-- THE SECOND FORM's CARD OF 'scansionlaw11.FollowTurns'. -/
def followTurnsUptoCard : Claim7 := { stood := { row := followTurnsUptoRow, standIns := [], harness := (true, "c4a4802c67c04845a61ac24b5859e47857c33408a7fc4f3b300fba893674e0af"), looks := false }, kinds := [], alts := [], laidByText := true, laidKinds := [.data], laidTests := true, laidLooks := .later }
def FollowTurnsUptoCardSaid : Prop := Claim7.holds Tryd.pinned (.plain (OpenSpec.upto followTurnsSpec)) followTurnsUptoCard
end Rows
end Go.Proofs.YtidaoamfdbkfiaaDoor
