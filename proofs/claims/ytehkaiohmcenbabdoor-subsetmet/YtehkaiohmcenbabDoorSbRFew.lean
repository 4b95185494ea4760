/-
  scansionref12.Few and Right: the document's.
-/
import Derived.Test.YtehkaiohmcenbabDoorGG
import Derived.Test.YtehkaiohmcenbabDoorFlSame
namespace Go.Proofs.YtehkaiohmcenbabDoor
open Go.RowKit Go.Shelf
set_option linter.unusedVariables false

theorem drewN_add (b a : Nat) (w : World) : (w.drewN a).drewN b = w.drewN (a + b) := by simp [World.drewN, Nat.add_assoc]
/-- No more than a test should have. -/
def FewD (N : List (List Int)) (F : List Bool) (M : Nat) : Prop := N.length ≤ M ∧ F.length ≤ M ∧ ∀ i, (h : i < N.length) → N[i].length ≤ M


end Go.Proofs.YtehkaiohmcenbabDoor
