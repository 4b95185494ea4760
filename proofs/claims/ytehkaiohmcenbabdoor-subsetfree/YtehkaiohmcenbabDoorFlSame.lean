/-
  scansionref11.Same, where both are the same.
-/
import Derived.Test.YtehkaiohmcenbabDoorFlLaw
namespace Go.Proofs.YtehkaiohmcenbabDoor
open Go.RowKit Go.Shelf
set_option linter.unusedVariables false

theorem drewN_heap (w : World) : ∀ k, (w.drewN k).heap = w.heap
  | 0 => rfl
  | k + 1 => drewN_heap w.drew k
theorem IntsAt.drewN {w : World} {v : Value} {l : List Int} (h : IntsAt w v l) (k : Nat) : IntsAt (w.drewN k) v l := h.below (below_drewN' (Below.refl _ _) k)


end Go.Proofs.YtehkaiohmcenbabDoor
