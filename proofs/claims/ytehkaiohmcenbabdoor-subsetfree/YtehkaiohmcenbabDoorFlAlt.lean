/-
  An expression read part by part: oneOf.
-/
import Derived.Test.YtehkaiohmcenbabDoorGJ
import Derived.Deep.CutRange
import Derived.Deep.RegionLaw
namespace Go.Proofs.YtehkaiohmcenbabDoor
open Go.RowKit Go.Shelf
set_option linter.unusedVariables false

end Go.Proofs.YtehkaiohmcenbabDoor
