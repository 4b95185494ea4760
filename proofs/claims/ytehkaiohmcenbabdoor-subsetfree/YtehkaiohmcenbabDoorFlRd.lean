/-
  An expression read part by part: read.
-/
import Derived.Test.YtehkaiohmcenbabDoorFlAlt
namespace Go.Proofs.YtehkaiohmcenbabDoor
open Go.RowKit Go.Shelf
set_option linter.unusedVariables false







end Go.Proofs.YtehkaiohmcenbabDoor
