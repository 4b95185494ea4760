/-
  scansionref12.Run: the document's.
-/
import Derived.Test.YtehkaiohmcenbabDoorSbRFew
namespace Go.Proofs.YtehkaiohmcenbabDoor
open Go.RowKit Go.Shelf
set_option linter.unusedVariables false

end Go.Proofs.YtehkaiohmcenbabDoor
