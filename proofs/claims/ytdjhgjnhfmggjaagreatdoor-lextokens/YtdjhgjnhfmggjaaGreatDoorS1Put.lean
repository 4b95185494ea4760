/-
  What utf.put answers: the bytes of a code point, behind what is owned.
-/
import Derived.Test.YtdjhgjnhfmggjaaGreatDoorS1Size
import Derived.OwnWalk
import Derived.Outline
import Derived.Maps.AppendAt
import Derived.Deep.RegionHeld3
import Derived.Deep.AppendLies
namespace Go.Proofs.YtdjhgjnhfmggjaaGreatDoor.S1
open Go.RowKit
set_option linter.unusedVariables false

theorem Tryz.infoByte : (Tryz.prog.info? 5).map (fun i => (i.zero, i.size, i.bytes)) = some (some (.int .u8 0), 1, 1) := by kernel_rfl

/-- The table of the first bytes' marks, as the program's text lays it. -/
def Marks (w : World) : Prop := ∀ K, K ≤ 3 → w.cell? ⟨0, K + 1, none⟩ = some (.int .u8 (markOf K))

theorem Marks.below {B : Nat} {w w' : World} (h : Marks w) (hb : Below B w w') (hB : 1 ≤ B) : Marks w' :=
  fun K hK => (hb.cell (p := ⟨0, K + 1, none⟩) (by show 0 < B; omega)).trans (h K hK)

/-- The bytes of a code point, as cells. -/
def encV (r : Int) : List Value := (encR r).map (Value.int .u8)

end Go.Proofs.YtdjhgjnhfmggjaaGreatDoor.S1
