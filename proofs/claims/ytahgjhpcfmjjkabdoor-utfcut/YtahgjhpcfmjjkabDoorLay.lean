/-
  What the rows' listed variable gives: the table of marks, as the program's text lays it; and a world that holds it.
-/
import Derived.Test.YtahgjhpcfmjjkabDoorEnc
import Derived.WalkKit
import Derived.ProofKit
import Derived.OpenShut
import Derived.ChangeOld
import Derived.Below
import Derived.Deep.DeepHandedRow
import Derived.Lib.LaidTab
namespace Go.Proofs.YtahgjhpcfmjjkabDoor
open Go.ChangeShapes Go.WideShapes Go.ChangeAt Go.RowKit
set_option linter.unusedVariables false

theorem own : ownKnob Tryd.prog.godebug = none := by kernel_rfl
theorem laidOut : laidOutB Tryd.prog = true := by kernel_rfl
theorem gTab : Tryd.prog.globalNamed "scansion/utf.headMarks" = some 0 := by kernel_rfl
theorem gTabType : (Tryd.prog.globals[0]?).map (·.type) = some 42 := by kernel_rfl
theorem cellsTab : Tryd.prog.cellsOf 42 = 5 := by kernel_rfl
theorem cellsByte : Tryd.prog.cellsOf 5 = 1 := by kernel_rfl

/-- WHAT THE ROWS' LIST GIVES: the table's cells hold its five numbers. -/
theorem marks_of {W : World} (h : laidMetH Tryd.prog [("scansion/utf.headMarks", Rows.laid_scansion_utf_headMarks)] W) : Marks W := by
  have t : Lib.TabIs Tryd.prog W "scansion/utf.headMarks" .u8 [0, 0, 192, 224, 240] := Lib.tabIs_of_head (rest := []) gTab gTabType Tryd.underlying42 Tryd.underlying5 cellsByte cellsTab h
  intro K hK
  have := t.cell gTab (K + 1) (by simp; omega)
  match K, hK with
  | 0, _ => exact this
  | 1, _ => exact this
  | 2, _ => exact this
  | 3, _ => exact this

theorem marks_pos {W : World} (h : Marks W) : 1 ≤ W.heap.size := by
  have := h 0 (by omega)
  rcases Nat.eq_zero_or_pos W.heap.size with e | e
  · have hn : W.heap[0]? = none := Array.getElem?_eq_none (by omega)
    simp [World.cell?, hn] at this
  · exact e

/-- What the table's initialiser lays, laid into a world's block 0: for the witnesses. -/
def withTable (W : World) : World :=
  { W with heap := W.heap.modify 0 fun
      | .cells _ t frozen => .cells #[.int .u8 0, .int .u8 0, .int .u8 192, .int .u8 224, .int .u8 240] t frozen
      | o => o }
end Go.Proofs.YtahgjhpcfmjjkabDoor
