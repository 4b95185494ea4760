/-
  The functions of the program's tables: each is one composite.
-/
import Derived.Test.YtpmlbdfdiebkcaaDoorTable
import Derived.Test.YtpmlbdfdiebkcaaDoorData
namespace Go.Proofs.YtpmlbdfdiebkcaaDoor
open Go.RowKit
set_option linter.unusedVariables false

def cellsS (l : List Sp) : List Value := l.flatMap fun s => [.int .i64 s.1, .int .i64 s.2]
/-- A slice of ranges, made in a world. -/
def spanV (w : World) (l : List Sp) : Value := .slice (some ⟨w.heap.size, 0, none⟩) l.length l.length
def spanW (w : World) (l : List Sp) : World := w.alloc (.cells (cellsS l).toArray 110)
def spanG (l : List Sp) : World → Value × World := fun w => (spanV w l, spanW w l)
/-- Slices of ranges, made one behind the other; the row of their values. -/
def spansW : World → List (List Sp) → World
  | w, [] => w
  | w, l :: LL => spansW (spanW w l) LL
def spansV : World → List (List Sp) → List Value
  | _, [] => []
  | w, l :: LL => spanV w l :: spansV (spanW w l) LL
def listsV (w : World) (LL : List (List Sp)) : Value := .slice (some ⟨(spansW w LL).heap.size, 0, none⟩) (LL.length + 1) (LL.length + 1)
def listsW (w : World) (LL : List (List Sp)) : World := (spansW w LL).alloc (.cells (Value.slice none 0 0 :: spansV w LL).toArray 79)
def noTab : Tab := fun _ => none
theorem noTab_ok (P : Program) : TabOk P noTab := fun f g h => by cases h

set_option maxRecDepth 1000000 in
theorem pictures_any (w : World) : Calls Tryd.prog 49 #[] w fun e w' => e = .returned (spanV w picL) ∧ w' = spanW w picL :=
  calls_table (noTab_ok _) Tryd.func49 rfl rfl (by kernel_rfl)
set_option maxRecDepth 1000000 in
theorem marks_any (w : World) : Calls Tryd.prog 66 #[] w fun e w' => e = .returned (spanV w marksL) ∧ w' = spanW w marksL :=
  calls_table (noTab_ok _) Tryd.func66 rfl rfl (by kernel_rfl)
set_option maxRecDepth 1000000 in
theorem letters_any (w : World) : Calls Tryd.prog 67 #[] w fun e w' => e = .returned (spanV w lettersL) ∧ w' = spanW w lettersL :=
  calls_table (noTab_ok _) Tryd.func67 rfl rfl (by kernel_rfl)
set_option maxRecDepth 1000000 in
theorem clusters_any (w : World) : Calls Tryd.prog 46 #[] w fun e w' => e = .returned (listsV w clLL) ∧ w' = listsW w clLL :=
  calls_table (noTab_ok _) Tryd.func46 rfl rfl (by kernel_rfl)
def wdTab : Tab := fun f => if f = 66 then some (spanG marksL) else if f = 67 then some (spanG lettersL) else none
theorem wdTab_ok : TabOk Tryd.prog wdTab := fun f g h w => by
  unfold wdTab at h
  split at h
  · rename_i e; cases h; subst e; exact marks_any w
  · split at h
    · rename_i e; cases h; subst e; exact letters_any w
    · cases h
set_option maxRecDepth 1000000 in
theorem words_any (w : World) : Calls Tryd.prog 47 #[] w fun e w' => e = .returned (listsV w wdLL) ∧ w' = listsW w wdLL :=
  calls_table wdTab_ok Tryd.func47 rfl rfl (by kernel_rfl)
end Go.Proofs.YtpmlbdfdiebkcaaDoor
