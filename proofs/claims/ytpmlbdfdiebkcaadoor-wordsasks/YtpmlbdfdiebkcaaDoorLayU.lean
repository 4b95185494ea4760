/-
  What the rows' listed variable gives: the table of scripts, as the program's text lays it; and a world that holds it.
-/
import Derived.Test.YtpmlbdfdiebkcaaDoorScripts
import Derived.Test.YtpmlbdfdiebkcaaDoorArg3
import Derived.WalkKit
import Derived.ProofKit
import Derived.OpenShut
import Derived.ChangeOld
import Derived.Below
import Derived.Deep.DeepHandedRow
import Derived.Lib.LaidTab
namespace Go.Proofs.YtpmlbdfdiebkcaaDoor
open Go.ChangeShapes Go.WideShapes Go.ChangeAt Go.RowKit
set_option linter.unusedVariables false

theorem gScr : Tryd.prog.globalNamed "scansion/ucd.scripts" = some 0 := by kernel_rfl
theorem gScrType : (Tryd.prog.globals[0]?).map (·.type) = some 111 := by kernel_rfl
theorem cellsScr : Tryd.prog.cellsOf 111 = 72 := by kernel_rfl
def datP {H : Type} (p : Pp) : DataW H := .agg [.lit (.int .i64 p.lo), .lit (.int .i64 p.hi), .lit (.int .u8 p.v)]
/-- An array of entries that reads as a list of them holds their cells. -/
theorem cells_of_props {H : Type} {enc : TypeId × Value → H} {W : World} {base : Nat} {sp : Nat → Bool} {held : Bool} {fuel : Nat} {cs : List Value} {l : List Pp} {q : List MemPlace}
    (h : DataW.trod enc Tryd.prog W base sp held fuel 111 cs = some (.agg (l.map datP), q)) : ∀ i, (hi : i < l.length) → i < 24 → (cs.drop (i * 3)).take 3 = cellsP l[i] := by
  cases fuel with
  | zero => simp [DataW.trod] at h
  | succ fuel =>
    simp only [DataW.trod, Tryd.undScr, Tryd.cellsProp, cellsScr] at h
    split at h
    · rename_i hl
      obtain ⟨xs, hm, hx⟩ := Option.map_eq_some_iff.1 h
      have hxs : xs.map (·.1) = (l.map datP : List (DataW H)) := by
        have := congrArg Prod.fst hx
        simpa using this
      intro i hi hi4
      obtain ⟨b, hb, hf⟩ := Lib.mapM_at hm i i (by simp [hi4])
      obtain ⟨p, hc, _, _, _, hbx⟩ := open_cells hf
      have h2 : (xs.map (·.1))[i]? = some (datP p : DataW H) := by simp [hb, hbx, datP]
      rw [hxs, List.getElem?_map, List.getElem?_eq_getElem hi] at h2
      have h3 : (datP l[i] : DataW H) = datP p := by simpa using h2
      have h4 : l[i] = p := by
        unfold datP at h3
        cases hp : l[i]; cases p
        rw [hp] at h3
        simpa using h3
      rw [h4]; exact hc
    · cases h
theorem laid_datum {H : Type} : (Rows.laid_scansion_ucd_scripts : DataW H) = .agg (scP.map datP) := rfl
/-- What the rows' list gives. -/
theorem scripts_of {W : World} (h : laidMetH Tryd.prog [("scansion/ucd.scripts", Rows.laid_scansion_ucd_scripts)] W) : Scripts W := by
  have h' : laidMet Tryd.prog [("scansion/ucd.scripts", Rows.laid_scansion_ucd_scripts)] W := h
  obtain ⟨ps, ⟨g', t', cs, fuel, p, q, hg', ht', hvar, hd, _, _⟩, _⟩ := h'
  obtain rfl := Option.some.inj (gScr.symm.trans hg')
  obtain rfl := Option.some.inj (gScrType.symm.trans ht')
  rw [laid_datum] at hd
  have hc := cells_of_props hd
  intro j u hj
  have hjl : j < 72 := by have := (List.getElem?_eq_some_iff.1 hj).1; rw [cellsPs_length, scP_len] at this; omega
  have hj3 : j = j / 3 * 3 + j % 3 := by omega
  have hi : j / 3 < scP.length := by rw [scP_len]; omega
  rw [hj3, cellsPs_at scP (j / 3) (j % 3) hi (by omega)] at hj
  have h1 := World.var?_cell gScr hvar j
  rw [Nat.zero_add, h1]
  have h2 := hc (j / 3) hi (by omega)
  rw [← h2, List.getElem?_take, if_pos (by omega), List.getElem?_drop] at hj
  rw [← hj3] at hj
  simpa using hj
theorem scripts_pos {W : World} (h : Scripts W) : 0 < W.heap.size := by
  have := h 0 (.int .i64 11904) rfl
  rcases Nat.eq_zero_or_pos W.heap.size with e | e
  · have hn : W.heap[0]? = none := Array.getElem?_eq_none (by omega)
    simp [World.cell?, hn] at this
  · exact e
/-- The table laid into a world's block 0: for the witnesses. -/
def withTable (W : World) : World :=
  { W with heap := W.heap.modify 0 fun
      | .cells _ t frozen => .cells (cellsPs scP).toArray t frozen
      | o => o }
end Go.Proofs.YtpmlbdfdiebkcaaDoor
