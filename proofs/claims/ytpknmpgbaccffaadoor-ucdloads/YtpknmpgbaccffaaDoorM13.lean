/-
  Proved: scansionlaw04.UcdLoads returns true for all slices of ints (any length, nil too) and every int, and the arguments read as before; the table ucd.scripts holds what the program's text lays (the card ties it).
-/
import Derived.Test.YtpknmpgbaccffaaDoorM7
import Derived.Test.YtpknmpgbaccffaaDoorM4
import Derived.WalkKit
import Derived.ProofKit
import Derived.OpenShut
import Derived.ChangeOld
import Derived.Below
import Derived.Deep.DeepHandedRow
import Derived.Lib.LaidTab
import Derived.Test.YtpknmpgbaccffaaDoorCards
import Derived.Test.YtpknmpgbaccffaaDoorTie
import Derived.Test.YtpknmpgbaccffaaDoorM12
import Derived.Test.YtpknmpgbaccffaaDoorM11
namespace Go.Proofs.YtpknmpgbaccffaaDoor
open Go.ChangeShapes Go.WideShapes Go.ChangeAt Go.RowKit
set_option linter.unusedVariables false

theorem gScr : Tryd.prog.globalNamed "scansion/ucd.scripts" = some 0 := by kernel_rfl
theorem gScrType : (Tryd.prog.globals[0]?).map (·.type) = some 100 := by kernel_rfl
theorem cellsScr : Tryd.prog.cellsOf 100 = 72 := by kernel_rfl
def datP {H : Type} (p : Pp) : DataW H := .agg [.lit (.int .i64 p.lo), .lit (.int .i64 p.hi), .lit (.int .u8 p.v)]
/-- An array of entries that reads as a list of them holds their cells. -/
theorem cells_of_props {H : Type} {enc : TypeId × Value → H} {W : World} {base : Nat} {sp : Nat → Bool} {held : Bool} {fuel : Nat} {cs : List Value} {l : List Pp} {q : List MemPlace}
    (h : DataW.trod enc Tryd.prog W base sp held fuel 100 cs = some (.agg (l.map datP), q)) : ∀ i, (hi : i < l.length) → i < 24 → (cs.drop (i * 3)).take 3 = cellsP l[i] := by
  cases fuel with
  | zero => simp [DataW.trod] at h
  | succ fuel =>
    simp only [DataW.trod, Tryd.undScr, Tryd.cellsProp, cellsScr] at h
    split at h
    · rename_i hl
      obtain ⟨xs, hm, hx⟩ := Option.map_eq_some_iff.1 h
      have hxs : xs.map (·.1) = (l.map datP : List (DataW H)) := by
        have := congrArg Prod.fst hx
        simpa using this
      intro i hi hi4
      obtain ⟨b, hb, hf⟩ := Lib.mapM_at hm i i (by simp [hi4])
      obtain ⟨p, hc, _, _, _, hbx⟩ := open_cells hf
      have h2 : (xs.map (·.1))[i]? = some (datP p : DataW H) := by simp [hb, hbx, datP]
      rw [hxs, List.getElem?_map, List.getElem?_eq_getElem hi] at h2
      have h3 : (datP l[i] : DataW H) = datP p := by simpa using h2
      have h4 : l[i] = p := by
        unfold datP at h3
        cases hp : l[i]; cases p
        rw [hp] at h3
        simpa using h3
      rw [h4]; exact hc
    · cases h
theorem laid_datum {H : Type} : (Rows.laid_scansion_ucd_scripts : DataW H) = .agg (scP.map datP) := rfl
/-- What the rows' list gives. -/
theorem scripts_of {W : World} (h : laidMetH Tryd.prog [("scansion/ucd.scripts", Rows.laid_scansion_ucd_scripts)] W) : Scripts W := by
  have h' : laidMet Tryd.prog [("scansion/ucd.scripts", Rows.laid_scansion_ucd_scripts)] W := h
  obtain ⟨ps, ⟨g', t', cs, fuel, p, q, hg', ht', hvar, hd, _, _⟩, _⟩ := h'
  obtain rfl := Option.some.inj (gScr.symm.trans hg')
  obtain rfl := Option.some.inj (gScrType.symm.trans ht')
  rw [laid_datum] at hd
  have hc := cells_of_props hd
  intro j u hj
  have hjl : j < 72 := by have := (List.getElem?_eq_some_iff.1 hj).1; rw [cellsPs_length, scP_len] at this; omega
  have hj3 : j = j / 3 * 3 + j % 3 := by omega
  have hi : j / 3 < scP.length := by rw [scP_len]; omega
  rw [hj3, cellsPs_at scP (j / 3) (j % 3) hi (by omega)] at hj
  have h1 := World.var?_cell gScr hvar j
  rw [Nat.zero_add, h1]
  have h2 := hc (j / 3) hi (by omega)
  rw [← h2, List.getElem?_take, if_pos (by omega), List.getElem?_drop] at hj
  rw [← hj3] at hj
  simpa using hj
theorem scripts_pos {W : World} (h : Scripts W) : 0 < W.heap.size := by
  have := h 0 (.int .i64 11904) rfl
  rcases Nat.eq_zero_or_pos W.heap.size with e | e
  · have hn : W.heap[0]? = none := Array.getElem?_eq_none (by omega)
    simp [World.cell?, hn] at this
  · exact e
/-- The table laid into a world's block 0: for the witnesses. -/
def withTable (W : World) : World :=
  { W with heap := W.heap.modify 0 fun
      | .cells _ t frozen => .cells (cellsPs scP).toArray t frozen
      | o => o }
end Go.Proofs.YtpknmpgbaccffaaDoor

namespace Go.Proofs.YtpknmpgbaccffaaDoor.ucdLoads
open Go.ChangeShapes Go.WideShapes Go.ChangeAt Go.RowKit
set_option linter.unusedVariables false

/-- WHAT THE WALK GIVES, FOR EVERY ARGUMENT AND EVERY WORLD THAT HOLDS THE TABLE. -/
theorem contract (H : Type) (enc : TypeId × Value → H) (W : World) (base : Nat) (args : Array Value) (ds gs : List (DataW H)) (before : List MemPlace)
    (hval : ∀ (j : Nat) t v, Tryd.f5.params[j]? = some t → args[j]? = some v → Value.okWide Tryd.prog W .any base t v)
    (hW : DataW.Whole enc Tryd.prog Tryd.f5.params.toList Rows.ucdLoadsSpec.vars false W args.toList ds gs before) (hL : laidMetH Tryd.prog Rows.ucdLoadsRow.laid W) :
    Calls Tryd.prog 5 args W fun e W' => ∃ v, e = .returned v ∧ Rows.ucdLoadsSpec.post enc Tryd.prog Tryd.f5 false true false false W args v W' := by
  have hm : Scripts W := scripts_of hL
  have hW' := hW
  obtain ⟨p, q, hA0, hV, rfl, hfz, hnd⟩ := hW
  have hA : DataW.TrodAll enc Tryd.prog W 0 (fun _ => true) true Tryd.f5.params.toList args.toList ds p := hA0
  rw [Tryd.params5] at hA hval
  obtain ⟨v0, vs0, d0, ds0, p0, q0, hargs, rfl, rfl, h0, r0⟩ := trodAll_cons hA
  obtain ⟨v1, vs1, d1, ds1, p1, q1, rfl, rfl, rfl, h1, r1⟩ := trodAll_cons r0
  obtain ⟨v2, vs2, d2, ds2, p2, q2, rfl, rfl, rfl, h2, r2⟩ := trodAll_cons r1
  obtain ⟨rfl, rfl, rfl⟩ := trodAll_nil r2
  obtain rfl : args = #[v0, v1, v2] := by cases args; simp_all
  obtain ⟨rfl, rfl⟩ := trodVars_none hV
  obtain ⟨a0, len0, cap0, rfl⟩ := okWide_slice Tryd.underlying22 (hval 0 22 v0 rfl rfl)
  have k0 := h0
  have lt0 : ∀ x ∈ p0, x.block < W.heap.size := by obtain ⟨m, hm'⟩ := k0; exact DataW.trod_lt m _ _ _ hm'
  obtain ⟨l0, hl0, w0⟩ := open_intsS h0
  obtain ⟨a1, rfl, rfl, rfl, w1⟩ := open_int Tryd.underlying3 (hval 1 3 v1 rfl rfl) h1
  obtain ⟨a2, len2, cap2, rfl⟩ := okWide_slice Tryd.underlying22 (hval 2 22 v2 rfl rfl)
  have k2 := h2
  have lt2 : ∀ x ∈ p2, x.block < W.heap.size := by obtain ⟨m, hm'⟩ := k2; exact DataW.trod_lt m _ _ _ hm'
  obtain ⟨l2, hl2, w2⟩ := open_intsS h2
  clear hA0
  refine (ucdLoads_any l0 _ a1 l2 _ W w0 w2 hm (scripts_pos hm)).mono fun e W' ⟨he, bel⟩ => ?_
  subst he
  exact ⟨_, rfl, _, _, _, [], _, [], hW', trodAll_mk1 (shut_bool Tryd.underlying4 _), (trodAll_cons_mk (Below.trod laidOut (by kernel_rfl) (of_decide_eq_true (by kernel_rfl)) k0 bel lt0) (trodAll_cons_mk (shut_int Tryd.underlying3 w1) (trodAll_cons_mk (Below.trod laidOut (by kernel_rfl) (of_decide_eq_true (by kernel_rfl)) k2 bel lt2) trodAll_mk0))), rfl, bel.frame _, fun h => by cases h⟩

theorem laid_met (os : Os) : laidMet Tryd.prog Rows.ucdLoadsRow.laid ((withTable (World.holding Tryd.prog os ⟨#[], #[], []⟩)).forCall (fun _ _ => 0) ⟨#[], #[.slice none 0 0, .int .i64 0, .slice none 0 0], []⟩).memory :=
  laidMet_of_run' 8 (by kernel_rfl) (by kernel_rfl)
theorem reads (os : Os) {H : Type} (enc : TypeId × Value → H) : ∃ ds places, DataW.whole enc Tryd.prog ((withTable (World.holding Tryd.prog os ⟨#[], #[], []⟩)).forCall (fun _ _ => 0) ⟨#[], #[.slice none 0 0, .int .i64 0, .slice none 0 0], []⟩).memory Tryd.f5.params.toList Rows.ucdLoadsSpec.vars false #[Value.slice none 0 0, .int .i64 0, .slice none 0 0].toList 8 = some (ds, [], places) :=
  ⟨[.nil, .lit (.int .i64 0), .nil], [], by kernel_rfl⟩

set_option maxRecDepth 100000 in
theorem lifted (os : Os) (started : os.Started) (H : Type) (enc : TypeId × Value → H) (F : Stop.Interp) :
    ReturnsInHanded {} Tryd.checked os 5 .any ((OpenSpec.ofChange Rows.ucdLoadsSpec).preRow enc Tryd.prog Tryd.f5 Rows.ucdLoadsRow.domain false Rows.ucdLoadsRow.laid) (((OpenSpec.ofChange Rows.ucdLoadsSpec).at F).post enc Tryd.prog Tryd.f5 false true false false) := by
  obtain ⟨ds0, places, hx⟩ := reads os enc
  refine returnsInHanded_of_row (C := Tryd.checked) (s := OpenSpec.ofChange Rows.ucdLoadsSpec) own started (by kernel_rfl) Tryd.func5
    (witness_row_at (enc := enc) (C := Tryd.checked) false (withTable (World.holding Tryd.prog os ⟨#[], #[], []⟩)) #[.slice none 0 0, .int .i64 0, .slice none 0 0] rfl (by kernel_rfl) (by kernel_rfl) (by kernel_rfl)
      (OpenSpec.preRow_of_cond 8 hx (by kernel_rfl) (fun k hk => by cases hk) (by kernel_rfl) (laid_met os))) ?_
  intro W base args ds gs before hval hW _ _ _ hL _ _
  exact contract H enc W base args ds gs before hval hW hL

theorem said : Rows.UcdLoadsSaid :=
  OpenClaim.holds_of_cond 5 Tryd.f5 rfl rfl rfl rfl rfl rfl rfl ⟨rfl, rfl, rfl, rfl, rfl⟩ rfl rfl rfl rfl rfl (by kernel_rfl) Tryd.func5 (by kernel_rfl)
    (of_decide_eq_true (by kernel_rfl)) (by unfold Func.isWrapper; first | (rw [if_pos (by decide +kernel)]; kernel_rfl) | (rw [if_neg (by decide +kernel)]; exact ⟨rfl, rfl⟩))
    (fun os started H enc _ F => by rw [OpenClaim.pre_eq_preRow]; exact lifted os started H enc F)

/-- No parameter wants a stand-in; the program's own looks are off: what the card asks. -/
theorem plain (f : FuncId) (fn : Func) (hf : Tryd.pinned.checked.prog.funcNamed "scansion/scansionlaw04.UcdLoads" = some f) (hfn : Tryd.pinned.checked.prog.funcs[f]? = some fn) :
    false = Tryd.pinned.checked.prog.looks [] ∧ ∀ (j : Nat) t, fn.params[j]? = some t → Tryd.pinned.checked.prog.wantsStandIn t = false := by
  obtain rfl : f = 5 := Option.some.inj ((show Tryd.prog.funcNamed "scansion/scansionlaw04.UcdLoads" = some 5 by kernel_rfl).symm.trans hf) |>.symm
  obtain rfl : fn = Tryd.f5 := (Option.some.inj (Tryd.func5.symm.trans hfn)).symm
  refine ⟨by kernel_rfl, fun j t ht => ?_⟩
  rw [Tryd.params5] at ht
  have hm := Array.mem_of_getElem? ht
  simp at hm
  rcases hm with rfl | rfl | rfl
  · exact (show Tryd.prog.wantsStandIn 22 = false by kernel_rfl)
  · exact (show Tryd.prog.wantsStandIn 3 = false by kernel_rfl)
  · exact (show Tryd.prog.wantsStandIn 22 = false by kernel_rfl)

/-- THE CARD. -/
theorem card : Rows.UcdLoadsCardSaid :=
  Claim7.holds_tied_plain_at .later [] _ _ _ _ said (fun _ h => by cases h) (by kernel_rfl) (fun _ h => by cases h) ucdLoads_row_tie rfl ⟨rfl, rfl⟩ (by kernel_rfl) rfl plain (by kernel_rfl)
end Go.Proofs.YtpknmpgbaccffaaDoor.ucdLoads
namespace Go.Proofs.YtpknmpgbaccffaaDoor
theorem ucdLoads_proved : Rows.UcdLoadsCardSaid := ucdLoads.card
end Go.Proofs.YtpknmpgbaccffaaDoor
