/-
  Proved: scansionlaw04.UcdSaves returns true for every int, whatever it is, and the argument reads as before; the table ucd.scripts holds what the program's text lays (the card ties it).
-/
import Derived.Test.YtpknmpgbaccffaaDoorM7
import Derived.Test.YtpknmpgbaccffaaDoorM9
import Derived.Test.YtpknmpgbaccffaaDoorM4
import Derived.WalkKit
import Derived.ProofKit
import Derived.OpenShut
import Derived.ChangeOld
import Derived.Below
import Derived.Deep.DeepHandedRow
import Derived.Lib.LaidTab
import Derived.Test.YtpknmpgbaccffaaDoorCards
import Derived.Test.YtpknmpgbaccffaaDoorTie
namespace Go.Proofs.YtpknmpgbaccffaaDoor
open Go.RowKit
set_option linter.unusedVariables false

set_option maxRecDepth 100000 in
set_option maxHeartbeats 8000000 in
theorem ucdSaves_any (r : Int) (w : World) (hs : Scripts w) (h0 : 0 < w.heap.size) :
    Calls Tryd.prog 4 #[.int .i64 r] w fun e w' => e = .returned (.bool true) ∧ Below w.heap.size w w' := by
  have HS : Hid (Scripts w) := hs
  have HH0 : Hid (0 < w.heap.size) := h0
  clear hs h0
  go_enter Tryd.func4, Tryd.ntmps4
  go_wp2_with fail
  refine (awake_u w HS.out HH0.out).mono ?_
  rintro e w0 ⟨rfl, hB0⟩
  have HB0 : Hid (Below w.heap.size w w0) := hB0
  have HS0 : Hid (Scripts w0 ∧ 0 < w0.heap.size) := ⟨HS.out.below HH0.out hB0, by have := HH0.out; have := hB0.size; omega⟩
  clear hB0
  go_wp2_with fail
  refine (new_ship w0 HS0.out.1 HS0.out.2).mono ?_
  rintro e w1 ⟨g, rfl, hd, hB1⟩
  obtain ⟨HD1, HB1⟩ : Hid (Ship w1 g) ∧ Hid (Below w.heap.size w w1) := ⟨hd, HB0.out.trans (hB1.mono HB0.out.size)⟩
  clear hd hB1
  obtain ⟨sv, HSB⟩ : ∃ sv, Hid (SavedBytes sv) := saved_bytesU
  go_wp2_with fail
  refine (ship_save HSB.out w1 g HD1.out).mono ?_
  rintro e w2 ⟨vb, rfl, hy2, hB2⟩
  obtain ⟨a2, c2, rfl, hc2, hl2⟩ := hy2
  obtain ⟨HY2, HB2, HD2⟩ : Hid (BytesAt w2.heap.size w2 (.slice a2 sv.length c2) sv) ∧ Hid (Below w.heap.size w w2) ∧ Hid (Ship w2 g) := ⟨⟨_, c2, rfl, hc2, hl2⟩, HB1.out.trans (hB2.mono HB1.out.size), HD1.out.below hB2⟩
  clear hc2 hl2 hB2
  go_wp2_with fail
  refine (ship_load HSB.out _ w2 HY2.out).mono ?_
  rintro e w3 ⟨ge, rfl, hd3, hB3⟩
  obtain ⟨HY3, HB3, HD3, HE3⟩ : Hid (BytesAt w3.heap.size w3 (.slice a2 sv.length c2) sv) ∧ Hid (Below w.heap.size w w3) ∧ Hid (Ship w3 g) ∧ Hid (Ship w3 ge) := ⟨(HY2.out.below hB3).mono hB3.size, HB2.out.trans (hB3.mono HB2.out.size), HD2.out.below hB3, hd3⟩
  clear hB3 hd3
  go_wp2_with fail
  refine wp_region_bad (fun w' => Below w3.heap.size w3 w') [] (by kernel_rfl) ((Below.refl _ _).drew) (fun hS => ?_)
  refine wpAnyB_pure (i := 0) (v := .slice a2 sv.length c2) rfl (by kernel_rfl) (fun _ _ _ h => h) (Or.inl ⟨by rfl, fun w _ => by go_simp⟩) hS ?_
  simp only [List.getElem_toArray, List.getElem_cons_zero, Act.put, List.setIfInBounds_toArray, List.set_cons_zero, List.set_cons_succ]
  refine wpAnyB_take [] (i := 1) (v := .string (strOfNums sv)) rfl (by kernel_rfl) (fun _ _ _ h => h) (yields_convert (by rfl) rfl rfl (fun w' hw' => (HY3.out.below hw').conv)) hS ?_
  simp only [List.getElem_toArray, List.getElem_cons_succ, List.getElem_cons_zero, Act.put, List.setIfInBounds_toArray, List.set_cons_zero, List.set_cons_succ]
  refine wpAnyB_one (i := 2) rfl (by kernel_rfl) (fun K hK => ?_)
  go_simp
  refine (rnew_any w3.drew).mono ?_
  rintro e w4 ⟨gr, rfl, hd4, hB4⟩
  have HB4 : Hid (Below w3.heap.size w3 w4) := hS.trans hB4
  have HR4 : Hid (RDataTo w3.heap.size w4 gr 4 (fun i => firstB (tabR i)) tabN) := hd4
  refine hK.out _ _ HB4.out ?_
  clear hK K hd4 hB4 hS
  refine wpAnyB_one (i := 3) rfl (by kernel_rfl) (fun K hK => ?_)
  go_simp
  refine (rship_save HSB.out w3.heap.size w4 gr HB4.out.size HR4.out).mono ?_
  rintro e w5 ⟨v5, rfl, ho5, hB5⟩
  have HB5 : Hid (Below w3.heap.size w3 w5) := HB4.out.trans (hB5.mono HB4.out.size)
  have HY5 : Hid (BytesAt w5.heap.size w5 v5 sv) := bytes_of_row ho5
  refine hK.out _ _ HB5.out ?_
  refine wpAnyB_mono (S' := fun w' => Below w5.heap.size w5 w') (fun w' h => HB5.out.trans (h.mono HB5.out.size)) ?_
  clear hK K ho5 hB5
  have hS5 : Below w5.heap.size w5 w5 := Below.refl _ _
  have HD5 : Hid (Ship w5 g ∧ Ship w5 ge) := ⟨HD3.out.below HB5.out, HE3.out.below HB5.out⟩
  refine wpAnyB_take [] (i := 4) (v := .string (strOfNums sv)) rfl (by kernel_rfl) (fun _ _ _ h => h) (yields_convert (by rfl) rfl rfl (fun w' hw' => (HY5.out.below hw').conv)) hS5 ?_
  simp only [List.getElem_toArray, List.getElem_cons_succ, List.getElem_cons_zero, Act.put, List.setIfInBounds_toArray, List.set_cons_zero, List.set_cons_succ]
  refine wpAnyB_pure (i := 5) (v := .bool true) rfl (by kernel_rfl) (fun _ _ _ h => h) (Or.inl ⟨by rfl, fun w _ => by go_simp⟩) hS5 ?_
  simp only [List.getElem_toArray, List.getElem_cons_succ, List.getElem_cons_zero, Act.put, List.setIfInBounds_toArray, List.set_cons_zero, List.set_cons_succ]
  refine wpAnyB_pure (i := 6) (v := .bool true) rfl (by kernel_rfl) (fun _ _ _ h => h) (Or.inl ⟨by rfl, fun w _ => by go_simp⟩) hS5 ?_
  simp only [List.getElem_toArray, List.getElem_cons_succ, List.getElem_cons_zero, Act.put, List.setIfInBounds_toArray, List.set_cons_zero, List.set_cons_succ]
  refine wpAnyB_pure (i := 7) (v := .int .i64 0) rfl (by kernel_rfl) (fun _ _ _ h => h) (Or.inl ⟨by rfl, fun w _ => by go_simp⟩) hS5 ?_
  simp only [List.getElem_toArray, List.getElem_cons_succ, List.getElem_cons_zero, Act.put, List.setIfInBounds_toArray, List.set_cons_zero, List.set_cons_succ]
  refine wpAnyB_pure (i := 8) (v := .bool true) rfl (by kernel_rfl) (fun _ _ _ h => h) (Or.inl ⟨by rfl, fun w _ => by go_simp⟩) hS5 ?_
  simp only [List.getElem_toArray, List.getElem_cons_succ, List.getElem_cons_zero, Act.put, List.setIfInBounds_toArray, List.set_cons_zero, List.set_cons_succ]
  refine wpAnyB_pure (i := 9) (v := .bool true) rfl (by kernel_rfl) (fun _ _ _ h => h) (Or.inl ⟨by rfl, fun w _ => by go_simp⟩) hS5 ?_
  simp only [List.getElem_toArray, List.getElem_cons_succ, List.getElem_cons_zero, Act.put, List.setIfInBounds_toArray, List.set_cons_zero, List.set_cons_succ]
  refine wpAnyB_pure (i := 10) (v := .bool true) rfl (by kernel_rfl) (fun _ _ _ h => h) (Or.inl ⟨by rfl, fun w _ => by go_simp⟩) hS5 ?_
  simp only [List.getElem_toArray, List.getElem_cons_succ, List.getElem_cons_zero, Act.put, List.setIfInBounds_toArray, List.set_cons_zero, List.set_cons_succ]
  refine wpAnyB_pure (i := 11) (v := .pointer (some ⟨ge, 0, none⟩)) rfl (by kernel_rfl) (fun _ _ _ h => h) (Or.inl ⟨by rfl, fun w _ => by go_simp⟩) hS5 ?_
  simp only [List.getElem_toArray, List.getElem_cons_succ, List.getElem_cons_zero, Act.put, List.setIfInBounds_toArray, List.set_cons_zero, List.set_cons_succ]
  refine wpAnyB_pure (i := 12) (v := .bool true) rfl (by kernel_rfl) (fun _ _ _ h => h) (Or.inl ⟨by rfl, fun w _ => by go_simp⟩) hS5 ?_
  simp only [List.getElem_toArray, List.getElem_cons_succ, List.getElem_cons_zero, Act.put, List.setIfInBounds_toArray, List.set_cons_zero, List.set_cons_succ]
  refine wpAnyB_pure (i := 13) (v := .bool true) rfl (by kernel_rfl) (fun _ _ _ h => h) (Or.inl ⟨by rfl, fun w _ => by go_simp⟩) hS5 ?_
  simp only [List.getElem_toArray, List.getElem_cons_succ, List.getElem_cons_zero, Act.put, List.setIfInBounds_toArray, List.set_cons_zero, List.set_cons_succ]
  refine wpAnyB_pure (i := 14) (v := .bool true) rfl (by kernel_rfl) (fun _ _ _ h => h) (Or.inl ⟨by rfl, fun w _ => by go_simp⟩) hS5 ?_
  simp only [List.getElem_toArray, List.getElem_cons_succ, List.getElem_cons_zero, Act.put, List.setIfInBounds_toArray, List.set_cons_zero, List.set_cons_succ]
  refine wpAnyB_pure (i := 15) (v := .pointer (some ⟨ge, 0, none⟩)) rfl (by kernel_rfl) (fun _ _ _ h => h) (Or.inl ⟨by rfl, fun w _ => by go_simp⟩) hS5 ?_
  simp only [List.getElem_toArray, List.getElem_cons_succ, List.getElem_cons_zero, Act.put, List.setIfInBounds_toArray, List.set_cons_zero, List.set_cons_succ]
  refine wpAnyB_pure (i := 16) (v := .int .i64 r) rfl (by kernel_rfl) (fun _ _ _ h => h) (Or.inl ⟨by rfl, fun w _ => by go_simp⟩) hS5 ?_
  simp only [List.getElem_toArray, List.getElem_cons_succ, List.getElem_cons_zero, Act.put, List.setIfInBounds_toArray, List.set_cons_zero, List.set_cons_succ]
  refine wpAnyB_pure (i := 18) (v := .pointer (some ⟨g, 0, none⟩)) rfl (by kernel_rfl) (fun _ _ _ h => h) (Or.inl ⟨by rfl, fun w _ => by go_simp⟩) hS5 ?_
  simp only [List.getElem_toArray, List.getElem_cons_succ, List.getElem_cons_zero, Act.put, List.setIfInBounds_toArray, List.set_cons_zero, List.set_cons_succ]
  refine wpAnyB_pure (i := 19) (v := .int .i64 r) rfl (by kernel_rfl) (fun _ _ _ h => h) (Or.inl ⟨by rfl, fun w _ => by go_simp⟩) hS5 ?_
  simp only [List.getElem_toArray, List.getElem_cons_succ, List.getElem_cons_zero, Act.put, List.setIfInBounds_toArray, List.set_cons_zero, List.set_cons_succ]
  refine wpAnyB_one (i := 17) rfl (by kernel_rfl) (fun K hK => ?_)
  go_simp
  refine (ship_word w5 ge r HD5.out.2).mono ?_
  rintro e w6 ⟨rfl, hB6⟩
  have hS6 : Below w5.heap.size w5 w6 := hS5.trans (hB6.mono hS5.size)
  have HD6 : Hid (Ship w6 g ∧ Ship w6 ge) := ⟨HD5.out.1.below hB6, HD5.out.2.below hB6⟩
  refine hK.out _ _ hS6 ?_
  clear hK K hB6
  refine wpAnyB_one (i := 20) rfl (by kernel_rfl) (fun K hK => ?_)
  go_simp
  refine (ship_word w6 g r HD6.out.1).mono ?_
  rintro e w7 ⟨rfl, hB7⟩
  have hS7 : Below w5.heap.size w5 w7 := hS6.trans (hB7.mono hS6.size)
  have HD7 : Hid (Ship w7 g ∧ Ship w7 ge) := ⟨HD6.out.1.below hB7, HD6.out.2.below hB7⟩
  refine hK.out _ _ hS7 ?_
  clear hK K hB7
  refine wpAnyB_pure (i := 21) (v := .bool true) rfl (by kernel_rfl) (fun _ _ _ h => h) (Or.inl ⟨by rfl, fun w _ => by go_simp⟩) hS7 ?_
  simp only [List.getElem_toArray, List.getElem_cons_succ, List.getElem_cons_zero, Act.put, List.setIfInBounds_toArray, List.set_cons_zero, List.set_cons_succ]
  refine wpAnyB_pure (i := 22) (v := .bool true) rfl (by kernel_rfl) (fun _ _ _ h => h) (Or.inl ⟨by rfl, fun w _ => by go_simp⟩) hS7 ?_
  simp only [List.getElem_toArray, List.getElem_cons_succ, List.getElem_cons_zero, Act.put, List.setIfInBounds_toArray, List.set_cons_zero, List.set_cons_succ]
  refine wpAnyB_pure (i := 23) (v := .bool true) rfl (by kernel_rfl) (fun _ _ _ h => h) (Or.inl ⟨by rfl, fun w _ => by go_simp⟩) hS7 ?_
  simp only [List.getElem_toArray, List.getElem_cons_succ, List.getElem_cons_zero, Act.put, List.setIfInBounds_toArray, List.set_cons_zero, List.set_cons_succ]
  refine wpAnyB_pure (i := 24) (v := .pointer (some ⟨ge, 0, none⟩)) rfl (by kernel_rfl) (fun _ _ _ h => h) (Or.inl ⟨by rfl, fun w _ => by go_simp⟩) hS7 ?_
  simp only [List.getElem_toArray, List.getElem_cons_succ, List.getElem_cons_zero, Act.put, List.setIfInBounds_toArray, List.set_cons_zero, List.set_cons_succ]
  refine wpAnyB_pure (i := 25) (v := .int .i64 r) rfl (by kernel_rfl) (fun _ _ _ h => h) (Or.inl ⟨by rfl, fun w _ => by go_simp⟩) hS7 ?_
  simp only [List.getElem_toArray, List.getElem_cons_succ, List.getElem_cons_zero, Act.put, List.setIfInBounds_toArray, List.set_cons_zero, List.set_cons_succ]
  refine wpAnyB_pure (i := 27) (v := .pointer (some ⟨g, 0, none⟩)) rfl (by kernel_rfl) (fun _ _ _ h => h) (Or.inl ⟨by rfl, fun w _ => by go_simp⟩) hS7 ?_
  simp only [List.getElem_toArray, List.getElem_cons_succ, List.getElem_cons_zero, Act.put, List.setIfInBounds_toArray, List.set_cons_zero, List.set_cons_succ]
  refine wpAnyB_pure (i := 28) (v := .int .i64 r) rfl (by kernel_rfl) (fun _ _ _ h => h) (Or.inl ⟨by rfl, fun w _ => by go_simp⟩) hS7 ?_
  simp only [List.getElem_toArray, List.getElem_cons_succ, List.getElem_cons_zero, Act.put, List.setIfInBounds_toArray, List.set_cons_zero, List.set_cons_succ]
  refine wpAnyB_one (i := 26) rfl (by kernel_rfl) (fun K hK => ?_)
  go_simp
  refine (ship_cluster w7 ge r HD7.out.2).mono ?_
  rintro e w8 ⟨rfl, hB8⟩
  have hS8 : Below w5.heap.size w5 w8 := hS7.trans (hB8.mono hS7.size)
  have HD8 : Hid (Ship w8 g ∧ Ship w8 ge) := ⟨HD7.out.1.below hB8, HD7.out.2.below hB8⟩
  refine hK.out _ _ hS8 ?_
  clear hK K hB8
  refine wpAnyB_one (i := 29) rfl (by kernel_rfl) (fun K hK => ?_)
  go_simp
  refine (ship_cluster w8 g r HD8.out.1).mono ?_
  rintro e w9 ⟨rfl, hB9⟩
  have hS9 : Below w5.heap.size w5 w9 := hS8.trans (hB9.mono hS8.size)
  have HD9 : Hid (Ship w9 g ∧ Ship w9 ge) := ⟨HD8.out.1.below hB9, HD8.out.2.below hB9⟩
  refine hK.out _ _ hS9 ?_
  clear hK K hB9
  refine wpAnyB_pure (i := 30) (v := .bool true) rfl (by kernel_rfl) (fun _ _ _ h => h) (Or.inl ⟨by rfl, fun w _ => by go_simp⟩) hS9 ?_
  simp only [List.getElem_toArray, List.getElem_cons_succ, List.getElem_cons_zero, Act.put, List.setIfInBounds_toArray, List.set_cons_zero, List.set_cons_succ]
  refine wpAnyB_pure (i := 31) (v := .bool true) rfl (by kernel_rfl) (fun _ _ _ h => h) (Or.inl ⟨by rfl, fun w _ => by go_simp⟩) hS9 ?_
  simp only [List.getElem_toArray, List.getElem_cons_succ, List.getElem_cons_zero, Act.put, List.setIfInBounds_toArray, List.set_cons_zero, List.set_cons_succ]
  refine wpAnyB_pure (i := 32) (v := .bool true) rfl (by kernel_rfl) (fun _ _ _ h => h) (Or.inl ⟨by rfl, fun w _ => by go_simp⟩) hS9 ?_
  simp only [List.getElem_toArray, List.getElem_cons_succ, List.getElem_cons_zero, Act.put, List.setIfInBounds_toArray, List.set_cons_zero, List.set_cons_succ]
  refine wpAnyB_done (by kernel_rfl) ?_ _
  refine NoPanic.normal ?_
  have HF : Hid (Below w.heap.size w w9) := HB3.out.trans ((HB5.out.trans (hS9.mono HB5.out.size)).mono HB3.out.size)
  clear hS5 hS6 hS7 hS8 hS9
  go_wp2
  go_ret
  exact ⟨rfl, HF.out⟩
end Go.Proofs.YtpknmpgbaccffaaDoor

namespace Go.Proofs.YtpknmpgbaccffaaDoor
open Go.ChangeShapes Go.WideShapes Go.ChangeAt Go.RowKit
set_option linter.unusedVariables false

theorem gScr : Tryd.prog.globalNamed "scansion/ucd.scripts" = some 0 := by kernel_rfl
theorem gScrType : (Tryd.prog.globals[0]?).map (·.type) = some 100 := by kernel_rfl
theorem cellsScr : Tryd.prog.cellsOf 100 = 72 := by kernel_rfl
def datP {H : Type} (p : Pp) : DataW H := .agg [.lit (.int .i64 p.lo), .lit (.int .i64 p.hi), .lit (.int .u8 p.v)]
/-- An array of entries that reads as a list of them holds their cells. -/
theorem cells_of_props {H : Type} {enc : TypeId × Value → H} {W : World} {base : Nat} {sp : Nat → Bool} {held : Bool} {fuel : Nat} {cs : List Value} {l : List Pp} {q : List MemPlace}
    (h : DataW.trod enc Tryd.prog W base sp held fuel 100 cs = some (.agg (l.map datP), q)) : ∀ i, (hi : i < l.length) → i < 24 → (cs.drop (i * 3)).take 3 = cellsP l[i] := by
  cases fuel with
  | zero => simp [DataW.trod] at h
  | succ fuel =>
    simp only [DataW.trod, Tryd.undScr, Tryd.cellsProp, cellsScr] at h
    split at h
    · rename_i hl
      obtain ⟨xs, hm, hx⟩ := Option.map_eq_some_iff.1 h
      have hxs : xs.map (·.1) = (l.map datP : List (DataW H)) := by
        have := congrArg Prod.fst hx
        simpa using this
      intro i hi hi4
      obtain ⟨b, hb, hf⟩ := Lib.mapM_at hm i i (by simp [hi4])
      obtain ⟨p, hc, _, _, _, hbx⟩ := open_cells hf
      have h2 : (xs.map (·.1))[i]? = some (datP p : DataW H) := by simp [hb, hbx, datP]
      rw [hxs, List.getElem?_map, List.getElem?_eq_getElem hi] at h2
      have h3 : (datP l[i] : DataW H) = datP p := by simpa using h2
      have h4 : l[i] = p := by
        unfold datP at h3
        cases hp : l[i]; cases p
        rw [hp] at h3
        simpa using h3
      rw [h4]; exact hc
    · cases h
theorem laid_datum {H : Type} : (Rows.laid_scansion_ucd_scripts : DataW H) = .agg (scP.map datP) := rfl
/-- What the rows' list gives. -/
theorem scripts_of {W : World} (h : laidMetH Tryd.prog [("scansion/ucd.scripts", Rows.laid_scansion_ucd_scripts)] W) : Scripts W := by
  have h' : laidMet Tryd.prog [("scansion/ucd.scripts", Rows.laid_scansion_ucd_scripts)] W := h
  obtain ⟨ps, ⟨g', t', cs, fuel, p, q, hg', ht', hvar, hd, _, _⟩, _⟩ := h'
  obtain rfl := Option.some.inj (gScr.symm.trans hg')
  obtain rfl := Option.some.inj (gScrType.symm.trans ht')
  rw [laid_datum] at hd
  have hc := cells_of_props hd
  intro j u hj
  have hjl : j < 72 := by have := (List.getElem?_eq_some_iff.1 hj).1; rw [cellsPs_length, scP_len] at this; omega
  have hj3 : j = j / 3 * 3 + j % 3 := by omega
  have hi : j / 3 < scP.length := by rw [scP_len]; omega
  rw [hj3, cellsPs_at scP (j / 3) (j % 3) hi (by omega)] at hj
  have h1 := World.var?_cell gScr hvar j
  rw [Nat.zero_add, h1]
  have h2 := hc (j / 3) hi (by omega)
  rw [← h2, List.getElem?_take, if_pos (by omega), List.getElem?_drop] at hj
  rw [← hj3] at hj
  simpa using hj
theorem scripts_pos {W : World} (h : Scripts W) : 0 < W.heap.size := by
  have := h 0 (.int .i64 11904) rfl
  rcases Nat.eq_zero_or_pos W.heap.size with e | e
  · have hn : W.heap[0]? = none := Array.getElem?_eq_none (by omega)
    simp [World.cell?, hn] at this
  · exact e
/-- The table laid into a world's block 0: for the witnesses. -/
def withTable (W : World) : World :=
  { W with heap := W.heap.modify 0 fun
      | .cells _ t frozen => .cells (cellsPs scP).toArray t frozen
      | o => o }
end Go.Proofs.YtpknmpgbaccffaaDoor

namespace Go.Proofs.YtpknmpgbaccffaaDoor.ucdSaves
open Go.ChangeShapes Go.WideShapes Go.ChangeAt Go.RowKit
set_option linter.unusedVariables false

/-- WHAT THE WALK GIVES, FOR EVERY ARGUMENT AND EVERY WORLD THAT HOLDS THE TABLE. -/
theorem contract (H : Type) (enc : TypeId × Value → H) (W : World) (base : Nat) (args : Array Value) (ds gs : List (DataW H)) (before : List MemPlace)
    (hval : ∀ (j : Nat) t v, Tryd.f4.params[j]? = some t → args[j]? = some v → Value.okWide Tryd.prog W .any base t v)
    (hW : DataW.Whole enc Tryd.prog Tryd.f4.params.toList Rows.ucdSavesSpec.vars false W args.toList ds gs before) (hL : laidMetH Tryd.prog Rows.ucdSavesRow.laid W) :
    Calls Tryd.prog 4 args W fun e W' => ∃ v, e = .returned v ∧ Rows.ucdSavesSpec.post enc Tryd.prog Tryd.f4 false true false false W args v W' := by
  have hm : Scripts W := scripts_of hL
  have hW' := hW
  obtain ⟨p, q, hA0, hV, rfl, hfz, hnd⟩ := hW
  have hA : DataW.TrodAll enc Tryd.prog W 0 (fun _ => true) true Tryd.f4.params.toList args.toList ds p := hA0
  rw [Tryd.params4] at hA hval
  obtain ⟨v0, vs0, d0, ds0, p0, q0, hargs, rfl, rfl, h0, r0⟩ := trodAll_cons hA
  obtain ⟨rfl, rfl, rfl⟩ := trodAll_nil r0
  obtain rfl : args = #[v0] := by cases args; simp_all
  obtain ⟨rfl, rfl⟩ := trodVars_none hV
  obtain ⟨a0, rfl, rfl, rfl, w0⟩ := open_int Tryd.underlying3 (hval 0 3 v0 rfl rfl) h0
  clear hA0
  refine (ucdSaves_any a0 W hm (scripts_pos hm)).mono fun e W' ⟨he, bel⟩ => ?_
  subst he
  exact ⟨_, rfl, _, _, _, [], _, [], hW', trodAll_mk1 (shut_bool Tryd.underlying4 _), (trodAll_cons_mk (shut_int Tryd.underlying3 w0) trodAll_mk0), rfl, bel.frame _, fun h => by cases h⟩

theorem laid_met (os : Os) : laidMet Tryd.prog Rows.ucdSavesRow.laid ((withTable (World.holding Tryd.prog os ⟨#[], #[], []⟩)).forCall (fun _ _ => 0) ⟨#[], #[.int .i64 0], []⟩).memory :=
  laidMet_of_run' 8 (by kernel_rfl) (by kernel_rfl)
theorem reads (os : Os) {H : Type} (enc : TypeId × Value → H) : ∃ ds places, DataW.whole enc Tryd.prog ((withTable (World.holding Tryd.prog os ⟨#[], #[], []⟩)).forCall (fun _ _ => 0) ⟨#[], #[.int .i64 0], []⟩).memory Tryd.f4.params.toList Rows.ucdSavesSpec.vars false #[Value.int .i64 0].toList 8 = some (ds, [], places) :=
  ⟨[.lit (.int .i64 0)], [], by kernel_rfl⟩

set_option maxRecDepth 100000 in
theorem lifted (os : Os) (started : os.Started) (H : Type) (enc : TypeId × Value → H) (F : Stop.Interp) :
    ReturnsInHanded {} Tryd.checked os 4 .any ((OpenSpec.ofChange Rows.ucdSavesSpec).preRow enc Tryd.prog Tryd.f4 Rows.ucdSavesRow.domain false Rows.ucdSavesRow.laid) (((OpenSpec.ofChange Rows.ucdSavesSpec).at F).post enc Tryd.prog Tryd.f4 false true false false) := by
  obtain ⟨ds0, places, hx⟩ := reads os enc
  refine returnsInHanded_of_row (C := Tryd.checked) (s := OpenSpec.ofChange Rows.ucdSavesSpec) own started (by kernel_rfl) Tryd.func4
    (witness_row_at (enc := enc) (C := Tryd.checked) false (withTable (World.holding Tryd.prog os ⟨#[], #[], []⟩)) #[.int .i64 0] rfl (by kernel_rfl) (by kernel_rfl) (by kernel_rfl)
      (OpenSpec.preRow_of_cond 8 hx (by kernel_rfl) (fun k hk => by cases hk) (by kernel_rfl) (laid_met os))) ?_
  intro W base args ds gs before hval hW _ _ _ hL _ _
  exact contract H enc W base args ds gs before hval hW hL

theorem said : Rows.UcdSavesSaid :=
  OpenClaim.holds_of_cond 4 Tryd.f4 rfl rfl rfl rfl rfl rfl rfl ⟨rfl, rfl, rfl, rfl, rfl⟩ rfl rfl rfl rfl rfl (by kernel_rfl) Tryd.func4 (by kernel_rfl)
    (of_decide_eq_true (by kernel_rfl)) (by unfold Func.isWrapper; first | (rw [if_pos (by decide +kernel)]; kernel_rfl) | (rw [if_neg (by decide +kernel)]; exact ⟨rfl, rfl⟩))
    (fun os started H enc _ F => by rw [OpenClaim.pre_eq_preRow]; exact lifted os started H enc F)

/-- No parameter wants a stand-in; the program's own looks are off: what the card asks. -/
theorem plain (f : FuncId) (fn : Func) (hf : Tryd.pinned.checked.prog.funcNamed "scansion/scansionlaw04.UcdSaves" = some f) (hfn : Tryd.pinned.checked.prog.funcs[f]? = some fn) :
    false = Tryd.pinned.checked.prog.looks [] ∧ ∀ (j : Nat) t, fn.params[j]? = some t → Tryd.pinned.checked.prog.wantsStandIn t = false := by
  obtain rfl : f = 4 := Option.some.inj ((show Tryd.prog.funcNamed "scansion/scansionlaw04.UcdSaves" = some 4 by kernel_rfl).symm.trans hf) |>.symm
  obtain rfl : fn = Tryd.f4 := (Option.some.inj (Tryd.func4.symm.trans hfn)).symm
  refine ⟨by kernel_rfl, fun j t ht => ?_⟩
  rw [Tryd.params4] at ht
  obtain rfl : t = 3 := by simpa using Array.mem_of_getElem? ht
  exact (show Tryd.prog.wantsStandIn 3 = false by kernel_rfl)

/-- THE CARD. -/
theorem card : Rows.UcdSavesCardSaid :=
  Claim7.holds_tied_plain_at .later [] _ _ _ _ said (fun _ h => by cases h) (by kernel_rfl) (fun _ h => by cases h) ucdSaves_row_tie rfl ⟨rfl, rfl⟩ (by kernel_rfl) rfl plain (by kernel_rfl)
end Go.Proofs.YtpknmpgbaccffaaDoor.ucdSaves
namespace Go.Proofs.YtpknmpgbaccffaaDoor
theorem ucdSaves_proved : Rows.UcdSavesCardSaid := ucdSaves.card
end Go.Proofs.YtpknmpgbaccffaaDoor
