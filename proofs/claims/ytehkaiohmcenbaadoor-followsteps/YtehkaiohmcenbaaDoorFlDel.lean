/-
  slices.DeleteFunc of places.
-/
import Derived.Test.YtehkaiohmcenbaaDoorFlStep
import Derived.Lib.SliceRun
namespace Go.Proofs.YtehkaiohmcenbaaDoor
open Go.RowKit Go.Shelf
set_option linter.unusedVariables false

/-- The row's cells: what was kept, and what has not been looked at. -/
def DlI (g : Nat) (cap : Nat) (p : Nat → Bool) (l : List Nat) (j : Nat) (w : World) : Prop :=
  ∃ cur : Array Value, w.heap[g]? = some (.cells cur 3 (0, 0)) ∧ cur.size = cap ∧ (∀ t, (h : t < ((l.take j).filter fun x => !p x).length) → cur[t]? = some (.int .i64 ((((l.take j).filter fun x => !p x)[t] : Nat) : Int))) ∧ ∀ t, (h : t < l.length) → j ≤ t → cur[t]? = some (.int .i64 (l[t] : Int))
theorem setCells_at (g : Nat) : ∀ (vs : List Value) (o : Nat) (w : World) (cur : Array Value) (t : TypeId), w.heap[g]? = some (.cells cur t (0, 0)) → ∃ cur', (w.setCells g o vs).heap[g]? = some (.cells cur' t (0, 0)) ∧ cur'.size = cur.size ∧ ∀ i, i < o → cur'[i]? = cur[i]?
  | [], o, w, cur, t, h => ⟨cur, h, rfl, fun _ _ => rfl⟩
  | v :: vs, o, w, cur, t, h => by
    obtain ⟨cur', h1, h2, h3⟩ := setCells_at g vs (o + 1) (w.setCell ⟨g, o, none⟩ v) _ t (heap_setN h v)
    refine ⟨cur', h1, by rw [h2]; simp, fun i hi => ?_⟩
    rw [h3 i (by omega), Array.getElem?_setIfInBounds_ne (by omega)]
theorem setCells_only (g : Nat) : ∀ (vs : List Value) (o : Nat) (w : World) {B : Nat}, B ≤ g → Below B w (w.setCells g o vs)
  | [], o, w, B, h => Below.refl _ _
  | v :: vs, o, w, B, h => ((Below.refl _ _).setCell h v).trans (setCells_only g vs (o + 1) _ h)
theorem filt_len (p : Nat → Bool) (l : List Nat) (j : Nat) : ((l.take j).filter fun x => !p x).length ≤ j := by
  refine Nat.le_trans (List.length_filter_le _ _) ?_
  rw [List.length_take]; omega

set_option maxRecDepth 100000 in
set_option maxHeartbeats 8000000 in
theorem delF_any (g : Nat) (caps : Array Value) (B0 : Nat) (w0 : World) (p : Nat → Bool) (l : List Nat) (v : Value) (w : World) (base : Nat) (hp : PrdT g caps B0 w0 p l) (hB : Below B0 w0 w) (hB0 : B0 ≤ base) (hbw : base ≤ w.heap.size) (hv : w.ownsRow base 3 1 v l.length (cellP l)) (hl : l.length ≤ 100000) :
    Calls Tryd.prog 53 #[v, .func (.func g) #[] caps] w fun e w' => ∃ v', e = .returned v' ∧ w'.ownsRow base 3 1 v' (l.filter fun x => !p x).length (cellP (l.filter fun x => !p x)) ∧ Below base w w' := by
  have hc := idxP_any g caps B0 w0 p l v w hp hB (by omega) (plc_of_row hv (Nat.zero_le _)) hl
  have HP : Hid (PrdT g caps B0 w0 p l) := hp
  have HB : Hid (Below B0 w0 w) := hB
  have HV : Hid (w.ownsRow base 3 1 v l.length (cellP l)) := hv
  have eg := hp.1
  obtain ⟨va, vn, vc, hev⟩ := own_any hv
  subst hev
  have hvn : vn = l.length := by
    rcases hv.2 with ⟨e, h0⟩ | ⟨g', cap, cur, e, _⟩
    · have : vn = 0 := by simp at e; exact e.2.1
      omega
    · simp at e; exact e.2.1
  have HVN : Hid (vn = l.length) := hvn
  have hl' : vn ≤ 100000 := by omega
  clear hp hB hv hvn
  go_enter Tryd.func53, Tryd.ntmps53
  go_wp2_with fail
  refine hc.mono ?_
  rintro e w1 ⟨r, rfl, hr, hB1⟩
  have HB1 : Hid (Below w.heap.size w w1) := hB1
  rcases hr with ⟨rfl, hall⟩ | ⟨i0, hi0, rfl, hpi, hall⟩
  · have HF : Hid (l.filter (fun x => !p x) = l) := by
      show _ = _
      rw [List.filter_eq_self]
      intro x hx; rw [hall x hx]; rfl
    clear hc hB1 hall
    go_wp2
    go_ret
    refine ⟨_, rfl, ?_, HB1.out.mono hbw⟩
    rw [HF.out]
    exact ownsRow_below HV.out HB1.out
  · have hvl : 0 < vn := by have := HVN.out; omega
    obtain ⟨G, hva, hbG, hcp, hmx, HD⟩ : ∃ G, va = some ⟨G, 0, none⟩ ∧ base ≤ G ∧ vn ≤ vc ∧ vc ≤ maxLen ∧ Hid (DlI G vc p l (i0 + 1) w1 ∧ ((l.take (i0 + 1)).filter fun x => !p x).length = i0) := by
      rcases HV.out.2 with ⟨e, h0⟩ | ⟨g', cap, cur, e, h1, h2, h3, h4, h5, h6⟩
      · have := HVN.out; omega
      · obtain ⟨rfl, hq, rfl⟩ : va = some ⟨g', 0, none⟩ ∧ vn = l.length ∧ vc = cap := by simpa using e
        have hft : (l.take i0).filter (fun x => !p x) = l.take i0 := by
          rw [List.filter_eq_self]
          intro x hx; rw [hall x hx]; rfl
        have htk : (l.take (i0 + 1)).filter (fun x => !p x) = l.take i0 := by
          rw [List.take_add_one, List.getElem?_eq_getElem hi0, List.filter_append, hft]
          simp [hpi]
        have hcell : ∀ t, (h : t < l.length) → cur[t]? = some (.int .i64 (l[t] : Int)) := fun t ht => by
          have := congrArg (fun q => q[t]?) h6
          simp only [List.getElem?_take, Nat.mul_one] at this
          rw [if_pos ht] at this
          rw [← Array.getElem?_toList, this]
          simp [cellP, ht]
        refine ⟨g', rfl, h1, by omega, h4, ⟨cur, (hB1.block _ (lt_of_heap h2)).trans h2, by simpa using h5, fun t ht => ?_, fun t ht _ => hcell t ht⟩, by rw [htk, List.length_take]; omega⟩
        have ht' : t < i0 := by rw [htk, List.length_take] at ht; omega
        rw [hcell t (by omega)]
        simp only [htk, List.getElem_take]
    subst hva
    have hlt : vn ≤ vc := hcp
    have hneq : (((i0 : Nat) : Int) == -1) = false := beq_eq_false_iff_ne.2 (by omega)
    have hib : i0 < vn := by have := HVN.out; omega
    clear hc hB1 hall hpi
    go_wp2
    go_loopw [5, 6] (fun x5 x6 wr => ∃ (i j : Nat), j ≤ vn ∧ i < j ∧ x5 = .int .i64 (i : Int) ∧ x6 = .int .i64 (j : Int) ∧ Hid (DlI G vc p l j wr ∧ ((l.take j).filter fun x => !p x).length = i) ∧ Hid (Below base w wr)) (fun _ x6 _ => vn - (intOf x6).toNat)
    case atStart => exact ⟨i0, i0 + 1, by omega, by omega, rfl, by go_num, HD, HB1.out.mono hbw⟩
    case round =>
      obtain ⟨i, j, hj, hij, rfl, rfl, HDr, HBr⟩ := hrel
      have hwsz : w.heap.size ≤ wr.heap.size := HBr.out.size
      by_cases hjl : j < vn
      · have hjn : j < l.length := by rw [← HVN.out]; exact hjl
        obtain ⟨⟨cur, hc1, hc2, hc3, hc4⟩, hlen⟩ := HDr.out
        obtain ⟨y, hy⟩ : ∃ y, y = l[j] := ⟨_, rfl⟩
        have HY : Hid (y = l[j]) := hy
        have e1 : wr.cell? ⟨G, j, none⟩ = some (.int .i64 (y : Int)) := by rw [cell_in hc1, hy]; exact hc4 j hjn (Nat.le_refl _)
        have hGl : G < wr.heap.size := lt_of_heap hc1
        have hcl := HP.out.2 y (by rw [hy]; exact List.getElem_mem hjn) wr (HB.out.trans (HBr.out.mono hB0))
        have hj0 : (0 : Int) ≤ (j : Int) := by omega
        have hj1 : (j : Int) < (vn : Int) := by omega
        have hi0' : (0 : Int) ≤ (i : Int) := by omega
        have hi1 : (i : Int) < (vn : Int) := by omega
        have hi2 : i < vn := by omega
        obtain ⟨b, hb⟩ : ∃ b, b = p y := ⟨_, rfl⟩
        rw [← hb] at hcl
        have HBB : Hid (b = p y) := hb
        have HTK : Hid ((l.take (j + 1)).filter (fun x => !p x) = (l.take j).filter (fun x => !p x) ++ (if b then [] else [y])) := by
          show _ = _
          rw [List.take_add_one, List.getElem?_eq_getElem hjn, List.filter_append, ← hy, hb]
          congr 1
          cases h : p y <;> simp [h]
        have HDC : Hid (DlI G vc p l j wr ∧ ((l.take j).filter fun x => !p x).length = i) := HDr
        clear hy hb hc1 hc2 hc3 hc4 hlen
        cases b with
        | true =>
          go_wp2_with fail
          refine hcl.mono ?_
          rintro e w2 ⟨rfl, hB2⟩
          have HB2 : Hid (Below base w w2) := HBr.out.trans (hB2.mono (by omega))
          have HD2 : Hid (DlI G vc p l (j + 1) w2 ∧ ((l.take (j + 1)).filter fun x => !p x).length = i) := by
            obtain ⟨⟨cur, hc1, hc2, hc3, hc4⟩, hlen⟩ := HDC.out
            have e : (l.take (j + 1)).filter (fun x => !p x) = (l.take j).filter (fun x => !p x) := by rw [HTK.out]; simp
            refine ⟨⟨cur, (hB2.block _ hGl).trans hc1, hc2, fun t ht => ?_, fun t ht h => hc4 t ht (by omega)⟩, by rw [e]; exact hlen⟩
            have ht' : t < ((l.take j).filter fun x => !p x).length := by rw [e] at ht; exact ht
            rw [hc3 t ht']
            simp only [e]
          clear hcl hB2
          go_wp2
          go_roundw
          case rel => exact ⟨i, j + 1, by omega, by omega, rfl, by go_num, HD2, HB2⟩
          case measure => simp [intOf]; omega
        | false =>
          go_wp2_with fail
          refine hcl.mono ?_
          rintro e w2 ⟨rfl, hB2⟩
          obtain ⟨⟨cur, hc1, hc2, hc3, hc4⟩, hlen⟩ := HDC.out
          have hw2 : w2.heap[G]? = some (.cells cur 3 (0, 0)) := (hB2.block _ hGl).trans hc1
          have hic : i < cur.size := by omega
          have e5 : w2.cell? ⟨G, i, none⟩ = some cur[i] := by rw [cell_in hw2, Array.getElem?_eq_getElem hic]
          have f5 : w2.frozen? ⟨G, i, none⟩ = false := by simp [World.frozen?, hw2]
          have HD2 : Hid (DlI G vc p l (j + 1) (w2.setCell ⟨G, i, none⟩ (.int .i64 (y : Int))) ∧ ((l.take (j + 1)).filter fun x => !p x).length = i + 1) := by
            have e : (l.take (j + 1)).filter (fun x => !p x) = (l.take j).filter (fun x => !p x) ++ [y] := by rw [HTK.out]; simp
            refine ⟨⟨_, heap_setN hw2 _, by simpa using hc2, fun t ht => ?_, fun t ht h => ?_⟩, by rw [e, List.length_append, hlen]; rfl⟩
            · by_cases q : t < i
              · rw [Array.getElem?_setIfInBounds_ne (by omega), hc3 t (by omega)]
                simp only [e]
                rw [List.getElem_append_left (by omega)]
              · have ht2 : t = i := by rw [e, List.length_append, hlen] at ht; simp at ht; omega
                subst ht2
                rw [Array.getElem?_setIfInBounds_self_of_lt hic]
                simp only [e]
                rw [List.getElem_append_right (by omega)]
                simp [hlen]
            · rw [Array.getElem?_setIfInBounds_ne (by omega)]
              exact hc4 t ht (by omega)
          have HB2 : Hid (Below base w (w2.setCell ⟨G, i, none⟩ (.int .i64 (y : Int)))) := (HBr.out.trans (hB2.mono (by omega))).setCell hbG _
          clear hcl hB2 hc1 hc2 hc3 hc4 hlen hw2
          go_wp2
          go_roundw
          case rel => exact ⟨i + 1, j + 1, by omega, by omega, by go_num, by go_num, HD2, HB2⟩
          case measure => simp [intOf]; omega
      · obtain rfl : j = vn := by omega
        obtain ⟨⟨cur, hc1, hc2, hc3, hc4⟩, hlen⟩ := HDr.out
        have HEQ : Hid (l.take j = l) := List.take_of_length_le (by rw [← HVN.out]; exact Nat.le_refl _)
        have v23 : ∀ w, (zeroValue 3).run Tryd.prog w = .ok (.int .i64 0) w := fun w => by
          obtain ⟨i0', hI0, hZ0, _, _⟩ := info_parts Tryd.infoInt
          simp [zeroValue, typeInfo, hI0, hZ0]
        have hcl : ∀ ty, (Builtin.clear_ #[65] ty #[.slice (some ⟨G, i, none⟩) (j - i) (vc - i)]).run Tryd.prog wr = .ok (.tuple #[]) (wr.setCells G i (List.replicate (j - i) (.int .i64 0))) := fun ty => Lib.run_clear_slice wr 65 3 ty (.int .i64 0) Tryd.underlying65 v23 rfl rfl G i (j - i) (vc - i) (by omega) (fun t ht => by rw [cell_in hc1, Array.getElem?_eq_getElem (by omega)]; rfl) (fun t ht => by simp [World.frozen?, hc1])
        have HFIN : Hid (∃ cur', (wr.setCells G i (List.replicate (j - i) (.int .i64 0))).heap[G]? = some (.cells cur' 3 (0, 0)) ∧ cur'.size = cur.size ∧ ∀ t, t < i → cur'[t]? = cur[t]?) := setCells_at G _ i wr cur _ hc1
        have HBF : Hid (Below base w (wr.setCells G i (List.replicate (j - i) (.int .i64 0)))) := HBr.out.trans (setCells_only G _ i wr hbG)
        have HC3 : Hid (cur.size = vc ∧ i = (l.filter fun x => !p x).length ∧ ∀ t, (h : t < (l.filter fun x => !p x).length) → cur[t]? = some (.int .i64 (((l.filter fun x => !p x)[t] : Nat) : Int))) := by
          rw [HEQ.out] at hlen hc3
          exact ⟨hc2, hlen.symm, hc3⟩
        have hib2 : i < j := hij
        have hic : ¬ vc = i := by omega
        have hivc : i ≤ vc := by omega
        have hmx2 : vc ≤ 9223372036854775807 := by unfold maxLen at hmx; omega
        clear hc1 hc2 hc3 hc4 hlen v23
        go_wp2
        go_ret
        obtain ⟨cur', q1, q2, q3⟩ := HFIN.out
        obtain ⟨r1, r2, r3⟩ := HC3.out
        refine ⟨_, rfl, ⟨by simp [cellP], .inr ⟨G, vc, cur', by rw [← r2]; rfl, hbG, q1, by omega, hmx, by rw [q2, r1]; simp, ?_⟩⟩, HBF.out⟩
        apply List.ext_getElem?
        intro t
        rw [Nat.mul_one, List.getElem?_take]
        by_cases ht : t < (l.filter fun x => !p x).length
        · rw [if_pos ht, Array.getElem?_toList, q3 t (by omega), r3 t ht]
          simp only [cellP, List.getElem?_map, List.getElem?_eq_getElem ht, Option.map_some]
        · rw [if_neg ht, List.getElem?_eq_none (by rw [cellP_length]; omega)]
end Go.Proofs.YtehkaiohmcenbaaDoor
