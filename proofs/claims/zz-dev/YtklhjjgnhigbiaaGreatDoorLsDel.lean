/-
  slices.DeleteFunc of numbers, where only their own block is written. (After stage 11's FlStep and FlDel.)
-/
import Derived.Test.YtklhjjgnhigbiaaGreatDoorGB
import Derived.Test.YtklhjjgnhigbiaaGreatDoorMtJoin
import Derived.Test.YtklhjjgnhigbiaaGreatDoorGD
import Derived.Test.YtklhjjgnhigbiaaGreatDoorLsRev
import Derived.Lib.SliceRun
namespace Go.Proofs.YtklhjjgnhigbiaaGreatDoor
open Go.RowKit Go.Shelf
set_option linter.unusedVariables false

/-- A predicate as a function of the program, in every world that is w0 but for the block G. -/
def PrdG (g : Nat) (caps : Array Value) (G : Nat) (w0 : World) (p : Nat → Bool) (l : List Nat) : Prop :=
  (∀ args w, (callFunc g args).run Tryz.prog w = .ok (.enter g args) w) ∧ ∀ x ∈ l, ∀ W, OnlyB G w0 W → Calls Tryz.prog g (#[.int .i64 (x : Int)] ++ caps) W fun e w' => e = .returned (.bool (p x)) ∧ ∃ nd, w' = W.drewN nd
theorem OnlyB.drewN {b : Nat} {w w' : World} (h : OnlyB b w w') (n : Nat) : OnlyB b w (w'.drewN n) := ⟨h.os, h.tape, h.output, h.size, h.block⟩
theorem OnlyB.trans {b : Nat} {w w' w'' : World} (h : OnlyB b w w') (k : OnlyB b w' w'') : OnlyB b w w'' := ⟨k.os.trans h.os, k.tape.trans h.tape, k.output.trans h.output, k.size.trans h.size, fun i hi => (k.block i hi).trans (h.block i hi)⟩
/-- The first place is i. -/
def FstI13 (p : Nat → Bool) (l : List Nat) (r : Int) : Prop := (r = -1 ∧ ∀ x ∈ l, p x = false) ∨ ∃ i, ∃ h : i < l.length, r = (i : Int) ∧ p l[i] = true ∧ ∀ x ∈ l.take i, p x = false

set_option maxRecDepth 100000 in
set_option maxHeartbeats 4000000 in
theorem idx13 (g : Nat) (caps : Array Value) (G : Nat) (w0 : World) (p : Nat → Bool) (l : List Nat) (v : Value) (w : World) (hp : PrdG g caps G w0 p l) (hB : OnlyB G w0 w) (hv : PlcAt 0 0 w v l) (hl : l.length ≤ 100000) : Calls Tryz.prog 66 #[v, .func (.func g) #[] caps] w fun e w' => ∃ r : Int, e = .returned (.int .i64 r) ∧ FstI13 p l r ∧ ∃ nd, w' = w.drewN nd := by
  have HV : Hid (PlcAt 0 0 w v l) := hv
  have HP : Hid (PrdG g caps G w0 p l) := hp
  have HB : Hid (OnlyB G w0 w) := hB
  have eg := hp.1
  obtain ⟨a, c, hev, hc⟩ := hv.slice
  subst hev
  obtain ⟨len, hle⟩ : ∃ n, n = l.length := ⟨_, rfl⟩
  have HLE : Hid (len = l.length) := hle
  rw [← hle] at hc hl HV ⊢
  clear hle hv hp hB
  go_enter Tryz.func66, Tryz.ntmps66
  go_wp2
  go_loopw [8] (fun x8 wr => ∃ (i : Nat), i ≤ len ∧ x8 = .int .i64 (i : Int) ∧ Hid (∀ x ∈ l.take i, p x = false) ∧ Hid (∃ nd, wr = w.drewN nd)) (fun x8 _ => len - (intOf x8).toNat)
  case atStart => exact ⟨0, Nat.zero_le _, rfl, (fun x hx => by simp at hx), ⟨0, rfl⟩⟩
  case round =>
    obtain ⟨i, hi, rfl, HNI, HBr⟩ := hrel
    have hb1 : Below w.heap.size w wr := by obtain ⟨nd, e⟩ := HBr.out; rw [e]; exact below_drewN' (Below.refl _ _) _
    have ho1 : OnlyB G w0 wr := by obtain ⟨nd, e⟩ := HBr.out; rw [e]; exact HB.out.drewN _
    by_cases hil : i < len
    · have hin : i < l.length := by rw [← HLE.out]; exact hil
      obtain ⟨ga, oa, rfl, _, hga, e0⟩ := HV.out.at HLE.out hin
      obtain ⟨y, hy⟩ : ∃ y, y = l[i] := ⟨_, rfl⟩
      have HY : Hid (y = l[i]) := hy
      rw [← hy] at e0
      have e1 : wr.cell? ⟨ga, oa + i, none⟩ = some (.int .i64 (y : Int)) := (hb1.cell (p := ⟨ga, _, none⟩) hga).trans e0
      have hcl := HP.out.2 y (by rw [hy]; exact List.getElem_mem hin) wr ho1
      have hi0 : (0 : Int) ≤ (i : Int) := by omega
      have hi1 : (i : Int) < (len : Int) := by omega
      obtain ⟨b, hb⟩ : ∃ b, b = p y := ⟨_, rfl⟩
      rw [← hb] at hcl
      have HBB : Hid (b = p y) := hb
      clear hy hb e0
      cases b with
      | true =>
        go_wp2_with fail
        refine hcl.mono ?_
        rintro e w1 ⟨rfl, nd1, hB1⟩
        have HB1 : Hid (∃ nd, w1 = w.drewN nd) := by obtain ⟨nd, e⟩ := HBr.out; exact ⟨nd + nd1, by rw [hB1, e]; simp [World.drewN, Nat.add_assoc]⟩
        clear hcl hB1
        go_wp2
        go_ret
        exact ⟨i, rfl, .inr ⟨i, hin, rfl, by rw [← HY.out]; exact HBB.out.symm, HNI.out⟩, HB1.out⟩
      | false =>
        go_wp2_with fail
        refine hcl.mono ?_
        rintro e w1 ⟨rfl, nd1, hB1⟩
        have HB1 : Hid (∃ nd, w1 = w.drewN nd) := by obtain ⟨nd, e⟩ := HBr.out; exact ⟨nd + nd1, by rw [hB1, e]; simp [World.drewN, Nat.add_assoc]⟩
        have HN2 : Hid (∀ x ∈ l.take (i + 1), p x = false) := fun x hx => by
          rw [List.take_add_one, List.getElem?_eq_getElem hin, ← HY.out] at hx
          simp only [Option.toList_some, List.mem_append, List.mem_singleton] at hx
          rcases hx with hx | rfl
          · exact HNI.out x hx
          · exact HBB.out.symm
        clear hcl hB1
        go_wp2
        go_roundw
        case rel => exact ⟨i + 1, by omega, by go_num, HN2, HB1⟩
        case measure => simp [intOf]; omega
    · obtain rfl : i = len := by omega
      have HEQ : Hid (l.take i = l) := List.take_of_length_le (by rw [← HLE.out]; exact Nat.le_refl _)
      go_wp2
      go_ret
      refine ⟨-1, rfl, .inl ⟨rfl, ?_⟩, HBr.out⟩
      have := HNI.out
      rw [HEQ.out] at this
      exact this

/-- The row's cells: what was kept, and what has not been looked at. -/
def DlI13 (g : Nat) (cap : Nat) (p : Nat → Bool) (l : List Nat) (j : Nat) (w : World) : Prop :=
  ∃ cur : Array Value, w.heap[g]? = some (.cells cur 3 (0, 0)) ∧ cur.size = cap ∧ (∀ t, (h : t < ((l.take j).filter fun x => !p x).length) → cur[t]? = some (.int .i64 ((((l.take j).filter fun x => !p x)[t] : Nat) : Int))) ∧ ∀ t, (h : t < l.length) → j ≤ t → cur[t]? = some (.int .i64 (l[t] : Int))
theorem setCells_only13 (g : Nat) : ∀ (vs : List Value) (o : Nat) (w : World), OnlyB g w (w.setCells g o vs)
  | [], o, w => OnlyB.refl _ _
  | v :: vs, o, w => ((OnlyB.refl _ _).set _ v).trans (setCells_only13 g vs (o + 1) _)
set_option maxRecDepth 100000 in
set_option maxHeartbeats 8000000 in
theorem del13 (g : Nat) (caps : Array Value) (G0 : Nat) (w0 : World) (p : Nat → Bool) (l : List Nat) (v : Value) (w : World) (base : Nat) (hp : PrdG g caps G0 w0 p l) (hB : OnlyB G0 w0 w) (hG0 : v.ownBlock = some G0) (hv : w.ownsRow base 3 1 v l.length (cellP l)) (hl : l.length ≤ 100000) :
    Calls Tryz.prog 70 #[v, .func (.func g) #[] caps] w fun e w' => ∃ v', e = .returned v' ∧ w'.ownsRow base 3 1 v' (l.filter fun x => !p x).length (cellP (l.filter fun x => !p x)) ∧ (v'.ownBlock = some G0) ∧ OnlyB G0 w w' := by
  have hc := idx13 g caps G0 w0 p l v w hp hB (plc_of_row hv (Nat.zero_le _)) hl
  have HP : Hid (PrdG g caps G0 w0 p l) := hp
  have HB : Hid (OnlyB G0 w0 w) := hB
  have HV : Hid (w.ownsRow base 3 1 v l.length (cellP l)) := hv
  have eg := hp.1
  obtain ⟨va, vn, vc, hev⟩ := own_any hv
  subst hev
  have hvn : vn = l.length := by
    rcases hv.2 with ⟨e, h0⟩ | ⟨g', cap, cur, e, _⟩
    · have : vn = 0 := by simp at e; exact e.2.1
      omega
    · simp at e; exact e.2.1
  have HVN : Hid (vn = l.length) := hvn
  have hl' : vn ≤ 100000 := by omega
  clear hp hB hv hvn
  go_enter Tryz.func70, Tryz.ntmps70
  go_wp2_with fail
  refine hc.mono ?_
  rintro e w1 ⟨r, rfl, hr, nd1, hB1e⟩
  have hB1 : Below w.heap.size w w1 := by rw [hB1e]; exact below_drewN' (Below.refl _ _) _
  have HB1 : Hid (OnlyB G0 w w1) := by rw [hB1e]; exact (OnlyB.refl _ _).drewN _
  have HB1b : Hid (Below w.heap.size w w1) := hB1
  clear hB1e
  rcases hr with ⟨rfl, hall⟩ | ⟨i0, hi0, rfl, hpi, hall⟩
  · have HF : Hid (l.filter (fun x => !p x) = l) := by
      show _ = _
      rw [List.filter_eq_self]
      intro x hx; rw [hall x hx]; rfl
    clear hc hB1 hall
    go_wp2
    go_ret
    refine ⟨_, rfl, ?_, hG0, HB1.out⟩
    rw [HF.out]
    exact ownsRow_below HV.out HB1b.out
  · have hvl : 0 < vn := by have := HVN.out; omega
    obtain ⟨G, hva, hbG, hcp, hmx, HD⟩ : ∃ G, va = some ⟨G, 0, none⟩ ∧ base ≤ G ∧ vn ≤ vc ∧ vc ≤ maxLen ∧ Hid (DlI13 G vc p l (i0 + 1) w1 ∧ ((l.take (i0 + 1)).filter fun x => !p x).length = i0) := by
      rcases HV.out.2 with ⟨e, h0⟩ | ⟨g', cap, cur, e, h1, h2, h3, h4, h5, h6⟩
      · have := HVN.out; omega
      · obtain ⟨rfl, hq, rfl⟩ : va = some ⟨g', 0, none⟩ ∧ vn = l.length ∧ vc = cap := by simpa using e
        have hft : (l.take i0).filter (fun x => !p x) = l.take i0 := by
          rw [List.filter_eq_self]
          intro x hx; rw [hall x hx]; rfl
        have htk : (l.take (i0 + 1)).filter (fun x => !p x) = l.take i0 := by
          rw [List.take_add_one, List.getElem?_eq_getElem hi0, List.filter_append, hft]
          simp [hpi]
        have hcell : ∀ t, (h : t < l.length) → cur[t]? = some (.int .i64 (l[t] : Int)) := fun t ht => by
          have := congrArg (fun q => q[t]?) h6
          simp only [List.getElem?_take, Nat.mul_one] at this
          rw [if_pos ht] at this
          rw [← Array.getElem?_toList, this]
          simp [cellP, ht]
        refine ⟨g', rfl, h1, by omega, h4, ⟨cur, (hB1.block _ (lt_of_heap h2)).trans h2, by simpa using h5, fun t ht => ?_, fun t ht _ => hcell t ht⟩, by rw [htk, List.length_take]; omega⟩
        have ht' : t < i0 := by rw [htk, List.length_take] at ht; omega
        rw [hcell t (by omega)]
        simp only [htk, List.getElem_take]
    subst hva
    obtain rfl : G = G0 := by injection hG0
    have hlt : vn ≤ vc := hcp
    have hneq : (((i0 : Nat) : Int) == -1) = false := beq_eq_false_iff_ne.2 (by omega)
    have hib : i0 < vn := by have := HVN.out; omega
    clear hc hB1 hall hpi
    go_wp2
    go_loopw [5, 6] (fun x5 x6 wr => ∃ (i j : Nat), j ≤ vn ∧ i < j ∧ x5 = .int .i64 (i : Int) ∧ x6 = .int .i64 (j : Int) ∧ Hid (DlI13 G vc p l j wr ∧ ((l.take j).filter fun x => !p x).length = i) ∧ Hid (OnlyB G w wr)) (fun _ x6 _ => vn - (intOf x6).toNat)
    case atStart => exact ⟨i0, i0 + 1, by omega, by omega, rfl, by go_num, HD, HB1.out⟩
    case round =>
      obtain ⟨i, j, hj, hij, rfl, rfl, HDr, HBr⟩ := hrel
      have hwsz : w.heap.size ≤ wr.heap.size := by rw [HBr.out.size]; exact Nat.le_refl _
      by_cases hjl : j < vn
      · have hjn : j < l.length := by rw [← HVN.out]; exact hjl
        obtain ⟨⟨cur, hc1, hc2, hc3, hc4⟩, hlen⟩ := HDr.out
        obtain ⟨y, hy⟩ : ∃ y, y = l[j] := ⟨_, rfl⟩
        have HY : Hid (y = l[j]) := hy
        have e1 : wr.cell? ⟨G, j, none⟩ = some (.int .i64 (y : Int)) := by rw [cell_in hc1, hy]; exact hc4 j hjn (Nat.le_refl _)
        have hGl : G < wr.heap.size := lt_of_heap hc1
        have hcl := HP.out.2 y (by rw [hy]; exact List.getElem_mem hjn) wr (HB.out.trans HBr.out)
        have hj0 : (0 : Int) ≤ (j : Int) := by omega
        have hj1 : (j : Int) < (vn : Int) := by omega
        have hi0' : (0 : Int) ≤ (i : Int) := by omega
        have hi1 : (i : Int) < (vn : Int) := by omega
        have hi2 : i < vn := by omega
        obtain ⟨b, hb⟩ : ∃ b, b = p y := ⟨_, rfl⟩
        rw [← hb] at hcl
        have HBB : Hid (b = p y) := hb
        have HTK : Hid ((l.take (j + 1)).filter (fun x => !p x) = (l.take j).filter (fun x => !p x) ++ (if b then [] else [y])) := by
          show _ = _
          rw [List.take_add_one, List.getElem?_eq_getElem hjn, List.filter_append, ← hy, hb]
          congr 1
          cases h : p y <;> simp [h]
        have HDC : Hid (DlI13 G vc p l j wr ∧ ((l.take j).filter fun x => !p x).length = i) := HDr
        clear hy hb hc1 hc2 hc3 hc4 hlen
        cases b with
        | true =>
          go_wp2_with fail
          refine hcl.mono ?_
          rintro e w2 ⟨rfl, nd2, hB2e⟩
          have hB2 : Below wr.heap.size wr w2 := by rw [hB2e]; exact below_drewN' (Below.refl _ _) _
          have HB2 : Hid (OnlyB G w w2) := by rw [hB2e]; exact HBr.out.drewN _
          clear hB2e
          have HD2 : Hid (DlI13 G vc p l (j + 1) w2 ∧ ((l.take (j + 1)).filter fun x => !p x).length = i) := by
            obtain ⟨⟨cur, hc1, hc2, hc3, hc4⟩, hlen⟩ := HDC.out
            have e : (l.take (j + 1)).filter (fun x => !p x) = (l.take j).filter (fun x => !p x) := by rw [HTK.out]; simp
            refine ⟨⟨cur, (hB2.block _ hGl).trans hc1, hc2, fun t ht => ?_, fun t ht h => hc4 t ht (by omega)⟩, by rw [e]; exact hlen⟩
            have ht' : t < ((l.take j).filter fun x => !p x).length := by rw [e] at ht; exact ht
            rw [hc3 t ht']
            simp only [e]
          clear hcl hB2
          go_wp2
          go_roundw
          case rel => exact ⟨i, j + 1, by omega, by omega, rfl, by go_num, HD2, HB2⟩
          case measure => simp [intOf]; omega
        | false =>
          go_wp2_with fail
          refine hcl.mono ?_
          rintro e w2 ⟨rfl, nd2, hB2e⟩
          have hB2 : Below wr.heap.size wr w2 := by rw [hB2e]; exact below_drewN' (Below.refl _ _) _
          have hO2 : OnlyB G w w2 := by rw [hB2e]; exact HBr.out.drewN _
          clear hB2e
          obtain ⟨⟨cur, hc1, hc2, hc3, hc4⟩, hlen⟩ := HDC.out
          have hw2 : w2.heap[G]? = some (.cells cur 3 (0, 0)) := (hB2.block _ hGl).trans hc1
          have hic : i < cur.size := by omega
          have e5 : w2.cell? ⟨G, i, none⟩ = some cur[i] := by rw [cell_in hw2, Array.getElem?_eq_getElem hic]
          have f5 : w2.frozen? ⟨G, i, none⟩ = false := by simp [World.frozen?, hw2]
          have HD2 : Hid (DlI13 G vc p l (j + 1) (w2.setCell ⟨G, i, none⟩ (.int .i64 (y : Int))) ∧ ((l.take (j + 1)).filter fun x => !p x).length = i + 1) := by
            have e : (l.take (j + 1)).filter (fun x => !p x) = (l.take j).filter (fun x => !p x) ++ [y] := by rw [HTK.out]; simp
            refine ⟨⟨_, heap_setN hw2 _, by simpa using hc2, fun t ht => ?_, fun t ht h => ?_⟩, by rw [e, List.length_append, hlen]; rfl⟩
            · by_cases q : t < i
              · rw [Array.getElem?_setIfInBounds_ne (by omega), hc3 t (by omega)]
                simp only [e]
                rw [List.getElem_append_left (by omega)]
              · have ht2 : t = i := by rw [e, List.length_append, hlen] at ht; simp at ht; omega
                subst ht2
                rw [Array.getElem?_setIfInBounds_self_of_lt hic]
                simp only [e]
                rw [List.getElem_append_right (by omega)]
                simp [hlen]
            · rw [Array.getElem?_setIfInBounds_ne (by omega)]
              exact hc4 t ht (by omega)
          have HB2 : Hid (OnlyB G w (w2.setCell ⟨G, i, none⟩ (.int .i64 (y : Int)))) := hO2.set _ _
          clear hO2 hcl hB2 hc1 hc2 hc3 hc4 hlen hw2
          go_wp2
          go_roundw
          case rel => exact ⟨i + 1, j + 1, by omega, by omega, by go_num, by go_num, HD2, HB2⟩
          case measure => simp [intOf]; omega
      · obtain rfl : j = vn := by omega
        obtain ⟨⟨cur, hc1, hc2, hc3, hc4⟩, hlen⟩ := HDr.out
        have HEQ : Hid (l.take j = l) := List.take_of_length_le (by rw [← HVN.out]; exact Nat.le_refl _)
        have v23 : ∀ w, (zeroValue 3).run Tryz.prog w = .ok (.int .i64 0) w := fun w => by
          obtain ⟨i0', hI0, hZ0, _, _⟩ := info_parts Tryz.infoInt
          simp [zeroValue, typeInfo, hI0, hZ0]
        have hcl : ∀ ty, (Builtin.clear_ #[26] ty #[.slice (some ⟨G, i, none⟩) (j - i) (vc - i)]).run Tryz.prog wr = .ok (.tuple #[]) (wr.setCells G i (List.replicate (j - i) (.int .i64 0))) := fun ty => Lib.run_clear_slice wr 26 3 ty (.int .i64 0) Tryz.underlying26 v23 rfl rfl G i (j - i) (vc - i) (by omega) (fun t ht => by rw [cell_in hc1, Array.getElem?_eq_getElem (by omega)]; rfl) (fun t ht => by simp [World.frozen?, hc1])
        have HFIN : Hid (∃ cur', (wr.setCells G i (List.replicate (j - i) (.int .i64 0))).heap[G]? = some (.cells cur' 3 (0, 0)) ∧ cur'.size = cur.size ∧ ∀ t, t < i → cur'[t]? = cur[t]?) := setCells_at G _ i wr cur _ hc1
        have HBF : Hid (OnlyB G w (wr.setCells G i (List.replicate (j - i) (.int .i64 0)))) := HBr.out.trans (setCells_only13 G _ i wr)
        have HC3 : Hid (cur.size = vc ∧ i = (l.filter fun x => !p x).length ∧ ∀ t, (h : t < (l.filter fun x => !p x).length) → cur[t]? = some (.int .i64 (((l.filter fun x => !p x)[t] : Nat) : Int))) := by
          rw [HEQ.out] at hlen hc3
          exact ⟨hc2, hlen.symm, hc3⟩
        have hib2 : i < j := hij
        have hic : ¬ vc = i := by omega
        have hivc : i ≤ vc := by omega
        have hmx2 : vc ≤ 9223372036854775807 := by unfold maxLen at hmx; omega
        clear hc1 hc2 hc3 hc4 hlen v23
        go_wp2
        go_ret
        obtain ⟨cur', q1, q2, q3⟩ := HFIN.out
        obtain ⟨r1, r2, r3⟩ := HC3.out
        refine ⟨_, rfl, ⟨by simp [cellP], .inr ⟨G, vc, cur', by rw [← r2]; rfl, hbG, q1, by omega, hmx, by rw [q2, r1]; simp, ?_⟩⟩, rfl, HBF.out⟩
        apply List.ext_getElem?
        intro t
        rw [Nat.mul_one, List.getElem?_take]
        by_cases ht : t < (l.filter fun x => !p x).length
        · rw [if_pos ht, Array.getElem?_toList, q3 t (by omega), r3 t ht]
          simp only [cellP, List.getElem?_map, List.getElem?_eq_getElem ht, Option.map_some]
        · rw [if_neg ht, List.getElem?_eq_none (by rw [cellP_length]; omega)]
end Go.Proofs.YtklhjjgnhigbiaaGreatDoor
