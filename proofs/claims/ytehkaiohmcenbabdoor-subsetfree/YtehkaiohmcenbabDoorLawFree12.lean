/-
  scansionlaw12.SubsetFree.
-/
import Derived.Test.YtehkaiohmcenbabDoorSbWord
import Derived.Test.YtehkaiohmcenbabDoorSbApp
import Derived.Deep.RegionLaw
import Derived.Deep.CutRange
namespace Go.Proofs.YtehkaiohmcenbabDoor
open Go.RowKit Go.Shelf
set_option linter.unusedVariables false

/-- What the states of an expression, free and not, tell of a word and of one behind others. -/
theorem free_tell {a : Nd} (he : errF a = 0) (ms : List Nat) (us cs : List Int) (h1 : 1 ≤ ms.length) (h2 : ms.length ≤ 200) (hu : us.all (inB ms.length) = true) (hc : cs.all (inB ms.length) = true) :
    (errD (autF a) false ms 100 = 8 ∨ errD (autF a) false ms 100 = 0) ∧ (errD (autF a) true ms 100 = 8 ∨ errD (autF a) true ms 100 = 0) ∧
    (errD (autF a) false ms 100 = 0 → errD (autF a) true ms 100 = 0 → ∃ (q r : Nat) (x y : Bool), runV (intsL (dfaD (autF a) false ms 100).1) (dfaD (autF a) false ms 100).2 0 cs = (q : Int) ∧ runE (intsL (dfaD (autF a) false ms 100).1) (dfaD (autF a) false ms 100).2 0 cs = 0 ∧ runV (intsL (dfaD (autF a) true ms 100).1) (dfaD (autF a) true ms 100).2 0 (us ++ cs) = (r : Int) ∧ runE (intsL (dfaD (autF a) true ms 100).1) (dfaD (autF a) true ms 100).2 0 (us ++ cs) = 0 ∧ (∃ hq : q < (dfaD (autF a) false ms 100).2.length, (dfaD (autF a) false ms 100).2[q] = x) ∧ (∃ hr : r < (dfaD (autF a) true ms 100).2.length, (dfaD (autF a) true ms 100).2[r] = y) ∧ (x = true → y = true)) := by
  have hbad : ¬ (ms.length < 1 ∨ 200 < ms.length ∨ (100 : Int) < 1 ∨ 5000 < (100 : Int)) := by omega
  have huc : (us ++ cs).all (inB ms.length) = true := by rw [List.all_append, hu, hc]; rfl
  cases hq : ansB (autF a) false ms 100 with
  | none =>
    have e1 := (errD_none (lim := 100) hbad hq).1
    cases hr : ansB (autF a) true ms 100 with
    | none => exact ⟨.inl e1, .inl (errD_none (lim := 100) hbad hr).1, fun h => by rw [e1] at h; cases h⟩
    | some b => exact ⟨.inl e1, .inr (errD_some (lim := 100) hbad hr).1, fun h => by rw [e1] at h; cases h⟩
  | some b =>
    obtain ⟨e1, e2⟩ := errD_some (lim := 100) hbad hq
    cases hr : ansB (autF a) true ms 100 with
    | none =>
      have e3 := (errD_none (lim := 100) hbad hr).1
      exact ⟨.inr e1, .inl e3, fun _ h => by rw [e3] at h; cases h⟩
    | some c =>
      obtain ⟨e3, e4⟩ := errD_some (lim := 100) hbad hr
      refine ⟨.inr e1, .inr e3, fun _ _ => ?_⟩
      rw [e2, e4]
      obtain ⟨q, h3, h4, h5, h6⟩ := ans_run hq (by omega) (by omega) h1 h2 cs hc
      obtain ⟨r, k3, k4, k5, k6⟩ := ans_run hr (by omega) (by omega) h1 h2 (us ++ cs) huc
      refine ⟨q, r, _, _, h3, h4, k3, k4, ⟨h5, h6⟩, ⟨k5, k6⟩, fun h => ?_⟩
      have := free_more (autF a) (wordL ms us) (wordL ms cs) h
      rw [show wordL ms (us ++ cs) = wordL ms us ++ wordL ms cs by simp [wordL]]
      exact this

set_option maxRecDepth 100000 in
set_option maxHeartbeats 32000000 in
theorem subsetFree_any (a : Nd) (za : Value) (uv : Value) (us : List Int) (cv : Value) (cs : List Int) (w : World) (hT : TabW w) (hP : PowW w) (ha : KdX (fun k => k < w.heap.size) w za a.kids) (huv : IntsAt w uv us) (hul : us.length ≤ 140737488355328) (hcv : IntsAt w cv cs) (hcl : cs.length ≤ 140737488355328) :
    Calls Tryd.prog 4 #[ndV a za, uv, cv] w fun e w' => e = .returned (.bool true) ∧ Below w.heap.size w w' := by
  obtain ⟨i0, hi0, hz0, hz1, hz2⟩ := info_parts Tryd.infoInt
  obtain ⟨na, ca, rfl, _⟩ := ha.slice
  have HKD : Hid (KdX (fun k => k < w.heap.size) w (.slice na a.kids.length ca) a.kids) := ha
  have HT : Hid (TabW w) := hT
  have HP : Hid (PowW w) := hP
  have HUV : Hid (IntsAt w uv us) := huv
  have HCV : Hid (IntsAt w cv cs) := hcv
  obtain ⟨pa, pc, hpe, hpc⟩ := huv.slice
  obtain ⟨qa, qc, hqe, hqc⟩ := hcv.slice
  obtain ⟨W0, hW0⟩ : ∃ W, W = w.alloc (.cells #[.int .i64 a.k, .int .i64 a.s, .slice na a.kids.length ca] 24) := ⟨_, rfl⟩
  have hB0 : Below w.heap.size w W0 := by rw [hW0]; exact below_alloc _ _
  have hbA : Box W0 w.heap.size a.k a.s (.slice na a.kids.length ca) := by rw [hW0]; exact box_new _ _ _ _
  have HFW : Hid (∀ W x, Below w.heap.size w W → Calls Tryd.prog 6 #[ndV a (.slice na a.kids.length ca), .slice x 4 4] W fun e w' => ∃ b, e = .returned (.bool b) ∧ (b = true → Dp 10 a.kids) ∧ Below W.heap.size W w') := fun W x h => (few_any12 a _ x 4 4 W (kdx_below ha h)).mono fun e w' ⟨b, h1, h2, h3⟩ => ⟨b, h1, fun q => (h2 q).1, h3⟩
  have HBD : Hid (∀ W, Dp 10 a.kids → Below w.heap.size w W → Calls Tryd.prog 7 #[.agg #[.int .i64 a.k, .int .i64 a.s, .slice na a.kids.length ca]] W (BldA a W)) := fun W hd hb => rbuild_any 10 a na ca W hd (kdx_below ha hb)
  unfold ndV at HFW ⊢
  obtain ⟨nk, hnk⟩ : ∃ x, x = a.k := ⟨_, rfl⟩
  obtain ⟨ns, hns⟩ : ∃ x, x = a.s := ⟨_, rfl⟩
  obtain ⟨nl, hnl⟩ : ∃ x, x = a.kids.length := ⟨_, rfl⟩
  obtain ⟨K, hK⟩ : ∃ x, x = us.length := ⟨_, rfl⟩
  obtain ⟨L, hL⟩ : ∃ x, x = cs.length := ⟨_, rfl⟩
  have HK : Hid (K = us.length) := hK
  have HL : Hid (L = cs.length) := hL
  rw [← hnk, ← hns, ← hnl] at HFW hbA hW0 HBD ⊢
  rw [← hK] at hpe hpc
  rw [← hL] at hqe hqc
  subst hpe hqe
  have HIN1 : Hid (∀ W, Below w.heap.size w W → Calls Tryd.prog 10 #[.slice pa K pc, .int .i64 4] W fun e w' => e = .returned (.bool (us.all (inB 4) && decide (us.length ≤ 20))) ∧ w' = W) := fun W hb => inside_any us _ 4 W (huv.below hb) hul
  have HIN2 : Hid (∀ W, Below w.heap.size w W → Calls Tryd.prog 10 #[.slice qa L qc, .int .i64 4] W fun e w' => e = .returned (.bool (cs.all (inB 4) && decide (cs.length ≤ 20))) ∧ w' = W) := fun W hb => inside_any cs _ 4 W (hcv.below hb) hcl
  have HB0 : Hid (Below w.heap.size w W0) := hB0
  have HBA : Hid (Box W0 w.heap.size nk ns (.slice na nl ca)) := hbA
  have HW0 : Hid (W0 = _) := hW0
  have haw := awake_any12 W0 (hT.below hB0) (hP.below hB0)
  rw [hW0] at haw
  clear hnk hns hnl hK hL ha hB0 hbA hT hP huv hul hcv hcl hW0
  go_enter Tryd.func4, Tryd.ntmps4
  go_wp2_with fail
  refine haw.mono ?_
  rw [← HW0.out]
  rintro e w1 ⟨rfl, hB1⟩
  obtain ⟨W1, hW1⟩ : ∃ W, W = w1.alloc (.cells #[.int .u64 0, .int .u64 1, .int .u64 2, .int .u64 3] 42) := ⟨_, rfl⟩
  have hBm : Below w1.heap.size w1 W1 := by rw [hW1]; exact below_alloc _ _
  have HB1 : Hid (Below W0.heap.size W0 W1) := below_after hB1 hBm
  have HMV : Hid (WrdAt W1.heap.size W1 (.slice (some ⟨w1.heap.size, 0, none⟩) 4 4) [0, 1, 2, 3]) := by
    have hq : W1.heap[w1.heap.size]? = some (.cells #[.int .u64 0, .int .u64 1, .int .u64 2, .int .u64 3] 42 (0, 0)) := by rw [hW1]; exact heap_new' _ _
    refine ⟨_, 4, rfl, Nat.le_refl _, fun i hi => ?_⟩
    have h4 : i < 4 := hi
    refine ⟨?_, w1.heap.size, 0, rfl, lt_of_heap hq, ?_⟩
    · rcases i with _ | _ | _ | _ | i
      · show (0 : Nat) < 18446744073709551616; decide
      · show (1 : Nat) < 18446744073709551616; decide
      · show (2 : Nat) < 18446744073709551616; decide
      · show (3 : Nat) < 18446744073709551616; decide
      · omega
    · rcases i with _ | _ | _ | _ | i
      · exact cell_in hq 0
      · exact cell_in hq 1
      · exact cell_in hq 2
      · exact cell_in hq 3
      · omega
  obtain ⟨gm, hgm⟩ : ∃ g, g = w1.heap.size := ⟨_, rfl⟩
  have HW1 : Hid (W1 = _) := hW1
  rw [← hgm] at HMV
  obtain ⟨a0, a1, a2⟩ : _ ∧ _ ∧ _ := ⟨(HBA.out.below HB1.out).c0, (HBA.out.below HB1.out).c1, (HBA.out.below HB1.out).c2⟩
  have hf1 := HFW.out W1 (some ⟨gm, 0, none⟩) (below_after HB0.out HB1.out)
  clear haw hB1 hBm hW1
  go_upto_region 3 with fail
  rw [← HW1.out]
  rw [← hgm]
  clear hgm HW1
  go_wp2_with fail
  refine hf1.mono ?_
  rintro e w2 ⟨ok, rfl, hok, hB2⟩
  have HB12 : Hid (Below W1.heap.size W1 w2) := hB2
  have HB2 : Hid (Below W0.heap.size W0 w2) := below_after HB1.out hB2
  have HBW2 : Hid (Below w.heap.size w w2) := below_after HB0.out HB2.out
  have HOK : Hid (ok = true → Dp 10 a.kids) := hok
  have hi1 := HIN1.out w2 HBW2.out
  have hi2 := HIN2.out w2 HBW2.out
  obtain ⟨ib, hib⟩ : ∃ x, x = (us.all (inB 4) && decide (us.length ≤ 20)) := ⟨_, rfl⟩
  obtain ⟨ic, hic⟩ : ∃ x, x = (cs.all (inB 4) && decide (cs.length ≤ 20)) := ⟨_, rfl⟩
  have HIB : Hid (ib = (us.all (inB 4) && decide (us.length ≤ 20))) := hib
  have HIC : Hid (ic = (cs.all (inB 4) && decide (cs.length ≤ 20))) := hic
  rw [← hib] at hi1
  rw [← hic] at hi2
  clear hf1 hB2 a0 a1 a2 hok hib hic
  go_wp2_with fail
  refine hi1.mono ?_
  rintro e w3 ⟨rfl, hw3⟩
  obtain rfl := hw3.symm
  clear hi1
  go_wp2_with fail
  refine hi2.mono ?_
  rintro e w3 ⟨rfl, hw3⟩
  obtain rfl := hw3.symm
  clear hi2
  cases ok with
  | false =>
    go_wp2
    go_ret
    exact ⟨rfl, HBW2.out⟩
  | true =>
  cases ib with
  | false =>
    go_wp2
    go_ret
    exact ⟨rfl, HBW2.out⟩
  | true =>
  cases ic with
  | false =>
    go_wp2
    go_ret
    exact ⟨rfl, HBW2.out⟩
  | true =>
  have HDP : Hid (Dp 10 a.kids) := HOK.out rfl
  have HUA : Hid (us.all (inB 4) = true ∧ us.length ≤ 20) := by
    have := HIB.out.symm
    rw [Bool.and_eq_true] at this
    exact ⟨this.1, of_decide_eq_true this.2⟩
  have HCA : Hid (cs.all (inB 4) = true ∧ cs.length ≤ 20) := by
    have := HIC.out.symm
    rw [Bool.and_eq_true] at this
    exact ⟨this.1, of_decide_eq_true this.2⟩
  obtain ⟨a0, a1, a2⟩ : _ ∧ _ ∧ _ := ⟨(HBA.out.below HB2.out).c0, (HBA.out.below HB2.out).c1, (HBA.out.below HB2.out).c2⟩
  have hlt1 : w.heap.size < w2.heap.size := (HBA.out.below HB2.out).lt
  have hbd := HBD.out w2 HDP.out HBW2.out
  clear HOK
  go_wp2_with fail
  refine hbd.mono ?_
  rintro e w4 ⟨av, rfl, hav, hB4⟩
  have HAV : Hid (AutAt w4 av (autF a)) := hav
  obtain ⟨sv, fv, lv, wv, hev, hs, hf, hl, hw⟩ := hav
  subst hev
  obtain ⟨sa, sc, hes, _⟩ := hs.slice
  obtain ⟨fa, fc, hef, _⟩ := hf.slice
  obtain ⟨la, lc, hel, _⟩ := hl.slice
  obtain ⟨xa, xc, hex, _⟩ := hw.slice
  obtain ⟨er, her⟩ : ∃ x, x = errF a := ⟨_, rfl⟩
  obtain ⟨n1, hn1⟩ : ∃ x, x = (autF a).null := ⟨_, rfl⟩
  obtain ⟨sl, hsl⟩ : ∃ x, x = (autF a).sets.length := ⟨_, rfl⟩
  obtain ⟨fl, hfl⟩ : ∃ x, x = (autF a).first.length := ⟨_, rfl⟩
  obtain ⟨ll, hll⟩ : ∃ x, x = (autF a).last.length := ⟨_, rfl⟩
  obtain ⟨xl, hxl⟩ : ∃ x, x = (autF a).fol.length := ⟨_, rfl⟩
  rw [← hsl] at hes
  rw [← hfl] at hef
  rw [← hll] at hel
  rw [← hxl] at hex
  subst hes hef hel hex
  rw [← hn1, ← her]
  rw [← hn1] at HAV
  have HE1 : Hid (er = errF a) := her
  have HBW4 : Hid (Below w.heap.size w w4) := below_after HBW2.out hB4
  have HB14 : Hid (Below W1.heap.size W1 w4) := below_after HB12.out hB4
  clear hbd hs hf hl hw hB4 hn1 hsl hfl hll hxl her a0 a1 a2 hlt1
  by_cases he : er = 0
  case neg =>
    have hne : (er != 0) = true := by simpa using he
    go_wp2
    go_ret
    exact ⟨rfl, HBW4.out.alloc HBW4.out.size _⟩
  case pos =>
  subst he
  have HEZ : Hid (errF a = 0) := HE1.out.symm
  obtain ⟨W4, hW4⟩ : ∃ W, W = w4.alloc (.cells #[.bool n1, .slice sa sl sc, .slice fa fl fc, .slice la ll lc, .slice xa xl xc] 31) := ⟨_, rfl⟩
  have hBW : Below w4.heap.size w4 W4 := by rw [hW4]; exact below_alloc _ _
  have HA1 : Hid (ABox W4 w4.heap.size n1 (.slice sa sl sc) (.slice fa fl fc) (.slice la ll lc) (.slice xa xl xc)) := by rw [hW4]; exact heap_new' _ _
  have HAU : Hid (AutAt W4 (.agg #[.bool n1, .slice sa sl sc, .slice fa fl fc, .slice la ll lc, .slice xa xl xc]) (autF a)) := HAV.out.below hBW
  have HBWW : Hid (Below w.heap.size w W4) := below_after HBW4.out hBW
  have HB1W : Hid (Below W1.heap.size W1 W4) := below_after HB14.out hBW
  have HSB : Hid (∀ W free, Below W4.heap.size W4 W → Calls Tryd.prog 8 #[.agg #[.bool n1, .slice sa sl sc, .slice fa fl fc, .slice la ll lc, .slice xa xl xc], .slice (some ⟨gm, 0, none⟩) 4 4, .bool free, .int .i64 100] W (SbdA (autF a) free [0, 1, 2, 3] 100 W)) := fun W free hb => by
    have hb2 := below_after HBWW.out hb
    have hmv := wrd_below HMV.out (below_after HB1W.out hb)
    exact sbuild_any (autF a) _ [0, 1, 2, 3] _ free 100 W (HT.out.below hb2) (HP.out.below hb2) (HAU.out.below hb) (okA_of HEZ.out) hmv (by decide)
  have HTEL : Hid _ := free_tell HEZ.out [0, 1, 2, 3] us cs (by decide) (by decide) HUA.out.1 HCA.out.1
  have hs1 := HSB.out W4 false (Below.refl _ _)
  obtain ⟨b0, b1, b2, b3, b4⟩ : _ ∧ _ ∧ _ ∧ _ ∧ _ := ⟨HA1.out.c0, HA1.out.c1, HA1.out.c2, HA1.out.c3, HA1.out.c4⟩
  have hlt4 := HA1.out.lt
  have HW4 : Hid (W4 = _) := hW4
  clear hBW hW4
  go_upto_region 11 with fail
  rw [← HW4.out]
  go_wp2_with fail
  refine hs1.mono ?_
  rintro e w5 ⟨dv, rfl, hd1, hB5⟩
  have HD1 : Hid (DfaAt w5 dv (intsL (dfaD (autF a) false [0, 1, 2, 3] 100).1) (dfaD (autF a) false [0, 1, 2, 3] 100).2) := hd1
  obtain ⟨nv1, fv1, rfl, ⟨ya, yc, rfl, _⟩, za, zc, rfl, _, _, _⟩ := hd1
  obtain ⟨yn, hyn⟩ : ∃ x, x = (intsL (dfaD (autF a) false [0, 1, 2, 3] 100).1).length := ⟨_, rfl⟩
  obtain ⟨zn, hzn⟩ : ∃ x, x = (dfaD (autF a) false [0, 1, 2, 3] 100).2.length := ⟨_, rfl⟩
  have HZN : Hid (zn = (dfaD (autF a) false [0, 1, 2, 3] 100).2.length) := hzn
  obtain ⟨f1, hf1⟩ : ∃ x, x = errD (autF a) false [0, 1, 2, 3] 100 := ⟨_, rfl⟩
  have HF1 : Hid (f1 = errD (autF a) false [0, 1, 2, 3] 100) := hf1
  rw [← hyn, ← hzn] at HD1
  rw [← hyn, ← hzn, ← hf1]
  obtain ⟨W5, hW5⟩ : ∃ W, W = w5.alloc (.cells #[.slice ya yn yc, .slice za zn zc] 37) := ⟨_, rfl⟩
  have hBW5 : Below w5.heap.size w5 W5 := by rw [hW5]; exact below_alloc _ _
  have HX1 : Hid (DBox W5 w5.heap.size (.slice ya yn yc) (.slice za zn zc)) := by rw [hW5]; exact heap_new' _ _
  have HD1' : Hid (DfaAt W5 (.agg #[.slice ya yn yc, .slice za zn zc]) (intsL (dfaD (autF a) false [0, 1, 2, 3] 100).1) (dfaD (autF a) false [0, 1, 2, 3] 100).2) := HD1.out.below hBW5
  have HB5 : Hid (Below W4.heap.size W4 W5) := below_after hB5 hBW5
  have HW5 : Hid (W5 = _) := hW5
  have hs2 := HSB.out W5 true HB5.out
  obtain ⟨c0, c1, c2, c3, c4⟩ : _ ∧ _ ∧ _ ∧ _ ∧ _ := ⟨(HA1.out.below HB5.out).c0, (HA1.out.below HB5.out).c1, (HA1.out.below HB5.out).c2, (HA1.out.below HB5.out).c3, (HA1.out.below HB5.out).c4⟩
  have hlt5 := (HA1.out.below HB5.out).lt
  clear hs1 hB5 hyn hzn hf1 hBW5 hW5 b0 b1 b2 b3 b4 hlt4 HD1
  go_upto_region 12 with fail
  rw [← HW5.out]
  go_wp2_with fail
  refine hs2.mono ?_
  rintro e w6 ⟨dv, rfl, hd2, hB6⟩
  have HD2 : Hid (DfaAt w6 dv (intsL (dfaD (autF a) true [0, 1, 2, 3] 100).1) (dfaD (autF a) true [0, 1, 2, 3] 100).2) := hd2
  obtain ⟨nv2, fv2, rfl, ⟨ua, uc, rfl, _⟩, va, vc, rfl, _, _, _⟩ := hd2
  obtain ⟨un, hun⟩ : ∃ x, x = (intsL (dfaD (autF a) true [0, 1, 2, 3] 100).1).length := ⟨_, rfl⟩
  obtain ⟨vn, hvn⟩ : ∃ x, x = (dfaD (autF a) true [0, 1, 2, 3] 100).2.length := ⟨_, rfl⟩
  have HVN : Hid (vn = (dfaD (autF a) true [0, 1, 2, 3] 100).2.length) := hvn
  obtain ⟨f2, hf2⟩ : ∃ x, x = errD (autF a) true [0, 1, 2, 3] 100 := ⟨_, rfl⟩
  have HF2 : Hid (f2 = errD (autF a) true [0, 1, 2, 3] 100) := hf2
  rw [← hun, ← hvn] at HD2
  rw [← hun, ← hvn, ← hf2]
  obtain ⟨W6, hW6⟩ : ∃ W, W = w6.alloc (.cells #[.slice ua un uc, .slice va vn vc] 37) := ⟨_, rfl⟩
  have hBW6 : Below w6.heap.size w6 W6 := by rw [hW6]; exact below_alloc _ _
  have HX2 : Hid (DBox W6 w6.heap.size (.slice ua un uc) (.slice va vn vc)) := by rw [hW6]; exact heap_new' _ _
  have HD2' : Hid (DfaAt W6 (.agg #[.slice ua un uc, .slice va vn vc]) (intsL (dfaD (autF a) true [0, 1, 2, 3] 100).1) (dfaD (autF a) true [0, 1, 2, 3] 100).2) := HD2.out.below hBW6
  have HB56 : Hid (Below W5.heap.size W5 W6) := below_after hB6 hBW6
  have HB6 : Hid (Below W4.heap.size W4 W6) := below_after HB5.out HB56.out
  have HW6 : Hid (W6 = _) := hW6
  have HX1' : Hid (DBox W6 w5.heap.size (.slice ya yn yc) (.slice za zn zc)) := HX1.out.below HB56.out
  have HD1'' : Hid (DfaAt W6 (.agg #[.slice ya yn yc, .slice za zn zc]) (intsL (dfaD (autF a) false [0, 1, 2, 3] 100).1) (dfaD (autF a) false [0, 1, 2, 3] 100).2) := HD1'.out.below HB56.out
  have HBW6 : Hid (Below w.heap.size w W6) := below_after HBWW.out HB6.out
  have HR1 : Hid (∀ W, Below W6.heap.size W6 W → Calls Tryd.prog 11 #[.agg #[.slice ya yn yc, .slice za zn zc], .int .i64 0, .slice qa L qc] W fun e w' => e = .returned (.tuple #[.int .i64 (runV (intsL (dfaD (autF a) false [0, 1, 2, 3] 100).1) (dfaD (autF a) false [0, 1, 2, 3] 100).2 0 cs), .int .i64 (runE (intsL (dfaD (autF a) false [0, 1, 2, 3] 100).1) (dfaD (autF a) false [0, 1, 2, 3] 100).2 0 cs)]) ∧ Below W.heap.size W w') := fun W hb => srun_any _ _ _ 0 cs _ W (HD1''.out.below hb) (HCV.out.below (below_after HBW6.out hb)) (by have := HCA.out.2; omega)
  have HR2 : Hid (∀ W v, Below W6.heap.size W6 W → IntsAt W v (us ++ cs) → Calls Tryd.prog 11 #[.agg #[.slice ua un uc, .slice va vn vc], .int .i64 0, v] W fun e w' => e = .returned (.tuple #[.int .i64 (runV (intsL (dfaD (autF a) true [0, 1, 2, 3] 100).1) (dfaD (autF a) true [0, 1, 2, 3] 100).2 0 (us ++ cs)), .int .i64 (runE (intsL (dfaD (autF a) true [0, 1, 2, 3] 100).1) (dfaD (autF a) true [0, 1, 2, 3] 100).2 0 (us ++ cs))]) ∧ Below W.heap.size W w') := fun W v hb hv => srun_any _ _ _ 0 (us ++ cs) _ W (HD2'.out.below hb) hv (by rw [List.length_append]; have := HCA.out.2; have := HUA.out.2; omega)
  have HC7 : Hid (∀ W, Below W6.heap.size W6 W → (W.cell? ⟨w5.heap.size, 0, none⟩ = some (.slice ya yn yc) ∧ W.cell? ⟨w5.heap.size, 1, none⟩ = some (.slice za zn zc) ∧ w5.heap.size < W.heap.size) ∧ (W.cell? ⟨w6.heap.size, 0, none⟩ = some (.slice ua un uc) ∧ W.cell? ⟨w6.heap.size, 1, none⟩ = some (.slice va vn vc) ∧ w6.heap.size < W.heap.size)) := fun W hb => ⟨⟨(HX1'.out.below hb).c0, (HX1'.out.below hb).c1, (HX1'.out.below hb).lt⟩, ⟨(HX2.out.below hb).c0, (HX2.out.below hb).c1, (HX2.out.below hb).lt⟩⟩
  have HFI1 : Hid (∀ q : Nat, (hq : q < (dfaD (autF a) false [0, 1, 2, 3] 100).2.length) → ∃ g o, za = some ⟨g, o, none⟩ ∧ zn ≤ zc ∧ ∀ W, Below W6.heap.size W6 W → g < W.heap.size ∧ W.cell? ⟨g, o + q, none⟩ = some (.bool (dfaD (autF a) false [0, 1, 2, 3] 100).2[q])) := fun q hq => by
    obtain ⟨_, _, e, _, a', c', e2, hcc, _, hx⟩ := HD1''.out
    injection e with e
    have e3 : Value.slice za zn zc = .slice a' (dfaD (autF a) false [0, 1, 2, 3] 100).2.length c' := by
      rw [← e2]
      simpa using congrArg (fun z : Array Value => z.getD 1 (.bool false)) e
    injection e3 with e4 e5 e6
    obtain ⟨g, o, h1, h2, h3⟩ := hx q hq
    exact ⟨g, o, by rw [e4]; exact h1, by omega, fun W hb => ⟨Nat.lt_of_lt_of_le h2 hb.size, (hb.cell (p := ⟨g, _, none⟩) h2).trans h3⟩⟩
  have HFI2 : Hid (∀ q : Nat, (hq : q < (dfaD (autF a) true [0, 1, 2, 3] 100).2.length) → ∃ g o, va = some ⟨g, o, none⟩ ∧ vn ≤ vc ∧ ∀ W, Below W6.heap.size W6 W → g < W.heap.size ∧ W.cell? ⟨g, o + q, none⟩ = some (.bool (dfaD (autF a) true [0, 1, 2, 3] 100).2[q])) := fun q hq => by
    obtain ⟨_, _, e, _, a', c', e2, hcc, _, hx⟩ := HD2'.out
    injection e with e
    have e3 : Value.slice va vn vc = .slice a' (dfaD (autF a) true [0, 1, 2, 3] 100).2.length c' := by
      rw [← e2]
      simpa using congrArg (fun z : Array Value => z.getD 1 (.bool false)) e
    injection e3 with e4 e5 e6
    obtain ⟨g, o, h1, h2, h3⟩ := hx q hq
    exact ⟨g, o, by rw [e4]; exact h1, by omega, fun W hb => ⟨Nat.lt_of_lt_of_le h2 hb.size, (hb.cell (p := ⟨g, _, none⟩) h2).trans h3⟩⟩
  have hTT := HTEL.out
  rw [← HF1.out, ← HF2.out] at hTT
  obtain ⟨hT1, hT2, hT3⟩ := hTT
  have HT3 : Hid _ := hT3
  clear hs2 hB6 hun hvn hf2 hBW6 hW6 c0 c1 c2 c3 c4 hlt5 HD2 HX1 HD1' hT3 HFW HBD HTEL
  go_upto_region 13 with fail
  rw [← HW6.out]
  rcases hT1 with hf1 | hf1
  · subst hf1
    rcases hT2 with hf2 | hf2
    · subst hf2
      go_wp2
      go_ret
      exact ⟨by first | rfl | simp, HBW6.out⟩
    · subst hf2
      go_wp2
      go_ret
      exact ⟨by first | rfl | simp, HBW6.out⟩
  · subst hf1
    rcases hT2 with hf2 | hf2
    · subst hf2
      go_wp2
      go_ret
      exact ⟨by first | rfl | simp, HBW6.out⟩
    · subst hf2
      obtain ⟨q, r, x, y, e1, e2, e3, e4, ⟨hq, e5⟩, ⟨hr, e6⟩, hxy⟩ := HT3.out rfl rfl
      rw [e1, e2] at HR1
      rw [e3, e4] at HR2
      obtain ⟨fg, fo, hfe, hfc, hfx⟩ := HFI1.out q hq
      obtain ⟨gg, go, hge, hgc, hgx⟩ := HFI2.out r hr
      rw [e5] at hfx
      rw [e6] at hgx
      have HFX : Hid _ := hfx
      have HGX : Hid _ := hgx
      have HXY : Hid (x = true → y = true) := hxy
      have hqz : q < zn := by rw [HZN.out]; exact hq
      have hrv : r < vn := by rw [HVN.out]; exact hr
      subst hfe hge
      have hr1 := HR1.out W6 (Below.refl _ _)
      obtain ⟨⟨d0, d1, d2⟩, d3, d4, d5⟩ := HC7.out W6 (Below.refl _ _)
      clear e1 e2 e3 e4 hfx hgx e5 e6 hq hr hxy HFI1 HFI2
      go_wp2_with fail
      refine hr1.mono ?_
      rintro e w7 ⟨rfl, hB7⟩
      have HB7 : Hid (Below W6.heap.size W6 w7) := hB7
      have HBW7 : Hid (Below w.heap.size w w7) := below_after HBW6.out hB7
      have HC : Hid (∀ W, Below w7.heap.size w7 W → (W.cell? ⟨w6.heap.size, 0, none⟩ = some (.slice ua un uc) ∧ W.cell? ⟨w6.heap.size, 1, none⟩ = some (.slice (some ⟨gg, go, none⟩) vn vc) ∧ w6.heap.size < W.heap.size)) := fun W hb => (HC7.out W (below_after HB7.out hb)).2
      have HSA : Hid (∀ W, Below w7.heap.size w7 W → SrcIs W (.slice pa K pc) K 1 (cellI us)) := fun W hb => by
        have := (HUV.out.below (below_after HBW7.out hb)).src
        rw [← HK.out] at this
        exact this
      have HSC : Hid (∀ W, Below w7.heap.size w7 W → SrcIs W (.slice qa L qc) L 1 (cellI cs)) := fun W hb => by
        have := (HCV.out.below (below_after HBW7.out hb)).src
        rw [← HL.out] at this
        exact this
      have HBE : Hid (Below w7.heap.size w7 (w7.drew.alloc (.cells #[] 3))) := (Below.refl _ _).drew.alloc (Nat.le_refl _) _
      have HOE : Hid ((w7.drew.alloc (.cells #[] 3)).ownsRow w7.heap.size 3 1 (.slice (some ⟨w7.heap.size, 0, none⟩) 0 0) 0 []) := own_empty12 w7.drew _ _ _ (Nat.le_refl _)
      have HI5 : Hid (∀ w5 v5, w5.ownsRow w7.heap.size 3 1 v5 (0 + K + L) ([] ++ cellI us ++ cellI cs) → IntsAt w5 v5 (us ++ cs)) := fun w5 v5 h => by
        rw [HK.out, HL.out] at h
        exact two_ints h
      have HRA : Hid (∀ W v, Below w7.heap.size w7 W → IntsAt W v (us ++ cs) → Calls Tryd.prog 11 #[.agg #[.slice ua un uc, .slice (some ⟨gg, go, none⟩) vn vc], .int .i64 0, v] W fun e w' => e = .returned (.tuple #[.int .i64 (r : Int), .int .i64 0]) ∧ Below W.heap.size W w') := fun W v hb hv => HR2.out W v (below_after HB7.out hb) hv
      have hKb : K ≤ 20 := by have := HK.out; have := HUA.out.2; omega
      have hLb : L ≤ 20 := by have := HL.out; have := HCA.out.2; omega
      obtain ⟨c0, c1, hlt⟩ := HC.out w7 (Below.refl _ _)
      clear hr1 hB7 d0 d1 d2 d3 d4 d5
      go_upto_region 16 with fail
      go_cut [20, 21] from 91 to 101 (fun s t wx => s = .int .i64 (r : Int) ∧ t = .int .i64 0 ∧ Hid (Below w7.heap.size w7 wx))
      case first =>
        go_region_law (first
          | (refine step_append_src12 _ (by rfl) (.tmp 93) (.tmp 94) 28 (by rfl) w7.heap.size 3 i0 (.int .i64 0) 1 8 Tryd.underlying28 hi0 hz0 hz1 hz2 rfl (by decide) (.slice (some ⟨w7.heap.size, 0, none⟩) 0 0) 0 [] (by rfl) (by exact HOE.out) (.slice pa K pc) (by rfl) K (cellI us) (by exact HSA.out _ HBE.out) (by unfold maxLen; omega) (by omega) (by exact HBE.out.size) ?_; intro v3 w3 ho3 hg3; have hB3 : Below w7.heap.size w7 w3 := HBE.out.grown hg3 HBE.out.size (fun k e => (HOE.out.lt k e).1); obtain ⟨d0, d1, d2⟩ := HC.out w3 hB3)
          | (refine step_append_src12 _ (by rfl) (.tmp 95) (.tmp 96) 28 (by rfl) w7.heap.size 3 i0 (.int .i64 0) 1 8 Tryd.underlying28 hi0 hz0 hz1 hz2 rfl (by decide) v3 (0 + K) ([] ++ cellI us) (by rfl) (by exact ho3) (.slice qa L qc) (by rfl) L (cellI cs) (by exact HSC.out _ hB3) (by unfold maxLen; omega) (by omega) (by exact hB3.size) ?_; intro v4 w4 ho4 hg4; have hB4 : Below w7.heap.size w7 w4 := hB3.grown hg4 hB3.size (fun k e => (ho3.lt k e).1); obtain ⟨d3, d4, d5⟩ := HC.out w4 hB4)
          | (go_simp; (with_reducible refine (HRA.out w4 v4 hB4 (HI5.out w4 v4 ho4)).mono ?_); rintro e w5 ⟨rfl, hB5⟩; have hB5' : Below w7.heap.size w7 w5 := below_after hB4 hB5; try dsimp only))
        all_goals (
          go_wp2
          go_meet
          exact ⟨rfl, rfl, hB5'⟩)
      case rest =>
        obtain ⟨rfl, rfl, HB8⟩ := hcut
        obtain ⟨w8, hw8⟩ : ∃ W, W = wc := ⟨_, rfl⟩
        rw [← hw8] at HB8 ⊢
        obtain ⟨⟨k0, k1, k2⟩, k3, k4, k5⟩ := HC7.out w8 (below_after HB7.out HB8.out)
        obtain ⟨m0, m1⟩ := HFX.out w8 (below_after HB7.out HB8.out)
        obtain ⟨o0, o1⟩ := HGX.out w8 (below_after HB7.out HB8.out)
        have hq0 : (0 : Int) ≤ (q : Int) := by omega
        have hq1 : (q : Int) < (zn : Int) := by omega
        have hr0 : (0 : Int) ≤ (r : Int) := by omega
        have hr1 : (r : Int) < (vn : Int) := by omega
        have HBF : Hid (Below w.heap.size w w8) := below_after HBW7.out HB8.out
        clear c0 c1 hlt hw8
        cases x with
        | true =>
          obtain rfl := HXY.out rfl
          go_wp2
          go_ret
          exact ⟨by first | rfl | simp, HBF.out⟩
        | false =>
          go_wp2
          go_ret
          exact ⟨by first | rfl | simp, HBF.out⟩
end Go.Proofs.YtehkaiohmcenbabDoor
