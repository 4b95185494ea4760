/-
  scansionlaw12.SubsetWords.
-/
import Derived.Test.YtehkaiohmcenbaaDoorSbWord
import Derived.Test.YtehkaiohmcenbaaDoorSbRef5
import Derived.Deep.RegionLaw
import Derived.Deep.CutRange
namespace Go.Proofs.YtehkaiohmcenbaaDoor
open Go.RowKit Go.Shelf
set_option linter.unusedVariables false

/-- What the states of an expression tell of a word. -/
theorem words_tell {a : Nd} (he : errF a = 0) (free : Bool) (ms : List Nat) (cs : List Int) (h1 : 1 ≤ ms.length) (h2 : ms.length ≤ 200) (hc : cs.all (inB ms.length) = true) :
    errD (autF a) free ms 100 = 8 ∨ (errD (autF a) free ms 100 = 0 ∧ ∃ q : Nat, runV (intsL (dfaD (autF a) free ms 100).1) (dfaD (autF a) free ms 100).2 0 cs = (q : Int) ∧ runE (intsL (dfaD (autF a) free ms 100).1) (dfaD (autF a) free ms 100).2 0 cs = 0 ∧ ∃ hq : q < (dfaD (autF a) free ms 100).2.length, (dfaD (autF a) free ms 100).2[q] = (if free then suffB (wordL ms cs) a else wholeB (wordL ms cs) a)) := by
  have hbad : ¬ (ms.length < 1 ∨ 200 < ms.length ∨ (100 : Int) < 1 ∨ 5000 < (100 : Int)) := by omega
  cases hq : ansB (autF a) free ms 100 with
  | none => exact .inl (errD_none hbad hq).1
  | some b =>
    right
    obtain ⟨e1, e2⟩ := errD_some (lim := 100) hbad hq
    refine ⟨e1, ?_⟩
    rw [e2]
    obtain ⟨q, h3, h4, h5, h6⟩ := ans_run hq (by omega) (by omega) h1 h2 cs hc
    refine ⟨q, h3, h4, h5, ?_⟩
    rw [h6]
    cases free with
    | false => exact whole_run he _
    | true => exact suff_run he _
theorem wordL_len (ms : List Nat) (cs : List Int) : (wordL ms cs).length = cs.length := by simp [wordL]
theorem wordL_64 {w : World} {B : Nat} {mv : Value} {ms : List Nat} (hm : WrdAt B w mv ms) {cs : List Int} (hc : cs.all (inB ms.length) = true) : ∀ x ∈ wordL ms cs, x < 18446744073709551616 := fun x hx => by
  obtain ⟨c, hcs, rfl⟩ := List.mem_map.1 hx
  have := inB_iff.1 (List.all_eq_true.1 hc c hcs)
  have hlt : c.toNat < ms.length := by omega
  obtain ⟨a, cap, _, _, hi⟩ := hm
  rw [List.getD_eq_getElem?_getD, List.getElem?_eq_getElem hlt]
  exact (hi _ hlt).1

set_option maxRecDepth 100000 in
set_option maxHeartbeats 32000000 in
theorem subsetWords_any (a : Nd) (za : Value) (wa : Option Addr) (wp : Nat) (ms : List Nat) (cv : Value) (cs : List Int) (w : World) (hT : TabW w) (hP : PowW w) (ha : KdX (fun k => k < w.heap.size) w za a.kids) (hm : WrdAt w.heap.size w (.slice wa ms.length wp) ms) (hcv : IntsAt w cv cs) (hcl : cs.length ≤ 140737488355328) :
    Calls Tryd.prog 7 #[ndV a za, .slice wa ms.length wp, cv] w fun e w' => e = .returned (.bool true) ∧ Below w.heap.size w w' := by
  obtain ⟨na, ca, rfl, _⟩ := ha.slice
  have HKD : Hid (KdX (fun k => k < w.heap.size) w (.slice na a.kids.length ca) a.kids) := ha
  have HT : Hid (TabW w) := hT
  have HP : Hid (PowW w) := hP
  have HMV : Hid (WrdAt w.heap.size w (.slice wa ms.length wp) ms) := hm
  have HCV : Hid (IntsAt w cv cs) := hcv
  obtain ⟨qa, qc, hqe, hqc⟩ := hcv.slice
  have hmw : ms.length ≤ wp := by
    obtain ⟨_, c', e, h, _⟩ := hm
    injection e with _ _ e3
    omega
  obtain ⟨W0, hW0⟩ : ∃ W, W = w.alloc (.cells #[.int .i64 a.k, .int .i64 a.s, .slice na a.kids.length ca] 24) := ⟨_, rfl⟩
  have hB0 : Below w.heap.size w W0 := by rw [hW0]; exact below_alloc _ _
  have hbA : Box W0 w.heap.size a.k a.s (.slice na a.kids.length ca) := by rw [hW0]; exact box_new _ _ _ _
  have HFW : Hid (∀ W, Below w.heap.size w W → Calls Tryd.prog 22 #[ndV a (.slice na a.kids.length ca), .slice wa ms.length wp] W fun e w' => ∃ b, e = .returned (.bool b) ∧ (b = true → Dp 10 a.kids ∧ (setsN a).length ≤ 25 ∧ ms.length ≤ 12) ∧ Below W.heap.size W w') := fun W h => few_any12 a _ wa ms.length wp W (kdx_below ha h)
  have HBD : Hid (∀ W, Dp 10 a.kids → Below w.heap.size w W → Calls Tryd.prog 12 #[.agg #[.int .i64 a.k, .int .i64 a.s, .slice na a.kids.length ca]] W (BldA a W)) := fun W hd hb => rbuild_any 10 a na ca W hd (kdx_below ha hb)
  have HWH : Hid (∀ W v ws, Dp 10 a.kids → Below w.heap.size w W → ws.length < 64 → (∃ x y, v = .slice x ws.length y) → WrdAt W.heap.size W v ws → Calls Tryd.prog 33 #[.agg #[.int .i64 a.k, .int .i64 a.s, .slice na a.kids.length ca], v] W fun e w' => e = .returned (.bool (wholeB ws a)) ∧ Below W.heap.size W w') := fun W v ws hd hb hl he hv => by
    obtain ⟨x, y, rfl⟩ := he
    exact refWhole_any 10 ws hl a _ x y W hd (kdx_below ha hb) hv
  have HSU : Hid (∀ W v ws, Dp 10 a.kids → Below w.heap.size w W → ws.length < 64 → (∃ x y, v = .slice x ws.length y ∧ (x = none → y = 0)) → WrdAt W.heap.size W v ws → Calls Tryd.prog 34 #[.agg #[.int .i64 a.k, .int .i64 a.s, .slice na a.kids.length ca], v] W fun e w' => e = .returned (.bool (suffB ws a)) ∧ Below W.heap.size W w') := fun W v ws hd hb hl he hv => by
    obtain ⟨x, y, rfl, hn⟩ := he
    exact refSuffix_any 10 ws hl a _ x y W hd (kdx_below ha hb) hv hn
  unfold ndV at HFW ⊢
  obtain ⟨nk, hnk⟩ : ∃ x, x = a.k := ⟨_, rfl⟩
  obtain ⟨ns, hns⟩ : ∃ x, x = a.s := ⟨_, rfl⟩
  obtain ⟨nl, hnl⟩ : ∃ x, x = a.kids.length := ⟨_, rfl⟩
  obtain ⟨M, hM⟩ : ∃ x, x = ms.length := ⟨_, rfl⟩
  obtain ⟨L, hL⟩ : ∃ x, x = cs.length := ⟨_, rfl⟩
  have HM : Hid (M = ms.length) := hM
  have HL : Hid (L = cs.length) := hL
  rw [← hnk, ← hns, ← hnl] at HFW hbA hW0 HBD HWH HSU ⊢
  rw [← hM] at HFW HMV hmw ⊢
  rw [← hL] at hqe hqc
  subst hqe
  have hin := inside_any cs (.slice qa L qc) (M : Int)
  have HIN : Hid (∀ W, Below w.heap.size w W → Calls Tryd.prog 31 #[.slice qa L qc, .int .i64 (M : Int)] W fun e w' => e = .returned (.bool (cs.all (inB M) && decide (cs.length ≤ 20))) ∧ w' = W) := fun W hb => hin W (hcv.below hb) hcl
  have HB0 : Hid (Below w.heap.size w W0) := hB0
  have HBA : Hid (Box W0 w.heap.size nk ns (.slice na nl ca)) := hbA
  have HW0 : Hid (W0 = _) := hW0
  have haw := awake_any12 W0 (hT.below hB0) (hP.below hB0)
  rw [hW0] at haw
  clear hnk hns hnl hM hL ha hB0 hbA hT hP hm hcv hcl hin hW0
  go_enter Tryd.func7, Tryd.ntmps7
  go_wp2_with fail
  refine haw.mono ?_
  rw [← HW0.out]
  rintro e w1 ⟨rfl, hB1⟩
  have HB1 : Hid (Below W0.heap.size W0 w1) := hB1
  obtain ⟨a0, a1, a2⟩ : _ ∧ _ ∧ _ := ⟨(HBA.out.below hB1).c0, (HBA.out.below hB1).c1, (HBA.out.below hB1).c2⟩
  have hf1 := HFW.out w1 (below_after HB0.out hB1)
  clear haw hB1
  go_wp2_with fail
  refine hf1.mono ?_
  rintro e w2 ⟨ok, rfl, hok, hB2⟩
  have HB2 : Hid (Below W0.heap.size W0 w2) := below_after HB1.out hB2
  have HBW2 : Hid (Below w.heap.size w w2) := below_after HB0.out HB2.out
  have HOK : Hid (ok = true → Dp 10 a.kids ∧ (setsN a).length ≤ 25 ∧ M ≤ 12) := hok
  have hi2 := HIN.out w2 HBW2.out
  obtain ⟨ib, hib⟩ : ∃ x, x = (cs.all (inB M) && decide (cs.length ≤ 20)) := ⟨_, rfl⟩
  have HIB : Hid (ib = (cs.all (inB M) && decide (cs.length ≤ 20))) := hib
  rw [← hib] at hi2
  clear hf1 hB2 a0 a1 a2 hok hib
  go_wp2_with fail
  refine hi2.mono ?_
  rintro e w3 ⟨rfl, hw3⟩
  obtain rfl := hw3.symm
  clear hi2
  cases ok with
  | false =>
    go_wp2
    go_ret
    exact ⟨rfl, HBW2.out⟩
  | true =>
  cases ib with
  | false =>
    go_wp2
    go_ret
    exact ⟨rfl, HBW2.out⟩
  | true =>
  by_cases hM0 : M = 0
  case pos =>
    subst hM0
    go_wp2
    go_ret
    exact ⟨rfl, HBW2.out⟩
  case neg =>
  have HDP : Hid (Dp 10 a.kids) := (HOK.out rfl).1
  have HM12 : Hid (1 ≤ M ∧ M ≤ 12) := ⟨by omega, (HOK.out rfl).2.2⟩
  have hm0 : decide ((M : Int) = 0) = false := by simp; omega
  have hm0' : ((M : Int) == 0) = false := by simp; omega
  have HALL : Hid (cs.all (inB M) = true ∧ cs.length ≤ 20) := by
    have := HIB.out.symm
    rw [Bool.and_eq_true] at this
    exact ⟨this.1, of_decide_eq_true this.2⟩
  obtain ⟨a0, a1, a2⟩ : _ ∧ _ ∧ _ := ⟨(HBA.out.below HB2.out).c0, (HBA.out.below HB2.out).c1, (HBA.out.below HB2.out).c2⟩
  have hlt1 : w.heap.size < w2.heap.size := (HBA.out.below HB2.out).lt
  have hbd := HBD.out w2 HDP.out HBW2.out
  clear HOK hM0
  go_wp2_with fail
  refine hbd.mono ?_
  rintro e w4 ⟨av, rfl, hav, hB4⟩
  have HAV : Hid (AutAt w4 av (autF a)) := hav
  obtain ⟨sv, fv, lv, wv, hev, hs, hf, hl, hw⟩ := hav
  subst hev
  obtain ⟨sa, sc, hes, _⟩ := hs.slice
  obtain ⟨fa, fc, hef, _⟩ := hf.slice
  obtain ⟨la, lc, hel, _⟩ := hl.slice
  obtain ⟨xa, xc, hex, _⟩ := hw.slice
  obtain ⟨er, her⟩ : ∃ x, x = errF a := ⟨_, rfl⟩
  obtain ⟨n1, hn1⟩ : ∃ x, x = (autF a).null := ⟨_, rfl⟩
  obtain ⟨sl, hsl⟩ : ∃ x, x = (autF a).sets.length := ⟨_, rfl⟩
  obtain ⟨fl, hfl⟩ : ∃ x, x = (autF a).first.length := ⟨_, rfl⟩
  obtain ⟨ll, hll⟩ : ∃ x, x = (autF a).last.length := ⟨_, rfl⟩
  obtain ⟨xl, hxl⟩ : ∃ x, x = (autF a).fol.length := ⟨_, rfl⟩
  rw [← hsl] at hes
  rw [← hfl] at hef
  rw [← hll] at hel
  rw [← hxl] at hex
  subst hes hef hel hex
  rw [← hn1, ← her]
  rw [← hn1] at HAV
  have HE1 : Hid (er = errF a) := her
  have HBW4 : Hid (Below w.heap.size w w4) := below_after HBW2.out hB4
  have HB4 : Hid (Below W0.heap.size W0 w4) := below_after HB2.out hB4
  clear hbd hs hf hl hw hB4 hn1 hsl hfl hll hxl her a0 a1 a2 hlt1 hm0 hm0'
  by_cases he : er = 0
  case neg =>
    have hne : (er != 0) = true := by simpa using he
    go_wp2
    go_ret
    exact ⟨rfl, HBW4.out.alloc HBW4.out.size _⟩
  case pos =>
  subst he
  have HEZ : Hid (errF a = 0) := HE1.out.symm
  obtain ⟨W4, hW4⟩ : ∃ W, W = w4.alloc (.cells #[.bool n1, .slice sa sl sc, .slice fa fl fc, .slice la ll lc, .slice xa xl xc] 30) := ⟨_, rfl⟩
  have hBW : Below w4.heap.size w4 W4 := by rw [hW4]; exact below_alloc _ _
  have HA1 : Hid (ABox W4 w4.heap.size n1 (.slice sa sl sc) (.slice fa fl fc) (.slice la ll lc) (.slice xa xl xc)) := by rw [hW4]; exact heap_new' _ _
  have HAU : Hid (AutAt W4 (.agg #[.bool n1, .slice sa sl sc, .slice fa fl fc, .slice la ll lc, .slice xa xl xc]) (autF a)) := HAV.out.below hBW
  have HBWW : Hid (Below w.heap.size w W4) := below_after HBW4.out hBW
  have HBZ : Hid (Below W0.heap.size W0 W4) := below_after HB4.out hBW
  have HSB : Hid (∀ W free, Below W4.heap.size W4 W → Calls Tryd.prog 23 #[.agg #[.bool n1, .slice sa sl sc, .slice fa fl fc, .slice la ll lc, .slice xa xl xc], .slice wa M wp, .bool free, .int .i64 100] W (SbdA (autF a) free ms 100 W)) := fun W free hb => by
    have hb2 := below_after HBWW.out hb
    have hmv := wrd_below HMV.out hb2
    exact sbuild_any (autF a) _ ms _ free 100 W (HT.out.below hb2) (HP.out.below hb2) (HAU.out.below hb) (okA_of HEZ.out) hmv (by have := HM12.out.2; have := HM.out; omega)
  have HTEL : Hid (∀ free, errD (autF a) free ms 100 = 8 ∨ (errD (autF a) free ms 100 = 0 ∧ ∃ q : Nat, runV (intsL (dfaD (autF a) free ms 100).1) (dfaD (autF a) free ms 100).2 0 cs = (q : Int) ∧ runE (intsL (dfaD (autF a) free ms 100).1) (dfaD (autF a) free ms 100).2 0 cs = 0 ∧ ∃ hq : q < (dfaD (autF a) free ms 100).2.length, (dfaD (autF a) free ms 100).2[q] = (if free then suffB (wordL ms cs) a else wholeB (wordL ms cs) a))) := fun free => words_tell HEZ.out free ms cs (by have := HM12.out.1; have := HM.out; omega) (by have := HM12.out.2; have := HM.out; omega) (by rw [← HM.out]; exact HALL.out.1)
  have hs1 := HSB.out W4 false (Below.refl _ _)
  obtain ⟨b0, b1, b2, b3, b4⟩ : _ ∧ _ ∧ _ ∧ _ ∧ _ := ⟨HA1.out.c0, HA1.out.c1, HA1.out.c2, HA1.out.c3, HA1.out.c4⟩
  have hlt4 := HA1.out.lt
  have HW4 : Hid (W4 = _) := hW4
  clear hBW hW4
  go_upto_region 9 with fail
  rw [← HW4.out]
  go_wp2_with fail
  refine hs1.mono ?_
  rintro e w5 ⟨dv, rfl, hd1, hB5⟩
  have HD1 : Hid (DfaAt w5 dv (intsL (dfaD (autF a) false ms 100).1) (dfaD (autF a) false ms 100).2) := hd1
  obtain ⟨nv1, fv1, rfl, ⟨ya, yc, rfl, _⟩, za, zc, rfl, _, _, _⟩ := hd1
  obtain ⟨yn, hyn⟩ : ∃ x, x = (intsL (dfaD (autF a) false ms 100).1).length := ⟨_, rfl⟩
  obtain ⟨zn, hzn⟩ : ∃ x, x = (dfaD (autF a) false ms 100).2.length := ⟨_, rfl⟩
  have HZN : Hid (zn = (dfaD (autF a) false ms 100).2.length) := hzn
  obtain ⟨f1, hf1⟩ : ∃ x, x = errD (autF a) false ms 100 := ⟨_, rfl⟩
  have HF1 : Hid (f1 = errD (autF a) false ms 100) := hf1
  rw [← hyn, ← hzn] at HD1
  rw [← hyn, ← hzn, ← hf1]
  obtain ⟨W5, hW5⟩ : ∃ W, W = w5.alloc (.cells #[.slice ya yn yc, .slice za zn zc] 46) := ⟨_, rfl⟩
  have hBW5 : Below w5.heap.size w5 W5 := by rw [hW5]; exact below_alloc _ _
  have HX1 : Hid (DBox W5 w5.heap.size (.slice ya yn yc) (.slice za zn zc)) := by rw [hW5]; exact heap_new' _ _
  have HD1' : Hid (DfaAt W5 (.agg #[.slice ya yn yc, .slice za zn zc]) (intsL (dfaD (autF a) false ms 100).1) (dfaD (autF a) false ms 100).2) := HD1.out.below hBW5
  have HB5 : Hid (Below W4.heap.size W4 W5) := below_after hB5 hBW5
  have HW5 : Hid (W5 = _) := hW5
  have hs2 := HSB.out W5 true HB5.out
  obtain ⟨c0, c1, c2, c3, c4⟩ : _ ∧ _ ∧ _ ∧ _ ∧ _ := ⟨(HA1.out.below HB5.out).c0, (HA1.out.below HB5.out).c1, (HA1.out.below HB5.out).c2, (HA1.out.below HB5.out).c3, (HA1.out.below HB5.out).c4⟩
  have hlt5 := (HA1.out.below HB5.out).lt
  clear hs1 hB5 hyn hzn hf1 hBW5 hW5 b0 b1 b2 b3 b4 hlt4 HD1
  go_upto_region 10 with fail
  rw [← HW5.out]
  go_wp2_with fail
  refine hs2.mono ?_
  rintro e w6 ⟨dv, rfl, hd2, hB6⟩
  have HD2 : Hid (DfaAt w6 dv (intsL (dfaD (autF a) true ms 100).1) (dfaD (autF a) true ms 100).2) := hd2
  obtain ⟨nv2, fv2, rfl, ⟨ua, uc, rfl, _⟩, va, vc, rfl, _, _, _⟩ := hd2
  obtain ⟨un, hun⟩ : ∃ x, x = (intsL (dfaD (autF a) true ms 100).1).length := ⟨_, rfl⟩
  obtain ⟨vn, hvn⟩ : ∃ x, x = (dfaD (autF a) true ms 100).2.length := ⟨_, rfl⟩
  have HVN : Hid (vn = (dfaD (autF a) true ms 100).2.length) := hvn
  obtain ⟨f2, hf2⟩ : ∃ x, x = errD (autF a) true ms 100 := ⟨_, rfl⟩
  have HF2 : Hid (f2 = errD (autF a) true ms 100) := hf2
  rw [← hun, ← hvn] at HD2
  rw [← hun, ← hvn, ← hf2]
  obtain ⟨W6, hW6⟩ : ∃ W, W = w6.alloc (.cells #[.slice ua un uc, .slice va vn vc] 46) := ⟨_, rfl⟩
  have hBW6 : Below w6.heap.size w6 W6 := by rw [hW6]; exact below_alloc _ _
  have HX2 : Hid (DBox W6 w6.heap.size (.slice ua un uc) (.slice va vn vc)) := by rw [hW6]; exact heap_new' _ _
  have HD2' : Hid (DfaAt W6 (.agg #[.slice ua un uc, .slice va vn vc]) (intsL (dfaD (autF a) true ms 100).1) (dfaD (autF a) true ms 100).2) := HD2.out.below hBW6
  have HB56 : Hid (Below W5.heap.size W5 W6) := below_after hB6 hBW6
  have HB6 : Hid (Below W4.heap.size W4 W6) := below_after HB5.out HB56.out
  have HW6 : Hid (W6 = _) := hW6
  have HX1' : Hid (DBox W6 w5.heap.size (.slice ya yn yc) (.slice za zn zc)) := HX1.out.below HB56.out
  have HD1'' : Hid (DfaAt W6 (.agg #[.slice ya yn yc, .slice za zn zc]) (intsL (dfaD (autF a) false ms 100).1) (dfaD (autF a) false ms 100).2) := HD1'.out.below HB56.out
  have HBW6 : Hid (Below w.heap.size w W6) := below_after HBWW.out HB6.out
  have HBX : Hid (Box W6 w.heap.size nk ns (.slice na nl ca)) := (HBA.out.below HBZ.out).below HB6.out
  have hwd := word_any12 ms (.slice wa M wp) cs (.slice qa L qc) W6 (wrd_below HMV.out HBW6.out) (HCV.out.below HBW6.out) (by rw [← HM.out]; exact HALL.out.1) (by have := HALL.out.2; omega)
  clear hs2 hB6 hun hvn hf2 hBW6 hW6 c0 c1 c2 c3 c4 hlt5 HD2 HX1 HD1'
  go_upto_region 11 with fail
  rw [← HW6.out]
  go_wp2_with fail
  refine hwd.mono ?_
  rintro e w7 ⟨wv, rfl, ho7, hB7⟩
  have HWD : Hid (WrdAt w7.heap.size w7 wv (wordL ms cs) ∧ (wordL ms cs).length < 64 ∧ ∃ x y, wv = .slice x (wordL ms cs).length y ∧ (x = none → y = 0)) := by
    have e := wordL_len ms cs
    rw [← e] at ho7
    refine ⟨wrd_of_own ho7 (wordL_64 HMV.out (by rw [← HM.out]; exact HALL.out.1)), by have := HALL.out.2; omega, ?_⟩
    rcases ho7.2 with ⟨rfl, h0⟩ | ⟨g, cap, cur, rfl, _⟩
    · exact ⟨none, 0, by rw [h0], fun _ => rfl⟩
    · exact ⟨_, _, rfl, fun q => (by cases q)⟩
  obtain ⟨ra, rn, rc, rfl⟩ := own_slice' ho7
  have HB7 : Hid (Below W6.heap.size W6 w7) := hB7
  have HBW7 : Hid (Below w.heap.size w w7) := below_after HBW6.out HB7.out
  have HR1 : Hid (∀ W, Below W6.heap.size W6 W → Calls Tryd.prog 27 #[.agg #[.slice ya yn yc, .slice za zn zc], .int .i64 0, .slice qa L qc] W fun e w' => e = .returned (.tuple #[.int .i64 (runV (intsL (dfaD (autF a) false ms 100).1) (dfaD (autF a) false ms 100).2 0 cs), .int .i64 (runE (intsL (dfaD (autF a) false ms 100).1) (dfaD (autF a) false ms 100).2 0 cs)]) ∧ Below W.heap.size W w') := fun W hb => srun_any _ _ _ 0 cs _ W (HD1''.out.below hb) (HCV.out.below (below_after HBW6.out hb)) (by have := HALL.out.2; omega)
  have HR2 : Hid (∀ W, Below W6.heap.size W6 W → Calls Tryd.prog 27 #[.agg #[.slice ua un uc, .slice va vn vc], .int .i64 0, .slice qa L qc] W fun e w' => e = .returned (.tuple #[.int .i64 (runV (intsL (dfaD (autF a) true ms 100).1) (dfaD (autF a) true ms 100).2 0 cs), .int .i64 (runE (intsL (dfaD (autF a) true ms 100).1) (dfaD (autF a) true ms 100).2 0 cs)]) ∧ Below W.heap.size W w') := fun W hb => srun_any _ _ _ 0 cs _ W (HD2'.out.below hb) (HCV.out.below (below_after HBW6.out hb)) (by have := HALL.out.2; omega)
  have HWHO : Hid (∀ W, Below w7.heap.size w7 W → Calls Tryd.prog 33 #[.agg #[.int .i64 nk, .int .i64 ns, .slice na nl ca], .slice ra rn rc] W fun e w' => e = .returned (.bool (wholeB (wordL ms cs) a)) ∧ Below W.heap.size W w') := fun W hb => by
    obtain ⟨h1, h2, x, y, h3, _⟩ := HWD.out
    exact HWH.out W _ _ HDP.out (below_after HBW7.out hb) h2 ⟨x, y, h3⟩ (wrd_below h1 hb)
  have HSUF : Hid (∀ W, Below w7.heap.size w7 W → Calls Tryd.prog 34 #[.agg #[.int .i64 nk, .int .i64 ns, .slice na nl ca], .slice ra rn rc] W fun e w' => e = .returned (.bool (suffB (wordL ms cs) a)) ∧ Below W.heap.size W w') := fun W hb => by
    obtain ⟨h1, h2, h3⟩ := HWD.out
    exact HSU.out W _ _ HDP.out (below_after HBW7.out hb) h2 h3 (wrd_below h1 hb)
  have HBX7 : Hid (Box w7 w.heap.size nk ns (.slice na nl ca)) := HBX.out.below HB7.out
  have HX17 : Hid (DBox w7 w5.heap.size (.slice ya yn yc) (.slice za zn zc)) := HX1'.out.below HB7.out
  have HX27 : Hid (DBox w7 w6.heap.size (.slice ua un uc) (.slice va vn vc)) := HX2.out.below HB7.out
  have HC7 : Hid (∀ W, Below w7.heap.size w7 W → (W.cell? ⟨w5.heap.size, 0, none⟩ = some (.slice ya yn yc) ∧ W.cell? ⟨w5.heap.size, 1, none⟩ = some (.slice za zn zc) ∧ w5.heap.size < W.heap.size) ∧ (W.cell? ⟨w6.heap.size, 0, none⟩ = some (.slice ua un uc) ∧ W.cell? ⟨w6.heap.size, 1, none⟩ = some (.slice va vn vc) ∧ w6.heap.size < W.heap.size) ∧ (W.cell? ⟨w.heap.size, 0, none⟩ = some (.int .i64 nk) ∧ W.cell? ⟨w.heap.size, 1, none⟩ = some (.int .i64 ns) ∧ W.cell? ⟨w.heap.size, 2, none⟩ = some (.slice na nl ca) ∧ w.heap.size < W.heap.size)) := fun W hb => ⟨⟨(HX17.out.below hb).c0, (HX17.out.below hb).c1, (HX17.out.below hb).lt⟩, ⟨(HX27.out.below hb).c0, (HX27.out.below hb).c1, (HX27.out.below hb).lt⟩, (HBX7.out.below hb).c0, (HBX7.out.below hb).c1, (HBX7.out.below hb).c2, (HBX7.out.below hb).lt⟩
  have HFI1 : Hid (∀ q : Nat, (hq : q < (dfaD (autF a) false ms 100).2.length) → ∃ g o, za = some ⟨g, o, none⟩ ∧ zn ≤ zc ∧ ∀ W, Below W6.heap.size W6 W → g < W.heap.size ∧ W.cell? ⟨g, o + q, none⟩ = some (.bool (dfaD (autF a) false ms 100).2[q])) := fun q hq => by
    obtain ⟨_, _, e, _, a', c', e2, hcc, _, hx⟩ := HD1''.out
    injection e with e
    have e3 : Value.slice za zn zc = .slice a' (dfaD (autF a) false ms 100).2.length c' := by
      rw [← e2]
      simpa using congrArg (fun z : Array Value => z.getD 1 (.bool false)) e
    injection e3 with e4 e5 e6
    obtain ⟨g, o, h1, h2, h3⟩ := hx q hq
    exact ⟨g, o, by rw [e4]; exact h1, by omega, fun W hb => ⟨Nat.lt_of_lt_of_le h2 hb.size, (hb.cell (p := ⟨g, _, none⟩) h2).trans h3⟩⟩
  have HFI2 : Hid (∀ q : Nat, (hq : q < (dfaD (autF a) true ms 100).2.length) → ∃ g o, va = some ⟨g, o, none⟩ ∧ vn ≤ vc ∧ ∀ W, Below W6.heap.size W6 W → g < W.heap.size ∧ W.cell? ⟨g, o + q, none⟩ = some (.bool (dfaD (autF a) true ms 100).2[q])) := fun q hq => by
    obtain ⟨_, _, e, _, a', c', e2, hcc, _, hx⟩ := HD2'.out
    injection e with e
    have e3 : Value.slice va vn vc = .slice a' (dfaD (autF a) true ms 100).2.length c' := by
      rw [← e2]
      simpa using congrArg (fun z : Array Value => z.getD 1 (.bool false)) e
    injection e3 with e4 e5 e6
    obtain ⟨g, o, h1, h2, h3⟩ := hx q hq
    exact ⟨g, o, by rw [e4]; exact h1, by omega, fun W hb => ⟨Nat.lt_of_lt_of_le h2 hb.size, (hb.cell (p := ⟨g, _, none⟩) h2).trans h3⟩⟩
  obtain ⟨wb, hwb⟩ : ∃ x, x = wholeB (wordL ms cs) a := ⟨_, rfl⟩
  obtain ⟨sb, hsb⟩ : ∃ x, x = suffB (wordL ms cs) a := ⟨_, rfl⟩
  have HTE1 := HTEL.out false
  have HTE2 := HTEL.out true
  rw [if_neg (by decide), ← HF1.out, ← hwb] at HTE1
  rw [if_pos rfl, ← HF2.out, ← hsb] at HTE2
  have HTE1 : Hid _ := HTE1
  have HTE2 : Hid _ := HTE2
  rw [← hwb] at HWHO
  rw [← hsb] at HSUF
  clear hwd ho7 hB7 hwb hsb HTEL HFW HBD HWH HSU
  have HBw7 : Hid (Below w7.heap.size w7 w7) := Below.refl _ _
  rcases HTE1.out with hf1 | ⟨hf1, hx1⟩
  · subst hf1
    rcases HTE2.out with hf2 | ⟨hf2, hx2⟩
    · subst hf2
      go_wp2
      go_ret
      exact ⟨by first | rfl | simp, below_after HBW7.out HBw7.out⟩
    · subst hf2
      obtain ⟨q2, hv2, hr2, hq2, hb2⟩ := hx2
      have hru2 := HR2.out w7 (below_after HB7.out HBw7.out)
      rw [hv2, hr2] at hru2
      obtain ⟨⟨d0, d1, d2⟩, ⟨d3, d4, d5⟩, d6, d7, d8, d9⟩ := HC7.out w7 HBw7.out
      obtain ⟨fg2, fo2, hfe2, hfc2, hfx2⟩ := HFI2.out q2 hq2
      rw [hb2] at hfx2
      have HFX2 : Hid _ := hfx2
      have hql2 : q2 < vn := by rw [HVN.out]; exact hq2
      subst hfe2
      clear hv2 hr2 hfx2 hb2 hq2
      go_wp2_with fail
      refine hru2.mono ?_
      rintro e y2 ⟨rfl, hBy2⟩
      have HBy2 : Hid (Below w7.heap.size w7 y2) := below_after HBw7.out hBy2
      have HCC2 : Hid (∀ W, Below y2.heap.size y2 W → ((W.cell? ⟨w6.heap.size, 1, none⟩ = some (.slice (some ⟨fg2, fo2, none⟩) vn vc) ∧ w6.heap.size < W.heap.size) ∧ (W.cell? ⟨fg2, fo2 + q2, none⟩ = some (.bool sb) ∧ fg2 < W.heap.size) ∧ W.cell? ⟨w.heap.size, 0, none⟩ = some (.int .i64 nk) ∧ W.cell? ⟨w.heap.size, 1, none⟩ = some (.int .i64 ns) ∧ W.cell? ⟨w.heap.size, 2, none⟩ = some (.slice na nl ca) ∧ w.heap.size < W.heap.size)) := fun W hb => by
        have h1 := below_after HBy2.out hb
        obtain ⟨⟨k0, k1, k2⟩, ⟨k3, k4, k5⟩, k6⟩ := HC7.out W h1
        obtain ⟨k7, k8⟩ := HFX2.out W (below_after HB7.out h1)
        exact ⟨⟨k4, k5⟩, ⟨k8, k7⟩, k6⟩
      have hcn2 := HSUF.out y2.drew HBy2.out.drew
      clear hru2 hBy2 d0 d1 d2 d3 d4 d5 d6 d7 d8 d9
      obtain ⟨⟨d1, d2⟩, ⟨d3, d4⟩, d5, d6, d7, d8⟩ := HCC2.out y2 (Below.refl _ _)
      have hq02 : (0 : Int) ≤ (q2 : Int) := by omega
      have hq12 : (q2 : Int) < (vn : Int) := by omega
      have hz00 : ((0 : Int) != 0) = false := by simp
      have hbb2 : (sb != sb) = false := by simp
      go_upto_region 18 with fail
      go_cut [108] from 96 to 109 (fun s wx => s = .bool false ∧ Hid (Below y2.heap.size y2 wx))
      case first =>
        go_region_law (go_simp; (with_reducible refine hcn2.mono ?_); rintro e yy ⟨rfl, hByy⟩; have hByy' : Below y2.heap.size y2 yy := below_drw hByy; obtain ⟨⟨e1, e2⟩, ⟨e3, e4⟩, e5, e6, e7, e8⟩ := HCC2.out yy hByy'; try dsimp only)
        all_goals (
          go_wp2_with fail
          go_meet
          exact ⟨by first | rfl | simp, hByy'⟩)
      case rest =>
      obtain ⟨rfl, hcut⟩ := hcut
      obtain ⟨v2, hvw2⟩ : ∃ W, W = wc := ⟨_, rfl⟩
      rw [← hvw2] at hcut ⊢
      have HBv2 : Hid (Below w7.heap.size w7 v2) := below_after HBy2.out hcut.out
      clear hvw2 hcut hcn2 d1 d2 d3 d4 d5 d6 d7 d8
      go_wp2
      go_ret
      exact ⟨by first | rfl | simp, below_after HBW7.out HBv2.out⟩
  · subst hf1
    obtain ⟨q1, hv1, hr1, hq1, hb1⟩ := hx1
    have hru1 := HR1.out w7 (below_after HB7.out HBw7.out)
    rw [hv1, hr1] at hru1
    obtain ⟨⟨d0, d1, d2⟩, ⟨d3, d4, d5⟩, d6, d7, d8, d9⟩ := HC7.out w7 HBw7.out
    obtain ⟨fg1, fo1, hfe1, hfc1, hfx1⟩ := HFI1.out q1 hq1
    rw [hb1] at hfx1
    have HFX1 : Hid _ := hfx1
    have hql1 : q1 < zn := by rw [HZN.out]; exact hq1
    subst hfe1
    clear hv1 hr1 hfx1 hb1 hq1
    go_wp2_with fail
    refine hru1.mono ?_
    rintro e y1 ⟨rfl, hBy1⟩
    have HBy1 : Hid (Below w7.heap.size w7 y1) := below_after HBw7.out hBy1
    have HCC1 : Hid (∀ W, Below y1.heap.size y1 W → ((W.cell? ⟨w5.heap.size, 1, none⟩ = some (.slice (some ⟨fg1, fo1, none⟩) zn zc) ∧ w5.heap.size < W.heap.size) ∧ (W.cell? ⟨fg1, fo1 + q1, none⟩ = some (.bool wb) ∧ fg1 < W.heap.size) ∧ W.cell? ⟨w.heap.size, 0, none⟩ = some (.int .i64 nk) ∧ W.cell? ⟨w.heap.size, 1, none⟩ = some (.int .i64 ns) ∧ W.cell? ⟨w.heap.size, 2, none⟩ = some (.slice na nl ca) ∧ w.heap.size < W.heap.size)) := fun W hb => by
      have h1 := below_after HBy1.out hb
      obtain ⟨⟨k0, k1, k2⟩, ⟨k3, k4, k5⟩, k6⟩ := HC7.out W h1
      obtain ⟨k7, k8⟩ := HFX1.out W (below_after HB7.out h1)
      exact ⟨⟨k1, k2⟩, ⟨k8, k7⟩, k6⟩
    have hcn1 := HWHO.out y1.drew HBy1.out.drew
    clear hru1 hBy1 d0 d1 d2 d3 d4 d5 d6 d7 d8 d9
    obtain ⟨⟨d1, d2⟩, ⟨d3, d4⟩, d5, d6, d7, d8⟩ := HCC1.out y1 (Below.refl _ _)
    have hq01 : (0 : Int) ≤ (q1 : Int) := by omega
    have hq11 : (q1 : Int) < (zn : Int) := by omega
    have hz00 : ((0 : Int) != 0) = false := by simp
    have hbb1 : (wb != wb) = false := by simp
    go_upto_region 14 with fail
    go_cut [87] from 75 to 88 (fun s wx => s = .bool false ∧ Hid (Below y1.heap.size y1 wx))
    case first =>
      go_region_law (go_simp; (with_reducible refine hcn1.mono ?_); rintro e yy ⟨rfl, hByy⟩; have hByy' : Below y1.heap.size y1 yy := below_drw hByy; obtain ⟨⟨e1, e2⟩, ⟨e3, e4⟩, e5, e6, e7, e8⟩ := HCC1.out yy hByy'; try dsimp only)
      all_goals (
        go_wp2_with fail
        go_meet
        exact ⟨by first | rfl | simp, hByy'⟩)
    case rest =>
    obtain ⟨rfl, hcut⟩ := hcut
    obtain ⟨v1, hvw1⟩ : ∃ W, W = wc := ⟨_, rfl⟩
    rw [← hvw1] at hcut ⊢
    have HBv1 : Hid (Below w7.heap.size w7 v1) := below_after HBy1.out hcut.out
    clear hvw1 hcut hcn1 d1 d2 d3 d4 d5 d6 d7 d8
    rcases HTE2.out with hf2 | ⟨hf2, hx2⟩
    · subst hf2
      go_wp2
      go_ret
      exact ⟨by first | rfl | simp, below_after HBW7.out HBv1.out⟩
    · subst hf2
      obtain ⟨q2, hv2, hr2, hq2, hb2⟩ := hx2
      have hru2 := HR2.out v1 (below_after HB7.out HBv1.out)
      rw [hv2, hr2] at hru2
      obtain ⟨⟨d0, d1, d2⟩, ⟨d3, d4, d5⟩, d6, d7, d8, d9⟩ := HC7.out v1 HBv1.out
      obtain ⟨fg2, fo2, hfe2, hfc2, hfx2⟩ := HFI2.out q2 hq2
      rw [hb2] at hfx2
      have HFX2 : Hid _ := hfx2
      have hql2 : q2 < vn := by rw [HVN.out]; exact hq2
      subst hfe2
      clear hv2 hr2 hfx2 hb2 hq2
      go_wp2_with fail
      refine hru2.mono ?_
      rintro e y2 ⟨rfl, hBy2⟩
      have HBy2 : Hid (Below w7.heap.size w7 y2) := below_after HBv1.out hBy2
      have HCC2 : Hid (∀ W, Below y2.heap.size y2 W → ((W.cell? ⟨w6.heap.size, 1, none⟩ = some (.slice (some ⟨fg2, fo2, none⟩) vn vc) ∧ w6.heap.size < W.heap.size) ∧ (W.cell? ⟨fg2, fo2 + q2, none⟩ = some (.bool sb) ∧ fg2 < W.heap.size) ∧ W.cell? ⟨w.heap.size, 0, none⟩ = some (.int .i64 nk) ∧ W.cell? ⟨w.heap.size, 1, none⟩ = some (.int .i64 ns) ∧ W.cell? ⟨w.heap.size, 2, none⟩ = some (.slice na nl ca) ∧ w.heap.size < W.heap.size)) := fun W hb => by
        have h1 := below_after HBy2.out hb
        obtain ⟨⟨k0, k1, k2⟩, ⟨k3, k4, k5⟩, k6⟩ := HC7.out W h1
        obtain ⟨k7, k8⟩ := HFX2.out W (below_after HB7.out h1)
        exact ⟨⟨k4, k5⟩, ⟨k8, k7⟩, k6⟩
      have hcn2 := HSUF.out y2.drew HBy2.out.drew
      clear hru2 hBy2 d0 d1 d2 d3 d4 d5 d6 d7 d8 d9
      obtain ⟨⟨d1, d2⟩, ⟨d3, d4⟩, d5, d6, d7, d8⟩ := HCC2.out y2 (Below.refl _ _)
      have hq02 : (0 : Int) ≤ (q2 : Int) := by omega
      have hq12 : (q2 : Int) < (vn : Int) := by omega
      have hz00 : ((0 : Int) != 0) = false := by simp
      have hbb2 : (sb != sb) = false := by simp
      go_upto_region 18 with fail
      go_cut [108] from 96 to 109 (fun s wx => s = .bool false ∧ Hid (Below y2.heap.size y2 wx))
      case first =>
        go_region_law (go_simp; (with_reducible refine hcn2.mono ?_); rintro e yy ⟨rfl, hByy⟩; have hByy' : Below y2.heap.size y2 yy := below_drw hByy; obtain ⟨⟨e1, e2⟩, ⟨e3, e4⟩, e5, e6, e7, e8⟩ := HCC2.out yy hByy'; try dsimp only)
        all_goals (
          go_wp2_with fail
          go_meet
          exact ⟨by first | rfl | simp, hByy'⟩)
      case rest =>
      obtain ⟨rfl, hcut⟩ := hcut
      obtain ⟨v2, hvw2⟩ : ∃ W, W = wc := ⟨_, rfl⟩
      rw [← hvw2] at hcut ⊢
      have HBv2 : Hid (Below w7.heap.size w7 v2) := below_after HBy2.out hcut.out
      clear hvw2 hcut hcn2 d1 d2 d3 d4 d5 d6 d7 d8
      go_wp2
      go_ret
      exact ⟨by first | rfl | simp, below_after HBW7.out HBv2.out⟩
end Go.Proofs.YtehkaiohmcenbaaDoor
