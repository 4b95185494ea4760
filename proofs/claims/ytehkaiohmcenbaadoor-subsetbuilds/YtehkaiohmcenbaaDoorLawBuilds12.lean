/-
  scansionlaw12.SubsetBuilds.
-/
import Derived.Test.YtehkaiohmcenbaaDoorSbRBuild
import Derived.Test.YtehkaiohmcenbaaDoorSbRSame
import Derived.Test.YtehkaiohmcenbaaDoorSbLaw
import Derived.Deep.RegionLaw
import Derived.Deep.CutRange
namespace Go.Proofs.YtehkaiohmcenbaaDoor
open Go.RowKit Go.Shelf
set_option linter.unusedVariables false

set_option maxRecDepth 100000 in
set_option maxHeartbeats 32000000 in
theorem subsetBuilds_any (a : Nd) (za : Value) (wa : Option Addr) (wp : Nat) (ms : List Nat) (x0 x1 : Int) (w : World) (hT : TabW w) (hP : PowW w) (ha : KdX (fun k => k < w.heap.size) w za a.kids) (hm : WrdAt w.heap.size w (.slice wa ms.length wp) ms) :
    Calls Tryd.prog 5 #[ndV a za, .slice wa ms.length wp, .agg #[.int .i64 x0, .int .i64 x1]] w fun e w' => e = .returned (.bool true) ∧ Below w.heap.size w w' := by
  obtain ⟨na, ca, rfl, _⟩ := ha.slice
  have HT : Hid (TabW w) := hT
  have HP : Hid (PowW w) := hP
  have HMV : Hid (WrdAt w.heap.size w (.slice wa ms.length wp) ms) := hm
  obtain ⟨W0, hW0⟩ : ∃ W, W = (w.alloc (.cells #[.int .i64 a.k, .int .i64 a.s, .slice na a.kids.length ca] 24)).alloc (.cells #[.int .i64 x0, .int .i64 x1] 43) := ⟨_, rfl⟩
  obtain ⟨h0, h1, hB0, hs0⟩ := alloc2 hW0
  have hbA : Box W0 w.heap.size a.k a.s (.slice na a.kids.length ca) := h0
  have HX0 : Hid (∀ W, Below W0.heap.size W0 W → W.cell? ⟨w.heap.size + 1, 0, none⟩ = some (.int .i64 x0) ∧ W.cell? ⟨w.heap.size + 1, 1, none⟩ = some (.int .i64 x1) ∧ w.heap.size + 1 < W.heap.size) := fun W hb => by
    have h := (hb.block _ (lt_of_heap h1)).trans h1
    exact ⟨cell_in h 0, cell_in h 1, lt_of_heap h⟩
  have HFW : Hid (∀ W, Below w.heap.size w W → Calls Tryd.prog 22 #[ndV a (.slice na a.kids.length ca), .slice wa ms.length wp] W fun e w' => ∃ b, e = .returned (.bool b) ∧ (b = true → Dp 10 a.kids ∧ (setsN a).length ≤ 25 ∧ ms.length ≤ 12) ∧ Below W.heap.size W w') := fun W h => few_any12 a _ wa ms.length wp W (kdx_below ha h)
  have HBD : Hid (∀ W, Dp 10 a.kids → Below w.heap.size w W → Calls Tryd.prog 12 #[.agg #[.int .i64 a.k, .int .i64 a.s, .slice na a.kids.length ca]] W (BldA a W)) := fun W hd hb => rbuild_any 10 a na ca W hd (kdx_below ha hb)
  unfold ndV at HFW ⊢
  obtain ⟨nk, hnk⟩ : ∃ x, x = a.k := ⟨_, rfl⟩
  obtain ⟨ns, hns⟩ : ∃ x, x = a.s := ⟨_, rfl⟩
  obtain ⟨nl, hnl⟩ : ∃ x, x = a.kids.length := ⟨_, rfl⟩
  obtain ⟨M, hM⟩ : ∃ x, x = ms.length := ⟨_, rfl⟩
  have HM : Hid (M = ms.length) := hM
  rw [← hnk, ← hns, ← hnl] at HFW hbA hW0 HBD ⊢
  rw [← hM] at HFW HMV ⊢
  have HB0 : Hid (Below w.heap.size w W0) := hB0
  have HBA : Hid (Box W0 w.heap.size nk ns (.slice na nl ca)) := hbA
  have HW0 : Hid (W0 = _) := hW0
  have haw := awake_any12 W0 (hT.below hB0) (hP.below hB0)
  obtain ⟨fb, hfb⟩ : ∃ b, b = (bits .and .i64 x0 1 == 1) := ⟨_, rfl⟩
  have hfb' := hfb.symm
  clear hnk hns hnl hM ha hB0 hbA hT hP hm hW0 h0 h1 hs0 hfb
  go_enter Tryd.func5, Tryd.ntmps5
  go_upto_region 1 with fail
  rw [← HW0.out]
  go_wp2_with fail
  refine haw.mono ?_
  rintro e w1 ⟨rfl, hB1⟩
  have HB1 : Hid (Below W0.heap.size W0 w1) := hB1
  obtain ⟨a0, a1, a2⟩ : _ ∧ _ ∧ _ := ⟨(HBA.out.below hB1).c0, (HBA.out.below hB1).c1, (HBA.out.below hB1).c2⟩
  have hf1 := HFW.out w1 (below_after HB0.out hB1)
  clear haw hB1
  go_wp2_with fail
  refine hf1.mono ?_
  rintro e w2 ⟨ok, rfl, hok, hB2⟩
  have HB2 : Hid (Below W0.heap.size W0 w2) := below_after HB1.out hB2
  have HBW2 : Hid (Below w.heap.size w w2) := below_after HB0.out HB2.out
  have HOK : Hid (ok = true → Dp 10 a.kids ∧ (setsN a).length ≤ 25 ∧ M ≤ 12) := hok
  obtain ⟨z0, z1, z2⟩ := HX0.out w2 HB2.out
  clear hf1 hB2 a0 a1 a2 hok
  cases ok with
  | false =>
    go_wp2
    go_ret
    exact ⟨rfl, HBW2.out⟩
  | true =>
  have HDP : Hid (Dp 10 a.kids) := (HOK.out rfl).1
  have HM12 : Hid (M ≤ 12) := (HOK.out rfl).2.2
  obtain ⟨a0, a1, a2⟩ : _ ∧ _ ∧ _ := ⟨(HBA.out.below HB2.out).c0, (HBA.out.below HB2.out).c1, (HBA.out.below HB2.out).c2⟩
  have hlt1 : w.heap.size < w2.heap.size := (HBA.out.below HB2.out).lt
  have hbd := HBD.out w2 HDP.out HBW2.out
  have HLIM : Hid (¬ (100 < x1 ∧ x1 ≤ 5000) ∨ (100 < x1 ∧ x1 ≤ 5000)) := by
    show _ ∨ _
    by_cases q : 100 < x1 ∧ x1 ≤ 5000
    · exact .inr q
    · exact .inl q
  clear HOK
  go_upto_region 3 with fail
  go_cut [35] from 20 to 36 (fun s wx => ∃ bb, s = .bool bb ∧ wx = w2)
  case first =>
    by_cases q1 : 100 < x1
    · have g1 : decide (100 < x1) = true := decide_eq_true q1
      by_cases q2 : x1 ≤ 5000
      · have g2 : decide (x1 ≤ 5000) = true := decide_eq_true q2
        go_wp2
        go_meet
        exact ⟨_, rfl, rfl⟩
      · have g2 : decide (x1 ≤ 5000) = false := decide_eq_false q2
        go_wp2
        go_meet
        exact ⟨_, rfl, rfl⟩
    · have g1 : decide (100 < x1) = false := decide_eq_false q1
      go_wp2
      go_meet
      exact ⟨_, rfl, rfl⟩
  case rest =>
  obtain ⟨bb, rfl, hwc⟩ := hcut
  obtain rfl := hwc.symm
  cases bb with
  | true =>
    go_wp2
    go_ret
    exact ⟨rfl, HBW2.out⟩
  | false =>
  go_wp2_with fail
  refine hbd.mono ?_
  rintro e w4 ⟨av, rfl, hav, hB4⟩
  have HAV : Hid (AutAt w4 av (autF a)) := hav
  obtain ⟨sv, fv, lv, wv, hev, hs, hf, hl, hw⟩ := hav
  subst hev
  obtain ⟨sa, sc, hes, _⟩ := hs.slice
  obtain ⟨fa, fc, hef, _⟩ := hf.slice
  obtain ⟨la, lc, hel, _⟩ := hl.slice
  obtain ⟨xa, xc, hex, _⟩ := hw.slice
  obtain ⟨er, her⟩ : ∃ x, x = errF a := ⟨_, rfl⟩
  obtain ⟨n1, hn1⟩ : ∃ x, x = (autF a).null := ⟨_, rfl⟩
  obtain ⟨sl, hsl⟩ : ∃ x, x = (autF a).sets.length := ⟨_, rfl⟩
  obtain ⟨fl, hfl⟩ : ∃ x, x = (autF a).first.length := ⟨_, rfl⟩
  obtain ⟨ll, hll⟩ : ∃ x, x = (autF a).last.length := ⟨_, rfl⟩
  obtain ⟨xl, hxl⟩ : ∃ x, x = (autF a).fol.length := ⟨_, rfl⟩
  rw [← hsl] at hes
  rw [← hfl] at hef
  rw [← hll] at hel
  rw [← hxl] at hex
  subst hes hef hel hex
  rw [← hn1, ← her]
  rw [← hn1] at HAV
  have HE1 : Hid (er = errF a) := her
  have HBW4 : Hid (Below w.heap.size w w4) := below_after HBW2.out hB4
  have HB4 : Hid (Below W0.heap.size W0 w4) := below_after HB2.out hB4
  clear hbd hs hf hl hw hB4 hn1 hsl hfl hll hxl her a0 a1 a2 hlt1 z0 z1 z2
  by_cases he : er = 0
  case neg =>
    have hne : (er != 0) = true := by simpa using he
    go_wp2
    go_ret
    exact ⟨rfl, HBW4.out.alloc HBW4.out.size _⟩
  case pos =>
  subst he
  have HEZ : Hid (errF a = 0) := HE1.out.symm
  obtain ⟨W4, hW4⟩ : ∃ W, W = w4.alloc (.cells #[.bool n1, .slice sa sl sc, .slice fa fl fc, .slice la ll lc, .slice xa xl xc] 30) := ⟨_, rfl⟩
  have hBW : Below w4.heap.size w4 W4 := by rw [hW4]; exact below_alloc _ _
  have HA1 : Hid (ABox W4 w4.heap.size n1 (.slice sa sl sc) (.slice fa fl fc) (.slice la ll lc) (.slice xa xl xc)) := by rw [hW4]; exact heap_new' _ _
  have HAU : Hid (AutAt W4 (.agg #[.bool n1, .slice sa sl sc, .slice fa fl fc, .slice la ll lc, .slice xa xl xc]) (autF a)) := HAV.out.below hBW
  have HBWW : Hid (Below w.heap.size w W4) := below_after HBW4.out hBW
  have HBZ : Hid (Below W0.heap.size W0 W4) := below_after HB4.out hBW
  have hs1 : Calls Tryd.prog 23 #[.agg #[.bool n1, .slice sa sl sc, .slice fa fl fc, .slice la ll lc, .slice xa xl xc], .slice wa M wp, .bool fb, .int .i64 x1] W4 (SbdA (autF a) fb ms x1 W4) := sbuild_any (autF a) _ ms _ fb x1 W4 (HT.out.below HBWW.out) (HP.out.below HBWW.out) HAU.out (okA_of HEZ.out) (wrd_below HMV.out HBWW.out) (by have := HM12.out; have := HM.out; omega)
  have HS2 : Hid (∀ W, Below W4.heap.size W4 W → Calls Tryd.prog 24 #[.agg #[.bool n1, .slice sa sl sc, .slice fa fl fc, .slice la ll lc, .slice xa xl xc], .slice wa M wp, .bool fb, .int .i64 x1] W (SbdA (autF a) fb ms x1 W)) := fun W hb => rsbuild_any (autF a) _ ms _ fb x1 W (HAU.out.below hb) (okA_of HEZ.out) (wrd_below HMV.out (below_after HBWW.out hb)) (by have := HM12.out; have := HM.out; omega)
  obtain ⟨b0, b1, b2, b3, b4⟩ : _ ∧ _ ∧ _ ∧ _ ∧ _ := ⟨HA1.out.c0, HA1.out.c1, HA1.out.c2, HA1.out.c3, HA1.out.c4⟩
  have hlt4 := HA1.out.lt
  obtain ⟨z0, z1, z2⟩ := HX0.out W4 HBZ.out
  have HSM : Hid ((intsL (dfaD (autF a) fb ms x1).1).length ≤ 5000 ∧ (dfaD (autF a) fb ms x1).2.length ≤ 5000 ∧ ∀ x ∈ intsL (dfaD (autF a) fb ms x1).1, x.length ≤ 200) := dfa_small _ _ _ _ (by have := HM12.out; have := HM.out; omega)
  have HW4 : Hid (W4 = _) := hW4
  clear hBW hW4
  go_upto_region 8 with fail
  rw [← HW4.out]
  go_wp2_with fail
  refine hs1.mono ?_
  rintro e w5 ⟨dv, rfl, hd1, hB5⟩
  have HD1 : Hid (DfaAt w5 dv (intsL (dfaD (autF a) fb ms x1).1) (dfaD (autF a) fb ms x1).2) := hd1
  obtain ⟨na1, nc1, fa1, fc1, rfl, _⟩ := dfa_parts hd1
  obtain ⟨N, hN⟩ : ∃ x, x = intsL (dfaD (autF a) fb ms x1).1 := ⟨_, rfl⟩
  obtain ⟨F, hF⟩ : ∃ x, x = (dfaD (autF a) fb ms x1).2 := ⟨_, rfl⟩
  obtain ⟨E, hE⟩ : ∃ x, x = errD (autF a) fb ms x1 := ⟨_, rfl⟩
  have HNF : Hid (N = intsL (dfaD (autF a) fb ms x1).1 ∧ F = (dfaD (autF a) fb ms x1).2 ∧ E = errD (autF a) fb ms x1) := ⟨hN, hF, hE⟩
  rw [← hN, ← hF] at HD1 HSM
  rw [← hN, ← hF, ← hE]
  obtain ⟨n, hn⟩ : ∃ x, x = N.length := ⟨_, rfl⟩
  obtain ⟨m, hm⟩ : ∃ x, x = F.length := ⟨_, rfl⟩
  rw [← hn, ← hm] at HD1 ⊢
  obtain ⟨W5, hW5⟩ : ∃ W, W = w5.alloc (.cells #[.slice na1 n nc1, .slice fa1 m fc1] 46) := ⟨_, rfl⟩
  have hBW5 : Below w5.heap.size w5 W5 := by rw [hW5]; exact below_alloc _ _
  have HX1 : Hid (DBox W5 w5.heap.size (.slice na1 n nc1) (.slice fa1 m fc1)) := by rw [hW5]; exact heap_new' _ _
  have HD1' : Hid (DfaAt W5 (.agg #[.slice na1 n nc1, .slice fa1 m fc1]) N F) := HD1.out.below hBW5
  have HB5 : Hid (Below W4.heap.size W4 W5) := below_after hB5 hBW5
  have HW5 : Hid (W5 = _) := hW5
  have hs2 := HS2.out W5 HB5.out
  obtain ⟨c0, c1, c2, c3, c4⟩ : _ ∧ _ ∧ _ ∧ _ ∧ _ := ⟨(HA1.out.below HB5.out).c0, (HA1.out.below HB5.out).c1, (HA1.out.below HB5.out).c2, (HA1.out.below HB5.out).c3, (HA1.out.below HB5.out).c4⟩
  have hlt5 := (HA1.out.below HB5.out).lt
  have HBZ5 : Hid (Below W0.heap.size W0 W5) := below_after HBZ.out HB5.out
  have HNM : Hid (n = N.length ∧ m = F.length) := ⟨hn, hm⟩
  clear hs1 hB5 hBW5 hW5 b0 b1 b2 b3 b4 hlt4 HD1 hN hF hE hn hm z0 z1 z2
  obtain ⟨z0, z1, z2⟩ := HX0.out W5 HBZ5.out
  go_upto_region 9 with fail
  rw [← HW5.out]
  go_wp2_with fail
  refine hs2.mono ?_
  rintro e w6 ⟨dv, rfl, hd2, hB6⟩
  rw [← HNF.out.1, ← HNF.out.2.1] at hd2
  rw [← HNF.out.2.2]
  have HD2 : Hid (DfaAt w6 dv N F) := hd2
  obtain ⟨na2, nc2, fa2, fc2, rfl, _⟩ := dfa_parts hd2
  rw [← HNM.out.1, ← HNM.out.2] at HD2 ⊢
  obtain ⟨W6, hW6⟩ : ∃ W, W = w6.alloc (.cells #[.slice na2 n nc2, .slice fa2 m fc2] 46) := ⟨_, rfl⟩
  have hBW6 : Below w6.heap.size w6 W6 := by rw [hW6]; exact below_alloc _ _
  have HX2 : Hid (DBox W6 w6.heap.size (.slice na2 n nc2) (.slice fa2 m fc2)) := by rw [hW6]; exact heap_new' _ _
  have HB56 : Hid (Below W5.heap.size W5 W6) := below_after hB6 hBW6
  have HW6 : Hid (W6 = _) := hW6
  have HBF : Hid (Below w.heap.size w W6) := below_after HBWW.out (below_after HB5.out HB56.out)
  have hsm := rsame_any12 N F _ _ W6 (HD1'.out.below HB56.out) (HD2.out.below hBW6) HSM.out.1 HSM.out.2.1 HSM.out.2.2
  have d0 := (HX1.out.below HB56.out).c0
  have d1 := (HX1.out.below HB56.out).c1
  have dl := (HX1.out.below HB56.out).lt
  have k0 := HX2.out.c0
  have k1 := HX2.out.c1
  have kl := HX2.out.lt
  have hEE : (E == E) = true := by simp
  clear hs2 hB6 hBW6 hW6 hd2 c0 c1 c2 c3 c4 hlt5 z0 z1 z2
  go_upto_region 10 with fail
  rw [← HW6.out]
  go_wp2_with fail
  refine hsm.mono ?_
  rintro e w7 ⟨rfl, hB7⟩
  clear hsm
  go_wp2
  go_ret
  exact ⟨by first | rfl | simp, below_after HBF.out hB7⟩
end Go.Proofs.YtehkaiohmcenbaaDoor
