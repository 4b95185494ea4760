/-
  scansionlaw12.SubsetMet.
-/
import Derived.Test.YtehkaiohmcenbabDoorSbTell
import Derived.Test.YtehkaiohmcenbabDoorSbLaw
import Derived.Deep.RegionLaw
import Derived.Deep.CutRange
namespace Go.Proofs.YtehkaiohmcenbabDoor
open Go.RowKit Go.Shelf
set_option linter.unusedVariables false

theorem bad12 {M : Nat} (h1 : 1 ≤ M) (h2 : M ≤ 12) : ¬ (M < 1 ∨ 200 < M ∨ (100 : Int) < 1 ∨ 5000 < (100 : Int)) := by omega

set_option maxRecDepth 100000 in
set_option maxHeartbeats 32000000 in
theorem subsetMet_any (a : Nd) (za : Value) (wa : Option Addr) (wp : Nat) (ms : List Nat) (fb : Bool) (w : World) (hT : TabW w) (hP : PowW w) (ha : KdX (fun k => k < w.heap.size) w za a.kids) (hm : WrdAt w.heap.size w (.slice wa ms.length wp) ms) :
    Calls Tryd.prog 3 #[ndV a za, .slice wa ms.length wp, .bool fb] w fun e w' => e = .returned (.bool true) ∧ Below w.heap.size w w' := by
  obtain ⟨na, ca, rfl, _⟩ := ha.slice
  have HKD : Hid (KdX (fun k => k < w.heap.size) w (.slice na a.kids.length ca) a.kids) := ha
  have HT : Hid (TabW w) := hT
  have HP : Hid (PowW w) := hP
  have HMV : Hid (WrdAt w.heap.size w (.slice wa ms.length wp) ms) := hm
  obtain ⟨W0, hW0⟩ : ∃ W, W = w.alloc (.cells #[.int .i64 a.k, .int .i64 a.s, .slice na a.kids.length ca] 24) := ⟨_, rfl⟩
  have hB0 : Below w.heap.size w W0 := by rw [hW0]; exact below_alloc _ _
  have hbA : Box W0 w.heap.size a.k a.s (.slice na a.kids.length ca) := by rw [hW0]; exact box_new _ _ _ _
  have HFW : Hid (∀ W, Below w.heap.size w W → Calls Tryd.prog 6 #[ndV a (.slice na a.kids.length ca), .slice wa ms.length wp] W fun e w' => ∃ b, e = .returned (.bool b) ∧ (b = true → Dp 10 a.kids ∧ (setsN a).length ≤ 25 ∧ ms.length ≤ 12) ∧ Below W.heap.size W w') := fun W h => few_any12 a _ wa ms.length wp W (kdx_below ha h)
  have HBD : Hid (∀ W, Dp 10 a.kids → Below w.heap.size w W → Calls Tryd.prog 7 #[.agg #[.int .i64 a.k, .int .i64 a.s, .slice na a.kids.length ca]] W (BldA a W)) := fun W hd hb => rbuild_any 10 a na ca W hd (kdx_below ha hb)
  unfold ndV at HFW ⊢
  obtain ⟨nk, hnk⟩ : ∃ x, x = a.k := ⟨_, rfl⟩
  obtain ⟨ns, hns⟩ : ∃ x, x = a.s := ⟨_, rfl⟩
  obtain ⟨nl, hnl⟩ : ∃ x, x = a.kids.length := ⟨_, rfl⟩
  obtain ⟨M, hM⟩ : ∃ x, x = ms.length := ⟨_, rfl⟩
  have HM : Hid (M = ms.length) := hM
  rw [← hnk, ← hns, ← hnl] at HFW hbA hW0 HBD ⊢
  rw [← hM] at HFW HMV ⊢
  have HB0 : Hid (Below w.heap.size w W0) := hB0
  have HBA : Hid (Box W0 w.heap.size nk ns (.slice na nl ca)) := hbA
  have HW0 : Hid (W0 = _) := hW0
  have haw := awake_any12 W0 (hT.below hB0) (hP.below hB0)
  rw [hW0] at haw
  clear hnk hns hnl hM ha hB0 hbA hT hP hm hW0
  go_enter Tryd.func3, Tryd.ntmps3
  go_wp2_with fail
  refine haw.mono ?_
  rw [← HW0.out]
  rintro e w1 ⟨rfl, hB1⟩
  have HB1 : Hid (Below W0.heap.size W0 w1) := hB1
  obtain ⟨a0, a1, a2⟩ : _ ∧ _ ∧ _ := ⟨(HBA.out.below hB1).c0, (HBA.out.below hB1).c1, (HBA.out.below hB1).c2⟩
  have hf1 := HFW.out w1 (below_after HB0.out hB1)
  clear haw hB1
  go_wp2_with fail
  refine hf1.mono ?_
  rintro e w2 ⟨ok, rfl, hok, hB2⟩
  have HB2 : Hid (Below W0.heap.size W0 w2) := below_after HB1.out hB2
  have HBW2 : Hid (Below w.heap.size w w2) := below_after HB0.out HB2.out
  have HOK : Hid (ok = true → Dp 10 a.kids ∧ (setsN a).length ≤ 25 ∧ M ≤ 12) := hok
  clear hf1 hB2 a0 a1 a2 hok
  cases ok with
  | false =>
    go_wp2
    go_ret
    exact ⟨rfl, HBW2.out⟩
  | true =>
  by_cases hM0 : M = 0
  case pos =>
    subst hM0
    go_wp2
    go_ret
    exact ⟨rfl, HBW2.out⟩
  case neg =>
  have HDP : Hid (Dp 10 a.kids) := (HOK.out rfl).1
  have HM12 : Hid (1 ≤ M ∧ M ≤ 12) := ⟨by omega, (HOK.out rfl).2.2⟩
  have hm0 : decide ((M : Int) = 0) = false := by simp; omega
  have hm0' : ((M : Int) == 0) = false := by simp; omega
  obtain ⟨a0, a1, a2⟩ : _ ∧ _ ∧ _ := ⟨(HBA.out.below HB2.out).c0, (HBA.out.below HB2.out).c1, (HBA.out.below HB2.out).c2⟩
  have hlt1 : w.heap.size < w2.heap.size := (HBA.out.below HB2.out).lt
  have hbd := HBD.out w2 HDP.out HBW2.out
  clear HOK hM0
  go_wp2_with fail
  refine hbd.mono ?_
  rintro e w4 ⟨av, rfl, hav, hB4⟩
  have HAV : Hid (AutAt w4 av (autF a)) := hav
  obtain ⟨sv, fv, lv, wv, hev, hs, hf, hl, hw⟩ := hav
  subst hev
  obtain ⟨sa, sc, hes, _⟩ := hs.slice
  obtain ⟨fa, fc, hef, _⟩ := hf.slice
  obtain ⟨la, lc, hel, _⟩ := hl.slice
  obtain ⟨xa, xc, hex, _⟩ := hw.slice
  obtain ⟨er, her⟩ : ∃ x, x = errF a := ⟨_, rfl⟩
  obtain ⟨n1, hn1⟩ : ∃ x, x = (autF a).null := ⟨_, rfl⟩
  obtain ⟨sl, hsl⟩ : ∃ x, x = (autF a).sets.length := ⟨_, rfl⟩
  obtain ⟨fl, hfl⟩ : ∃ x, x = (autF a).first.length := ⟨_, rfl⟩
  obtain ⟨ll, hll⟩ : ∃ x, x = (autF a).last.length := ⟨_, rfl⟩
  obtain ⟨xl, hxl⟩ : ∃ x, x = (autF a).fol.length := ⟨_, rfl⟩
  rw [← hsl] at hes
  rw [← hfl] at hef
  rw [← hll] at hel
  rw [← hxl] at hex
  subst hes hef hel hex
  rw [← hn1, ← her]
  rw [← hn1] at HAV
  have HE1 : Hid (er = errF a) := her
  have HBW4 : Hid (Below w.heap.size w w4) := below_after HBW2.out hB4
  have HB4 : Hid (Below W0.heap.size W0 w4) := below_after HB2.out hB4
  clear hbd hs hf hl hw hB4 hn1 hsl hfl hll hxl her a0 a1 a2 hlt1 hm0 hm0'
  by_cases he : er = 0
  case neg =>
    have hne : (er != 0) = true := by simpa using he
    go_wp2
    go_ret
    exact ⟨rfl, HBW4.out.alloc HBW4.out.size _⟩
  case pos =>
  subst he
  have HEZ : Hid (errF a = 0) := HE1.out.symm
  obtain ⟨W4, hW4⟩ : ∃ W, W = w4.alloc (.cells #[.bool n1, .slice sa sl sc, .slice fa fl fc, .slice la ll lc, .slice xa xl xc] 31) := ⟨_, rfl⟩
  have hBW : Below w4.heap.size w4 W4 := by rw [hW4]; exact below_alloc _ _
  have HA1 : Hid (ABox W4 w4.heap.size n1 (.slice sa sl sc) (.slice fa fl fc) (.slice la ll lc) (.slice xa xl xc)) := by rw [hW4]; exact heap_new' _ _
  have HAU : Hid (AutAt W4 (.agg #[.bool n1, .slice sa sl sc, .slice fa fl fc, .slice la ll lc, .slice xa xl xc]) (autF a)) := HAV.out.below hBW
  have HBWW : Hid (Below w.heap.size w W4) := below_after HBW4.out hBW
  have hs1 : Calls Tryd.prog 8 #[.agg #[.bool n1, .slice sa sl sc, .slice fa fl fc, .slice la ll lc, .slice xa xl xc], .slice wa M wp, .bool fb, .int .i64 100] W4 (SbdA (autF a) fb ms 100 W4) := sbuild_any (autF a) _ ms _ fb 100 W4 (HT.out.below HBWW.out) (HP.out.below HBWW.out) HAU.out (okA_of HEZ.out) (wrd_below HMV.out HBWW.out) (by have := HM12.out.2; have := HM.out; omega)
  obtain ⟨b0, b1, b2, b3, b4⟩ : _ ∧ _ ∧ _ ∧ _ ∧ _ := ⟨HA1.out.c0, HA1.out.c1, HA1.out.c2, HA1.out.c3, HA1.out.c4⟩
  have hlt4 := HA1.out.lt
  have HW4 : Hid (W4 = _) := hW4
  have hbad := bad12 HM12.out.1 HM12.out.2
  rw [HM.out] at hbad
  have HBAD : Hid (¬ (ms.length < 1 ∨ 200 < ms.length ∨ (100 : Int) < 1 ∨ 5000 < (100 : Int))) := hbad
  clear hBW hW4 hbad
  go_upto_region 8 with fail
  rw [← HW4.out]
  go_wp2_with fail
  refine hs1.mono ?_
  rintro e w5 ⟨dv, rfl, hd1, hB5⟩
  clear hs1 b0 b1 b2 b3 b4 hlt4
  obtain ⟨an, han⟩ : ∃ x, x = ansB (autF a) fb ms 100 := ⟨_, rfl⟩
  have HAN : Hid (an = ansB (autF a) fb ms 100) := han
  clear han
  cases an with
  | none =>
    obtain ⟨e1, e2⟩ := errD_none (lim := 100) HBAD.out HAN.out.symm
    rw [e2] at hd1
    rw [e1]
    obtain ⟨nv1, fv1, rfl, ⟨ya, yc, rfl, _⟩, za, zc, rfl, _, _, _⟩ := hd1
    have HBF : Hid (Below w.heap.size w w5) := below_after HBWW.out hB5
    clear e1 e2 hB5
    go_wp2
    go_ret
    exact ⟨rfl, HBF.out.alloc HBF.out.size _⟩
  | some b =>
    obtain ⟨e1, e2⟩ := errD_some (lim := 100) HBAD.out HAN.out.symm
    rw [e2] at hd1
    rw [e1]
    obtain ⟨ho, hbl⟩ := ans_ok12 HAN.out.symm (by omega)
    have HO : Hid (StOk (autF a) fb ms b ∧ b.S.length ≤ 100) := ⟨ho, hbl⟩
    obtain ⟨sn, h00, hsb, hst, hnx, hfin⟩ := ans_met HAN.out.symm (by omega)
    have HSN : Hid ((∀ j, j ≤ b.N.length → ∀ i, i ≤ ms.length → sn j i ≤ 100 + ms.length) ∧ (∀ j, (hj : j < b.N.length) → ∀ i, (hi : i < b.N[j].length) → b.N[j][i] ≤ sn j i ∧ sn j (i + 1) = if b.N[j][i] = sn j i then sn j i + 1 else sn j i) ∧ (∀ j, (hj : j < b.N.length) → sn j b.N[j].length = sn (j + 1) 0) ∧ sn b.N.length 0 = b.N.length) := ⟨hsb, hst, hnx, hfin⟩
    have HD1 : Hid (DfaAt w5 dv (intsL b.N) b.F) := hd1
    obtain ⟨nv1, fv1, rfl, ⟨ya, yc, rfl, hyc, _, hx⟩, za, zc, rfl, _, _, _⟩ := hd1
    obtain ⟨n, hn⟩ : ∃ x, x = (intsL b.N).length := ⟨_, rfl⟩
    have HN : Hid (n = b.N.length ∧ n = (intsL b.N).length) := ⟨by rw [hn]; simp [intsL], hn⟩
    obtain ⟨zn, hzn⟩ : ∃ x, x = b.F.length := ⟨_, rfl⟩
    rw [← hn] at hyc
    rw [← hn, ← hzn] at HD1
    rw [← hn, ← hzn]
    obtain ⟨W5, hW5⟩ : ∃ W, W = w5.alloc (.cells #[.slice ya n yc, .slice za zn zc] 37) := ⟨_, rfl⟩
    have hBW5 : Below w5.heap.size w5 W5 := by rw [hW5]; exact below_alloc _ _
    have HX1 : Hid (DBox W5 w5.heap.size (.slice ya n yc) (.slice za zn zc)) := by rw [hW5]; exact heap_new' _ _
    have HD2 : Hid (DfaAt W5 (.agg #[.slice ya n yc, .slice za zn zc]) (intsL b.N) b.F) := HD1.out.below hBW5
    have HBW5 : Hid (Below w.heap.size w W5) := below_after HBWW.out (below_after hB5 hBW5)
    have HW5 : Hid (W5 = _) := hW5
    have HROW : Hid (∀ j, (hj : j < b.N.length) → ∃ g off y yc', ya = some ⟨g, off, none⟩ ∧ W5.cell? ⟨g, off + j, none⟩ = some (.slice y M yc') ∧ M ≤ yc' ∧ ∀ i, (hi : i < b.N[j].length) → ∃ g2 o2, y = some ⟨g2, o2, none⟩ ∧ W5.cell? ⟨g2, o2 + i, none⟩ = some (.int .i64 ((b.N[j][i] : Nat) : Int))) := fun j hj => by
      have hj2 : j < (intsL b.N).length := by simp [intsL]; exact hj
      obtain ⟨g, off, x, h1, h2, h3, h4⟩ := hx j hj2
      have e : (intsL b.N)[j] = upI b.N[j] := by simp [intsL]
      rw [e] at h4
      obtain ⟨y, yc', rfl, hle⟩ := h4.slice
      have hl : (upI b.N[j]).length = M := by rw [HM.out, ← HO.out.1.rowl j hj]; simp [upI]
      rw [hl] at hle h3 h4
      refine ⟨g, off, y, yc', h1, (hBW5.cell (p := ⟨g, _, none⟩) h2).trans h3, hle, fun i hi => ?_⟩
      have hi2 : i < (upI b.N[j]).length := by simp [upI]; exact hi
      obtain ⟨g2, o2, k1, k2, k3⟩ := h4.at hi2
      refine ⟨g2, o2, k1, (hBW5.cell (p := ⟨g2, _, none⟩) k2).trans ?_⟩
      rw [k3]
      simp [upI]
    have hrt := sright_any _ _ _ W5 HD2.out
    rw [HO.out.1.right (by have := HM12.out.1; have := HM.out; omega) (by have := HM12.out.2; have := HM.out; omega) (by have := HO.out.2; omega)] at hrt
    have c0 := HX1.out.c0
    have c1 := HX1.out.c1
    have hlt5 := HX1.out.lt
    have hn100 : n ≤ 100 := by have h1 := HN.out.1; have h2 := HO.out.1.lenN; have h3 := HO.out.2; omega
    have hM12 : M ≤ 12 := HM12.out.2
    have H00 : Hid (sn 0 0 = 1) := h00
    clear e1 e2 hB5 hBW5 hW5 hx hn hzn ho hbl h00 hsb hst hnx hfin
    go_upto_region 12 with fail
    rw [← HW5.out]
    go_wp2
    go_loopw [13, 14] (fun x13 x14 wr => ∃ j : Nat, j ≤ n ∧ x14 = .int .i64 (j : Int) ∧ x13 = .int .i64 ((sn j 0 : Nat) : Int) ∧ wr = W5) (fun _ x14 _ => n - (intOf x14).toNat)
    case atStart => exact ⟨0, Nat.zero_le _, rfl, by rw [H00.out]; rfl, rfl⟩
    case round =>
      obtain ⟨j, hj, rfl, rfl, hwr⟩ := hrel
      obtain rfl := hwr.symm
      by_cases hjn : j < n
      · have hjb : j < b.N.length := by have := HN.out.1; omega
        obtain ⟨g, off, y, yc', rfl, r0, hyc', hrx⟩ := HROW.out j hjb
        have HRX : Hid (∀ i, (hi : i < b.N[j].length) → ∃ g2 o2, y = some ⟨g2, o2, none⟩ ∧ W5.cell? ⟨g2, o2 + i, none⟩ = some (.int .i64 ((b.N[j][i] : Nat) : Int))) := hrx
        have HRL : Hid (b.N[j].length = M) := by show _ = _; rw [HM.out]; exact HO.out.1.rowl j hjb
        have hj0 : (0 : Int) ≤ (j : Int) := by omega
        have hj1 : (j : Int) < (n : Int) := by omega
        clear hrx
        go_wp2
        go_loopw [13, 15] (fun x13 x15 wr => ∃ i : Nat, i ≤ M ∧ x15 = .int .i64 (i : Int) ∧ x13 = .int .i64 ((sn j i : Nat) : Int) ∧ wr = W5) (fun _ x15 _ => M - (intOf x15).toNat)
        case atStart => exact ⟨0, Nat.zero_le _, rfl, rfl, rfl⟩
        case round =>
          obtain ⟨i, hi, rfl, rfl, hwr⟩ := hrel
          obtain rfl := hwr.symm
          by_cases hiM : i < M
          · have hib : i < b.N[j].length := by rw [HRL.out]; exact hiM
            obtain ⟨g2, o2, rfl, s0⟩ := HRX.out i hib
            obtain ⟨k1, k2⟩ := HSN.out.2.1 j (by have := HN.out.1; omega) i hib
            have hb1 := HSN.out.1 j (by have := HN.out.1; omega) i (by have := HM.out; omega)
            obtain ⟨U, hU⟩ : ∃ U, U = b.N[j][i] := ⟨_, rfl⟩
            obtain ⟨Z, hZ⟩ : ∃ Z, Z = sn j i := ⟨_, rfl⟩
            rw [← hU] at s0
            rw [← hU, ← hZ] at k1 k2
            have HK2 : Hid (sn j (i + 1) = if U = Z then Z + 1 else Z) := k2
            have hZb : Z ≤ 200 := by have := HM.out; omega
            rw [← hZ]
            have hi0 : (0 : Int) ≤ (i : Int) := by omega
            have hi1 : (i : Int) < (M : Int) := by omega
            clear hU hZ k2 hb1 hib
            by_cases hUZ : U = Z
            · have HE : Hid (sn j (i + 1) = Z + 1) := by show _ = _; rw [HK2.out, if_pos hUZ]
              subst hUZ
              have hq : ((U : Int) == (U : Int)) = true := by simp
              have hlt0 : ¬ U < U := by omega
              go_wp2
              go_roundw
              case rel => exact ⟨i + 1, by omega, by go_num, by rw [HE.out]; go_num, by first | rfl | trivial⟩
              case measure => simp [intOf]; omega
            · have HE : Hid (sn j (i + 1) = Z) := by show _ = _; rw [HK2.out, if_neg hUZ]
              have hq : ((U : Int) == (Z : Int)) = false := by simp; omega
              have hlt0 : ¬ Z < U := by omega
              clear hUZ
              go_wp2
              go_roundw
              case rel => exact ⟨i + 1, by omega, by go_num, by rw [HE.out], by first | rfl | trivial⟩
              case measure => simp [intOf]; omega
          · obtain rfl : i = M := by omega
            have HE : Hid (sn j i = sn (j + 1) 0) := by
              have := HSN.out.2.2.1 j (by have := HN.out.1; omega)
              rw [HRL.out] at this
              exact this
            rw [HE.out]
            go_wp2
            go_roundw
            case rel => exact ⟨j + 1, by omega, by go_num, rfl, by first | rfl | trivial⟩
            case measure => simp [intOf]; omega
      · obtain rfl : j = n := by omega
        have HE : Hid (sn j 0 = j) := by
          have h1 := HSN.out.2.2.2
          rw [← HN.out.1] at h1
          exact h1
        rw [HE.out]
        have hq : ((j : Int) == (j : Int)) = true := by simp
        go_wp2_with fail
        refine hrt.mono ?_
        rintro e w6 ⟨rfl, hB6⟩
        clear hrt
        go_wp2
        go_ret
        exact ⟨rfl, below_after HBW5.out hB6⟩
end Go.Proofs.YtehkaiohmcenbabDoor
