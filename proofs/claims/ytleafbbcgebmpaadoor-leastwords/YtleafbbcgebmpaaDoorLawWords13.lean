/-
  scansionlaw13.LeastWords.
-/
import Derived.Test.YtleafbbcgebmpaaDoorLsLawM
namespace Go.Proofs.YtleafbbcgebmpaaDoor
open Go.RowKit Go.Shelf
set_option linter.unusedVariables false

set_option maxRecDepth 100000 in
set_option maxHeartbeats 16000000 in
theorem leastWords_any (dv : Value) (N : List (List Int)) (F : List Bool) (cv : Value) (cs : List Int) (w : World) (hP : PowT w) (hd : DfaAt w dv N F) (hcv : IntsAt w cv cs) :
    Calls Tryd.prog 5 #[dv, cv] w fun e w' => e = .returned (.bool true) ∧ Below w.heap.size w w' := by
  have HD : Hid (DfaAt w dv N F ∧ IntsAt w cv cs ∧ PowT w) := ⟨hd, hcv, hP⟩
  obtain ⟨na, nc, fa, fc, rfl, _⟩ := dfa_parts hd
  obtain ⟨ca, cc, rfl, hcc⟩ := hcv.slice
  obtain ⟨n, hn⟩ : ∃ x, x = N.length := ⟨_, rfl⟩
  obtain ⟨m, hm⟩ : ∃ x, x = F.length := ⟨_, rfl⟩
  obtain ⟨L, hL⟩ : ∃ x, x = cs.length := ⟨_, rfl⟩
  have HLL : Hid (L = cs.length ∧ n = N.length) := ⟨hL, hn⟩
  rw [← hL] at hcc
  rw [← hn, ← hm, ← hL] at HD ⊢
  obtain ⟨W0, hW0⟩ : ∃ W, W = w.alloc (.cells #[.slice na n nc, .slice fa m fc] 25) := ⟨_, rfl⟩
  have hB0 : Below w.heap.size w W0 := by rw [hW0]; exact below_alloc _ _
  have hbx : DBox W0 w.heap.size (.slice na n nc) (.slice fa m fc) := by rw [hW0]; exact heap_new' _ _
  have HBX : Hid (DBox W0 w.heap.size (.slice na n nc) (.slice fa m fc)) := hbx
  have HW0 : Hid (W0 = _) := hW0
  have HB0 : Hid (Below w.heap.size w W0) := hB0
  have haw := awake_any13 W0 (hP.below hB0)
  have HFW : Hid (∀ W, Below w.heap.size w W → Calls Tryd.prog 10 #[.agg #[.slice na n nc, .slice fa m fc], .int .i64 25] W fun e w' => ∃ b, e = .returned (.bool b) ∧ Hid (b = true → FewD N F 25) ∧ Below W.heap.size W w') := fun W hb => rfew_any12 N F _ 25 (by decide) W (HD.out.1.below hb)
  obtain ⟨LN, hLN⟩ : ∃ x, x = lesN N F := ⟨_, rfl⟩
  obtain ⟨LF, hLF⟩ : ∃ x, x = lesF N F := ⟨_, rfl⟩
  obtain ⟨E, hE⟩ : ∃ x, x = lesE N F := ⟨_, rfl⟩
  obtain ⟨n2, hn2⟩ : ∃ x, x = LN.length := ⟨_, rfl⟩
  obtain ⟨m2, hm2⟩ : ∃ x, x = LF.length := ⟨_, rfl⟩
  have HLE : Hid (LN = lesN N F ∧ LF = lesF N F ∧ E = lesE N F ∧ n2 = LN.length) := ⟨hLN, hLF, hE, hn2⟩
  have HL1 : Hid (∀ W, Below w.heap.size w W → Calls Tryd.prog 11 #[.agg #[.slice na n nc, .slice fa m fc]] W fun e w' => ∃ ga gc qa qc, e = .returned (.tuple #[.agg #[.slice ga n2 gc, .slice qa m2 qc], .int .i64 E]) ∧ Hid (DfaAt w' (.agg #[.slice ga n2 gc, .slice qa m2 qc]) LN LF) ∧ Below W.heap.size W w') := fun W hb => by
    have := (least_any N F _ W (HD.out.1.below hb) (HD.out.2.2.below hb)).mono (fun _ _ h => h.c)
    rw [← hLN, ← hLF, ← hE] at this
    unfold LesC at this
    rw [← hn2, ← hm2] at this
    exact this
  obtain ⟨V1, hV1⟩ : ∃ x, x = runV N F 0 cs := ⟨_, rfl⟩
  obtain ⟨E1, hE1⟩ : ∃ x, x = runE N F 0 cs := ⟨_, rfl⟩
  obtain ⟨V2, hV2⟩ : ∃ x, x = runV LN LF 0 cs := ⟨_, rfl⟩
  obtain ⟨E2, hE2⟩ : ∃ x, x = runE LN LF 0 cs := ⟨_, rfl⟩
  have HVE : Hid (V1 = runV N F 0 cs ∧ E1 = runE N F 0 cs ∧ V2 = runV LN LF 0 cs ∧ E2 = runE LN LF 0 cs) := ⟨hV1, hE1, hV2, hE2⟩
  have HR1 : Hid (∀ W, Below w.heap.size w W → cs.length ≤ 100000 → Calls Tryd.prog 18 #[.agg #[.slice na n nc, .slice fa m fc], .int .i64 0, .slice ca L cc] W fun e w' => e = .returned (.tuple #[.int .i64 V1, .int .i64 E1]) ∧ Below W.heap.size W w') := fun W hb hl => by
    rw [hV1, hE1]; exact rrun_any12 N F _ 0 cs _ W (HD.out.1.below hb) (HD.out.2.1.below hb) hl
  have HR2 : Hid (∀ W x, Below w.heap.size w W → DfaAt W x LN LF → cs.length ≤ 100000 → Calls Tryd.prog 18 #[x, .int .i64 0, .slice ca L cc] W fun e w' => e = .returned (.tuple #[.int .i64 V2, .int .i64 E2]) ∧ Below W.heap.size W w') := fun W x hb hx hl => by
    rw [hV2, hE2]; exact rrun_any12 LN LF _ 0 cs _ W hx (HD.out.2.1.below hb) hl
  have HAK : Hid (∀ W x, Below w.heap.size w W → DfaAt W x LN LF → rightD N F = true → FewD N F 25 → Calls Tryd.prog 16 #[.agg #[.slice na n nc, .slice fa m fc], x] W fun e w' => e = .returned (.tuple #[.bool true, .int .i64 0]) ∧ Below W.heap.size W w') := fun W x hb hx hr hf => by
    obtain ⟨k1, k2, k3⟩ := les_of hr
    rw [hLN, hLF, k2, k3] at hx
    have := alike_any N F _ (leN N F) (leF N F) _ W (HD.out.1.below hb) hx (Nat.le_trans (Nat.mul_le_mul hf.1 (Nat.le_trans (by rw [(le_len hr).1]; exact (le_len hr).2.2) hf.1)) (by decide))
    rw [(ak_le hr).1, (ak_le hr).2] at this
    exact this
  rw [hW0] at haw
  obtain ⟨R, hR⟩ : ∃ R, R = rightD N F := ⟨_, rfl⟩
  have HR : Hid (R = rightD N F) := hR
  clear hn hm hL hbx hW0 hB0 hP hd hcv hLN hLF hE hn2 hm2 hV1 hE1 hV2 hE2 hR
  go_enter Tryd.func5, Tryd.ntmps5
  go_wp2_with fail
  refine haw.mono ?_
  rw [← HW0.out]
  rintro e w1 ⟨rfl, hB1⟩
  have HB1 : Hid (Below w.heap.size w w1) := below_after HB0.out hB1
  have HX1 : Hid (DBox w1 w.heap.size (.slice na n nc) (.slice fa m fc)) := HBX.out.below hB1
  have c0 := HX1.out.c0
  have c1 := HX1.out.c1
  have hlt := HX1.out.lt
  have hfw := HFW.out w1 HB1.out
  clear haw hB1
  go_wp2_with fail
  refine hfw.mono ?_
  rintro e w2 ⟨ok, rfl, hok, hB2⟩
  have HB2 : Hid (Below w.heap.size w w2) := below_after HB1.out hB2
  have HX2 : Hid (DBox w2 w.heap.size (.slice na n nc) (.slice fa m fc)) := HX1.out.below hB2
  clear hfw hB2 c0 c1 hlt
  cases ok with
  | false =>
    go_wp2
    go_ret
    exact ⟨rfl, HB2.out⟩
  | true =>
  have HFD : Hid (FewD N F 25) := hok.out rfl
  by_cases hl : 100 < L
  case pos =>
    go_wp2
    go_ret
    exact ⟨rfl, HB2.out⟩
  case neg =>
  have HLC : Hid (cs.length ≤ 100000) := by
    have := HLL.out.1
    show _ ≤ _
    omega
  have c0 := HX2.out.c0
  have c1 := HX2.out.c1
  have hlt := HX2.out.lt
  have hl1 := HL1.out w2 HB2.out
  clear hok
  go_wp2_with fail
  refine hl1.mono ?_
  rintro e w3 ⟨ga, gc, qa, qc, rfl, HD3, hB3⟩
  obtain ⟨W3, hW3⟩ : ∃ W, W = w3.alloc (.cells #[.slice ga n2 gc, .slice qa m2 qc] 25) := ⟨_, rfl⟩
  have hB3' : Below w3.heap.size w3 W3 := by rw [hW3]; exact below_alloc _ _
  obtain ⟨b3, hb3⟩ : ∃ x, x = w3.heap.size := ⟨_, rfl⟩
  have HX3 : Hid (DBox W3 b3 (.slice ga n2 gc) (.slice qa m2 qc)) := by rw [hW3, hb3]; exact heap_new' _ _
  have HD4 : Hid (DfaAt W3 (.agg #[.slice ga n2 gc, .slice qa m2 qc]) LN LF) := HD3.out.below hB3'
  have hB23 : Below w2.heap.size w2 W3 := below_after hB3 hB3'
  have HB3 : Hid (Below w.heap.size w W3) := below_after HB2.out hB23
  have HXA : Hid (DBox W3 w.heap.size (.slice na n nc) (.slice fa m fc)) := HX2.out.below hB23
  have HC : Hid (∀ W, Below W3.heap.size W3 W → W.cell? ⟨w.heap.size, 0, none⟩ = some (.slice na n nc) ∧ W.cell? ⟨w.heap.size, 1, none⟩ = some (.slice fa m fc) ∧ w.heap.size < W.heap.size ∧ W.cell? ⟨b3, 0, none⟩ = some (.slice ga n2 gc) ∧ W.cell? ⟨b3, 1, none⟩ = some (.slice qa m2 qc) ∧ b3 < W.heap.size) := fun W hb => ⟨(HXA.out.below hb).c0, (HXA.out.below hb).c1, (HXA.out.below hb).lt, (HX3.out.below hb).c0, (HX3.out.below hb).c1, (HX3.out.below hb).lt⟩
  have HW3 : Hid (W3 = _) := hW3
  have HBE : Hid (b3 = _) := hb3
  clear hl1 hB3 hB3' hB23 hW3 HD3 c0 c1 hlt hb3
  obtain ⟨c0, c1, c2, d0, d1, d2⟩ := HC.out W3 (Below.refl _ _)
  have hr1 := HR1.out W3 HB3.out HLC.out
  go_upto_region 6 with fail
  rw [← HW3.out, ← HBE.out]
  cases R with
  | false =>
    obtain rfl : E = 1 := by rw [HLE.out.2.2.1]; exact les_not HR.out.symm
    go_wp2
    go_ret
    exact ⟨rfl, HB3.out⟩
  | true =>
  have HRT : Hid (rightD N F = true) := HR.out.symm
  obtain rfl : E = 0 := by rw [HLE.out.2.2.1]; exact (les_of HRT.out).1
  go_wp2_with fail
  refine hr1.mono ?_
  rintro e w4 ⟨rfl, hB4⟩
  have HB4 : Hid (Below W3.heap.size W3 w4) := hB4
  clear hr1 hB4 c0 c1 c2 d0 d1 d2
  obtain ⟨c0, c1, c2, d0, d1, d2⟩ := HC.out w4 HB4.out
  have hr2 := HR2.out w4 _ (below_after HB3.out HB4.out) (HD4.out.below HB4.out) HLC.out
  go_wp2_with fail
  refine hr2.mono ?_
  rintro e w5 ⟨rfl, hB5⟩
  have HB5 : Hid (Below W3.heap.size W3 w5) := below_after HB4.out hB5
  clear hr2 hB5 c0 c1 c2 d0 d1 d2
  have hrun := run_le HRT.out cs
  rw [← (les_of HRT.out).2.1, ← (les_of HRT.out).2.2, ← HLE.out.1, ← HLE.out.2.1, ← HVE.out.1, ← HVE.out.2.1, ← HVE.out.2.2.1, ← HVE.out.2.2.2] at hrun
  rcases hrun with ⟨rfl, rfl⟩ | ⟨rfl, rfl, q1, q2, rfl, rfl, hq1, hq2, hqe⟩
  · go_wp2
    go_ret
    exact ⟨rfl, below_after HB3.out HB5.out⟩
  · have HQ : Hid (F[q1] = LF[q2]) := hqe
    obtain ⟨c0, c1, c2, d0, d1, d2⟩ := HC.out w5 HB5.out
    have hak := HAK.out w5 _ (below_after HB3.out HB5.out) (HD4.out.below HB5.out) HRT.out HFD.out
    clear hqe
    go_wp2_with fail
    refine hak.mono ?_
    rintro e w6 ⟨rfl, hB6⟩
    have HB6 : Hid (Below W3.heap.size W3 w6) := below_after HB5.out hB6
    clear hak hB6 c0 c1 c2 d0 d1 d2
    obtain ⟨c0, c1, c2, d0, d1, d2⟩ := HC.out w6 HB6.out
    obtain ⟨g1, o1, rfl, hg1, x1⟩ := dfa_fin (HD.out.1.below (below_after HB3.out HB6.out)) hq1
    obtain ⟨g2, o2, rfl, hg2, x2⟩ := dfa_fin (HD4.out.below HB6.out) hq2
    obtain ⟨B, hB⟩ : ∃ B, B = F[q1] := ⟨_, rfl⟩
    rw [← hB] at x1
    rw [← HQ.out, ← hB] at x2
    have hbb : (B == B) = true := by simp
    have hq1' : q1 < m := by have := dfa_cells HD.out.1; omega
    have hq2' : q2 < m2 := by have := dfa_cells HD4.out; omega
    have hz1 : (0 : Int) ≤ (q1 : Int) := by omega
    have hz2 : (0 : Int) ≤ (q2 : Int) := by omega
    have hz3 : (q1 : Int) < (m : Int) := by omega
    have hz4 : (q2 : Int) < (m2 : Int) := by omega
    have hle : (n2 : Int) ≤ (n : Int) := by
      have h1 := (le_len HRT.out).1
      have h2 := (le_len HRT.out).2.2
      have h3 := HLE.out.2.2.2
      rw [HLE.out.1, (les_of HRT.out).2.1] at h3
      have h4 := HLL.out.2
      omega
    clear HQ hB hq1' hq2' hq1 hq2
    go_wp2
    go_quiet (fail)
    go_wp2
    go_ret
    exact ⟨rfl, below_after HB3.out (by first | exact HB6.out | exact below_drewN' HB6.out _)⟩
end Go.Proofs.YtleafbbcgebmpaaDoor
