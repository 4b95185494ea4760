/-
  scansionlaw13.LeastWitness.
-/
import Derived.Test.YtleafbbcgebmpaaDoorLsLawM
namespace Go.Proofs.YtleafbbcgebmpaaDoor
open Go.RowKit Go.Shelf
set_option linter.unusedVariables false

set_option maxRecDepth 100000 in
set_option maxHeartbeats 16000000 in
theorem leastWitness_any (dv : Value) (N : List (List Int)) (F : List Bool) (dv' : Value) (N' : List (List Int)) (F' : List Bool) (cv : Value) (cs : List Int) (w : World) (hP : PowT w) (hd : DfaAt w dv N F) (hd' : DfaAt w dv' N' F') (hcv : IntsAt w cv cs) :
    Calls Tryd.prog 7 #[dv, dv', cv] w fun e w' => e = .returned (.bool true) ∧ Below w.heap.size w w' := by
  have HD : Hid (DfaAt w dv N F ∧ DfaAt w dv' N' F') := ⟨hd, hd'⟩
  obtain ⟨na, nc, fa, fc, rfl, _⟩ := dfa_parts hd
  obtain ⟨na', nc', fa', fc', rfl, _⟩ := dfa_parts hd'
  obtain ⟨n, hn⟩ : ∃ x, x = N.length := ⟨_, rfl⟩
  obtain ⟨m, hm⟩ : ∃ x, x = F.length := ⟨_, rfl⟩
  obtain ⟨n', hn'⟩ : ∃ x, x = N'.length := ⟨_, rfl⟩
  obtain ⟨m', hm'⟩ : ∃ x, x = F'.length := ⟨_, rfl⟩
  rw [← hn, ← hm, ← hn', ← hm'] at HD
  rw [← hn, ← hm, ← hn', ← hm']
  obtain ⟨W0, hW0⟩ : ∃ W, W = (w.alloc (.cells #[.slice na n nc, .slice fa m fc] 25)).alloc (.cells #[.slice na' n' nc', .slice fa' m' fc'] 25) := ⟨_, rfl⟩
  obtain ⟨h0, h1, hB0, hs0⟩ := alloc2 hW0
  have HC0 : Hid (∀ W, Below W0.heap.size W0 W → W.cell? ⟨w.heap.size, 0, none⟩ = some (.slice na n nc) ∧ W.cell? ⟨w.heap.size, 1, none⟩ = some (.slice fa m fc) ∧ w.heap.size < W.heap.size ∧ W.cell? ⟨w.heap.size + 1, 0, none⟩ = some (.slice na' n' nc') ∧ W.cell? ⟨w.heap.size + 1, 1, none⟩ = some (.slice fa' m' fc') ∧ w.heap.size + 1 < W.heap.size) := fun W hb => by
    have k0 : DBox W0 w.heap.size (.slice na n nc) (.slice fa m fc) := h0
    have k1 : DBox W0 (w.heap.size + 1) (.slice na' n' nc') (.slice fa' m' fc') := h1
    exact ⟨(k0.below hb).c0, (k0.below hb).c1, (k0.below hb).lt, (k1.below hb).c0, (k1.below hb).c1, (k1.below hb).lt⟩
  have HW0 : Hid (W0 = _) := hW0
  have HB0 : Hid (Below w.heap.size w W0) := hB0
  have haw := awake_any13 W0 (hP.below hB0)
  have HF1 : Hid (∀ W, Below w.heap.size w W → Calls Tryd.prog 10 #[.agg #[.slice na n nc, .slice fa m fc], .int .i64 20] W fun e w' => ∃ b, e = .returned (.bool b) ∧ Hid (b = true → FewD N F 20) ∧ Below W.heap.size W w') := fun W hb => rfew_any12 N F _ 20 (by decide) W (HD.out.1.below hb)
  have HF2 : Hid (∀ W, Below w.heap.size w W → Calls Tryd.prog 10 #[.agg #[.slice na' n' nc', .slice fa' m' fc'], .int .i64 20] W fun e w' => ∃ b, e = .returned (.bool b) ∧ Hid (b = true → FewD N' F' 20) ∧ Below W.heap.size W w') := fun W hb => rfew_any12 N' F' _ 20 (by decide) W (HD.out.2.below hb)
  obtain ⟨ca, cc, rfl, hcc⟩ := hcv.slice
  have HCV : Hid (IntsAt w (.slice ca cs.length cc) cs) := hcv
  obtain ⟨Lc, hLc⟩ : ∃ x, x = cs.length := ⟨_, rfl⟩
  have HLC : Hid (Lc = cs.length) := hLc
  rw [← hLc] at HCV hcc ⊢
  obtain ⟨WL, hWL⟩ : ∃ x, x = upI ((apO N F N' F').getD []) := ⟨_, rfl⟩
  obtain ⟨L, hL⟩ : ∃ x, x = WL.length := ⟨_, rfl⟩
  obtain ⟨O, hO⟩ : ∃ x, x = (apO N F N' F').isSome := ⟨_, rfl⟩
  obtain ⟨E, hE⟩ : ∃ x, x = apE N F N' F' := ⟨_, rfl⟩
  have HWL : Hid (L = WL.length) := hL
  have HA1 : Hid (∀ W, Below w.heap.size w W → N.length * N'.length ≤ 400 → Calls Tryd.prog 14 #[.agg #[.slice na n nc, .slice fa m fc], .agg #[.slice na' n' nc', .slice fa' m' fc']] W fun e w' => ∃ a c, e = .returned (.tuple #[.slice a L c, .bool O, .int .i64 E]) ∧ Hid (IntsAt w' (.slice a L c) WL) ∧ Below W.heap.size W w') := fun W hb hbig => by
    rw [hO, hE, hL]
    exact (apart_any N F _ N' F' _ W (HD.out.1.below hb) (HD.out.2.below hb) (by omega)).mono fun e w' h => by
      obtain ⟨v, rfl, h2, h3⟩ := h
      rw [← hWL] at h2
      obtain ⟨a, c, rfl, _⟩ := h2.slice
      exact ⟨a, c, rfl, h2, h3⟩
  have HRA : Hid (∀ W x l, Below w.heap.size w W → IntsAt W x l → l.length ≤ 100000 → Calls Tryd.prog 18 #[.agg #[.slice na n nc, .slice fa m fc], .int .i64 0, x] W fun e w' => e = .returned (.tuple #[.int .i64 (runV N F 0 l), .int .i64 (runE N F 0 l)]) ∧ Below W.heap.size W w') := fun W x l hb hx hl => rrun_any12 N F _ 0 l x W (HD.out.1.below hb) hx hl
  have HRB : Hid (∀ W x l, Below w.heap.size w W → IntsAt W x l → l.length ≤ 100000 → Calls Tryd.prog 18 #[.agg #[.slice na' n' nc', .slice fa' m' fc'], .int .i64 0, x] W fun e w' => e = .returned (.tuple #[.int .i64 (runV N' F' 0 l), .int .i64 (runE N' F' 0 l)]) ∧ Below W.heap.size W w') := fun W x l hb hx hl => rrun_any12 N' F' _ 0 l x W (HD.out.2.below hb) hx hl
  have HWB : Hid (N.length * N'.length ≤ 400 → WL.length ≤ 100000) := fun hbig => by
    rw [hWL]
    exact Nat.le_trans (apO_len13 N F N' F') (Nat.le_trans (Nat.succ_le_succ hbig) (by decide))
  have HOE : Hid ((E = 1 ∧ O = false) ∨ (E = 0 ∧ O = false ∧ bothB N F N' F' = true ∧ apO N F N' F' = none) ∨ (E = 0 ∧ O = true ∧ bothB N F N' F' = true ∧ ∃ u, apO N F N' F' = some u ∧ WL = upI u)) := by
    show _ ∨ _
    cases hb : bothB N F N' F' with
    | false =>
      refine .inl ⟨by rw [hE]; unfold apE; rw [hb]; rfl, by rw [hO]; unfold apO; rw [hb]; rfl⟩
    | true =>
      have e0 : E = 0 := by rw [hE]; unfold apE; rw [hb]; rfl
      cases hq : apO N F N' F' with
      | none => exact .inr (.inl ⟨e0, by rw [hO, hq]; rfl, rfl, rfl⟩)
      | some u => exact .inr (.inr ⟨e0, by rw [hO, hq]; rfl, rfl, u, rfl, by rw [hWL, hq]; rfl⟩)
  rw [hW0] at haw
  clear hn hm hn' hm' h0 h1 hs0 hW0 hB0 hP hd hd' hcv hLc hWL hL hO hE
  go_enter Tryd.func7, Tryd.ntmps7
  go_wp2_with fail
  refine haw.mono ?_
  rw [← HW0.out]
  rintro e w1 ⟨rfl, hB1⟩
  have HB1 : Hid (Below W0.heap.size W0 w1) := hB1
  obtain ⟨c0, c1, c2, d0, d1, d2⟩ := HC0.out w1 HB1.out
  have hfw := HF1.out w1 (below_after HB0.out HB1.out)
  clear haw hB1
  go_wp2_with fail
  refine hfw.mono ?_
  rintro e w2 ⟨ok, rfl, hok, hB2⟩
  have HB2 : Hid (Below W0.heap.size W0 w2) := below_after HB1.out hB2
  clear hfw hB2 c0 c1 c2 d0 d1 d2
  obtain ⟨c0, c1, c2, d0, d1, d2⟩ := HC0.out w2 HB2.out
  have hfw := HF2.out w2 (below_after HB0.out HB2.out)
  go_wp2_with fail
  refine hfw.mono ?_
  rintro e w3 ⟨ok', rfl, hok', hB3⟩
  have HB3 : Hid (Below W0.heap.size W0 w3) := below_after HB2.out hB3
  clear hfw hB3 c0 c1 c2 d0 d1 d2
  cases ok with
  | false =>
    go_wp2
    go_ret
    exact ⟨rfl, below_after HB0.out HB3.out⟩
  | true =>
  cases ok' with
  | false =>
    go_wp2
    go_ret
    exact ⟨rfl, below_after HB0.out HB3.out⟩
  | true =>
  have HBG : Hid (N.length * N'.length ≤ 400) := by
    have h1 := (hok.out rfl).1
    have h2 := (hok'.out rfl).1
    exact Nat.mul_le_mul h1 h2
  clear hok hok'
  by_cases hl : 30 < Lc
  case pos =>
    go_wp2
    go_ret
    exact ⟨rfl, below_after HB0.out HB3.out⟩
  case neg =>
  have HCL : Hid (cs.length ≤ 100000) := by
    have := HLC.out
    show _ ≤ _
    omega
  obtain ⟨c0, c1, c2, d0, d1, d2⟩ := HC0.out w3 HB3.out
  have hfw := HA1.out w3 (below_after HB0.out HB3.out) HBG.out
  go_wp2_with fail
  refine hfw.mono ?_
  rintro e w4 ⟨a4, c4, rfl, HI4, hB4⟩
  have HB4 : Hid (Below W0.heap.size W0 w4) := below_after HB3.out hB4
  clear hfw hB4 c0 c1 c2 d0 d1 d2
  rcases HOE.out with ⟨rfl, rfl⟩ | ⟨rfl, rfl, hbo, hno⟩ | ⟨rfl, rfl, hbo, u, hsu, hwu⟩
  · go_wp2
    go_ret
    exact ⟨rfl, below_after HB0.out HB4.out⟩
  · have HBO : Hid (bothB N F N' F' = true) := hbo
    have HNO : Hid (apO N F N' F' = none) := hno
    clear hbo hno
    obtain ⟨c0, c1, c2, d0, d1, d2⟩ := HC0.out w4 HB4.out
    obtain ⟨V1, hV1⟩ : ∃ x, x = runV N F 0 cs := ⟨_, rfl⟩
    obtain ⟨E1, hE1⟩ : ∃ x, x = runE N F 0 cs := ⟨_, rfl⟩
    obtain ⟨V2, hV2⟩ : ∃ x, x = runV N' F' 0 cs := ⟨_, rfl⟩
    obtain ⟨E2, hE2⟩ : ∃ x, x = runE N' F' 0 cs := ⟨_, rfl⟩
    have HVV : Hid ((V1 = runV N F 0 cs ∧ E1 = runE N F 0 cs) ∧ V2 = runV N' F' 0 cs ∧ E2 = runE N' F' 0 cs) := ⟨⟨hV1, hE1⟩, hV2, hE2⟩
    have hfw := HRA.out w4 _ _ (below_after HB0.out HB4.out) (HCV.out.below (below_after HB0.out HB4.out)) HCL.out
    rw [← hV1, ← hE1] at hfw
    have HR2 : Hid (∀ W, Below w4.heap.size w4 W → Calls Tryd.prog 18 #[.agg #[.slice na' n' nc', .slice fa' m' fc'], .int .i64 0, .slice ca Lc cc] W fun e w' => e = .returned (.tuple #[.int .i64 V2, .int .i64 E2]) ∧ Below W.heap.size W w') := fun W hb => by
      rw [hV2, hE2]
      exact HRB.out W _ _ (below_after (below_after HB0.out HB4.out) hb) ((HCV.out.below (below_after HB0.out HB4.out)).below hb) HCL.out
    clear hV1 hE1 hV2 hE2
    go_wp2_with fail
    refine hfw.mono ?_
    rintro e w5 ⟨rfl, hB5⟩
    have HB5 : Hid (Below w4.heap.size w4 w5) := hB5
    clear hfw hB5 c0 c1 c2 d0 d1 d2
    obtain ⟨c0, c1, c2, d0, d1, d2⟩ := HC0.out w5 (below_after HB4.out HB5.out)
    have hfw := HR2.out w5 HB5.out
    go_wp2_with fail
    refine hfw.mono ?_
    rintro e w6 ⟨rfl, hB6⟩
    have HB6 : Hid (Below w4.heap.size w4 w6) := below_after HB5.out hB6
    clear hfw hB6 c0 c1 c2 d0 d1 d2
    obtain ⟨c0, c1, c2, d0, d1, d2⟩ := HC0.out w6 (below_after HB4.out HB6.out)
    have hrun := wit_x HBO.out cs (.inl HNO.out)
    rw [← HVV.out.1.1, ← HVV.out.1.2, ← HVV.out.2.1, ← HVV.out.2.2] at hrun
    rcases hrun with ⟨rfl, rfl⟩ | ⟨rfl, rfl, q1, q2, rfl, rfl, hq1, hq2, hqe⟩
    · go_wp2
      go_ret
      exact ⟨rfl, below_after (below_after HB0.out HB4.out) HB6.out⟩
    · obtain ⟨g1, o1, rfl, hg1, x1⟩ := dfa_fin (HD.out.1.below (below_after (below_after HB0.out HB4.out) HB6.out)) hq1
      obtain ⟨g2, o2, rfl, hg2, x2⟩ := dfa_fin (HD.out.2.below (below_after (below_after HB0.out HB4.out) HB6.out)) hq2
      obtain ⟨B, hB⟩ : ∃ B, B = F[q1] := ⟨_, rfl⟩
      rw [← hB] at x1
      rw [← hqe, ← hB] at x2
      have hz1 : (0 : Int) ≤ (q1 : Int) := by omega
      have hz2 : (0 : Int) ≤ (q2 : Int) := by omega
      have hz3 : (q1 : Int) < (m : Int) := by have := dfa_cells HD.out.1; omega
      have hz4 : (q2 : Int) < (m' : Int) := by have := dfa_cells HD.out.2; omega
      have hbb : (B != B) = false := by simp
      clear hqe hB hq1 hq2
      go_wp2
      go_quiet (fail)
      go_wp2
      go_ret
      exact ⟨rfl, below_after (below_after HB0.out HB4.out) (by first | exact HB6.out | exact below_drewN' HB6.out _)⟩
  · have HBO : Hid (bothB N F N' F' = true) := hbo
    have HSU : Hid (apO N F N' F' = some u ∧ WL = upI u) := ⟨hsu, hwu⟩
    clear hbo hsu hwu
    by_cases hcl : Lc < L
    · have hcl2 : (Lc : Int) < (L : Int) := by omega
      have HCU : Hid (cs.length < u.length) := by
        have h1 := HWL.out
        have h2 := HLC.out
        rw [HSU.out.2] at h1
        unfold upI at h1
        rw [List.length_map] at h1
        show _ < _
        omega
      have hne : ((Lc : Int) == (L : Int)) = false := by simp; omega
      obtain ⟨c0, c1, c2, d0, d1, d2⟩ := HC0.out w4 HB4.out
      obtain ⟨V1, hV1⟩ : ∃ x, x = runV N F 0 cs := ⟨_, rfl⟩
      obtain ⟨E1, hE1⟩ : ∃ x, x = runE N F 0 cs := ⟨_, rfl⟩
      obtain ⟨V2, hV2⟩ : ∃ x, x = runV N' F' 0 cs := ⟨_, rfl⟩
      obtain ⟨E2, hE2⟩ : ∃ x, x = runE N' F' 0 cs := ⟨_, rfl⟩
      have HVV : Hid ((V1 = runV N F 0 cs ∧ E1 = runE N F 0 cs) ∧ V2 = runV N' F' 0 cs ∧ E2 = runE N' F' 0 cs) := ⟨⟨hV1, hE1⟩, hV2, hE2⟩
      have hfw := HRA.out w4 _ _ (below_after HB0.out HB4.out) (HCV.out.below (below_after HB0.out HB4.out)) HCL.out
      rw [← hV1, ← hE1] at hfw
      have HR2 : Hid (∀ W, Below w4.heap.size w4 W → Calls Tryd.prog 18 #[.agg #[.slice na' n' nc', .slice fa' m' fc'], .int .i64 0, .slice ca Lc cc] W fun e w' => e = .returned (.tuple #[.int .i64 V2, .int .i64 E2]) ∧ Below W.heap.size W w') := fun W hb => by
        rw [hV2, hE2]
        exact HRB.out W _ _ (below_after (below_after HB0.out HB4.out) hb) ((HCV.out.below (below_after HB0.out HB4.out)).below hb) HCL.out
      clear hV1 hE1 hV2 hE2
      go_wp2_with fail
      refine hfw.mono ?_
      rintro e w5 ⟨rfl, hB5⟩
      have HB5 : Hid (Below w4.heap.size w4 w5) := hB5
      clear hfw hB5 c0 c1 c2 d0 d1 d2
      obtain ⟨c0, c1, c2, d0, d1, d2⟩ := HC0.out w5 (below_after HB4.out HB5.out)
      have hfw := HR2.out w5 HB5.out
      go_wp2_with fail
      refine hfw.mono ?_
      rintro e w6 ⟨rfl, hB6⟩
      have HB6 : Hid (Below w4.heap.size w4 w6) := below_after HB5.out hB6
      clear hfw hB6 c0 c1 c2 d0 d1 d2
      obtain ⟨c0, c1, c2, d0, d1, d2⟩ := HC0.out w6 (below_after HB4.out HB6.out)
      have hrun := wit_x HBO.out cs (.inr ⟨u, HSU.out.1, HCU.out⟩)
      rw [← HVV.out.1.1, ← HVV.out.1.2, ← HVV.out.2.1, ← HVV.out.2.2] at hrun
      rcases hrun with ⟨rfl, rfl⟩ | ⟨rfl, rfl, q1, q2, rfl, rfl, hq1, hq2, hqe⟩
      · go_wp2
        go_ret
        exact ⟨rfl, below_after (below_after HB0.out HB4.out) HB6.out⟩
      · obtain ⟨g1, o1, rfl, hg1, x1⟩ := dfa_fin (HD.out.1.below (below_after (below_after HB0.out HB4.out) HB6.out)) hq1
        obtain ⟨g2, o2, rfl, hg2, x2⟩ := dfa_fin (HD.out.2.below (below_after (below_after HB0.out HB4.out) HB6.out)) hq2
        obtain ⟨B, hB⟩ : ∃ B, B = F[q1] := ⟨_, rfl⟩
        rw [← hB] at x1
        rw [← hqe, ← hB] at x2
        have hz1 : (0 : Int) ≤ (q1 : Int) := by omega
        have hz2 : (0 : Int) ≤ (q2 : Int) := by omega
        have hz3 : (q1 : Int) < (m : Int) := by have := dfa_cells HD.out.1; omega
        have hz4 : (q2 : Int) < (m' : Int) := by have := dfa_cells HD.out.2; omega
        have hbb : (B != B) = false := by simp
        clear hqe hB hq1 hq2
        go_wp2
        go_quiet (fail)
        go_wp2
        go_ret
        exact ⟨rfl, below_after (below_after HB0.out HB4.out) (by first | exact HB6.out | exact below_drewN' HB6.out _)⟩
    · have hcl2 : ¬ (Lc : Int) < (L : Int) := by omega
      obtain ⟨c0, c1, c2, d0, d1, d2⟩ := HC0.out w4 HB4.out
      obtain ⟨V1, hV1⟩ : ∃ x, x = runV N F 0 WL := ⟨_, rfl⟩
      obtain ⟨E1, hE1⟩ : ∃ x, x = runE N F 0 WL := ⟨_, rfl⟩
      obtain ⟨V2, hV2⟩ : ∃ x, x = runV N' F' 0 WL := ⟨_, rfl⟩
      obtain ⟨E2, hE2⟩ : ∃ x, x = runE N' F' 0 WL := ⟨_, rfl⟩
      have HVV : Hid ((V1 = runV N F 0 WL ∧ E1 = runE N F 0 WL) ∧ V2 = runV N' F' 0 WL ∧ E2 = runE N' F' 0 WL) := ⟨⟨hV1, hE1⟩, hV2, hE2⟩
      have hfw := HRA.out w4 _ _ (below_after HB0.out HB4.out) HI4.out (HWB.out HBG.out)
      rw [← hV1, ← hE1] at hfw
      have HR2 : Hid (∀ W, Below w4.heap.size w4 W → Calls Tryd.prog 18 #[.agg #[.slice na' n' nc', .slice fa' m' fc'], .int .i64 0, .slice a4 L c4] W fun e w' => e = .returned (.tuple #[.int .i64 V2, .int .i64 E2]) ∧ Below W.heap.size W w') := fun W hb => by
        rw [hV2, hE2]
        exact HRB.out W _ _ (below_after (below_after HB0.out HB4.out) hb) (HI4.out.below hb) (HWB.out HBG.out)
      clear hV1 hE1 hV2 hE2
      go_wp2_with fail
      refine hfw.mono ?_
      rintro e w5 ⟨rfl, hB5⟩
      have HB5 : Hid (Below w4.heap.size w4 w5) := hB5
      clear hfw hB5 c0 c1 c2 d0 d1 d2
      obtain ⟨c0, c1, c2, d0, d1, d2⟩ := HC0.out w5 (below_after HB4.out HB5.out)
      have hfw := HR2.out w5 HB5.out
      go_wp2_with fail
      refine hfw.mono ?_
      rintro e w6 ⟨rfl, hB6⟩
      have HB6 : Hid (Below w4.heap.size w4 w6) := below_after HB5.out hB6
      clear hfw hB6 c0 c1 c2 d0 d1 d2
      obtain ⟨c0, c1, c2, d0, d1, d2⟩ := HC0.out w6 (below_after HB4.out HB6.out)
      have hrun := wit_w HBO.out HSU.out.1
      rw [← HSU.out.2, ← HVV.out.1.1, ← HVV.out.1.2, ← HVV.out.2.1, ← HVV.out.2.2] at hrun
      obtain ⟨rfl, rfl, q1, q2, rfl, rfl, hq1, hq2, hqe⟩ := hrun
      obtain ⟨g1, o1, rfl, hg1, x1⟩ := dfa_fin (HD.out.1.below (below_after (below_after HB0.out HB4.out) HB6.out)) hq1
      obtain ⟨g2, o2, rfl, hg2, x2⟩ := dfa_fin (HD.out.2.below (below_after (below_after HB0.out HB4.out) HB6.out)) hq2
      obtain ⟨B, hB⟩ : ∃ B, B = F[q1] := ⟨_, rfl⟩
      rw [← hB] at x1
      rw [hqe, ← hB] at x2
      have hz1 : (0 : Int) ≤ (q1 : Int) := by omega
      have hz2 : (0 : Int) ≤ (q2 : Int) := by omega
      have hz3 : (q1 : Int) < (m : Int) := by have := dfa_cells HD.out.1; omega
      have hz4 : (q2 : Int) < (m' : Int) := by have := dfa_cells HD.out.2; omega
      have hbb : (B != !B) = true := by cases B <;> rfl
      have hll : ((L : Int) == (L : Int)) = true := by simp
      have HSQ : Hid (∀ k, Calls Tryd.prog 17 #[.slice a4 L c4, .slice a4 L c4] (w6.drewN k) fun e w' => e = .returned (.bool true) ∧ ∃ q, w' = (w6.drewN k).drewN q) := fun k => by
        have hi := HI4.out.below (below_after HB6.out (below_drewN' (Below.refl _ _) k))
        exact sameInts_q WL (HWB.out HBG.out) _ _ _ hi hi
      clear hqe hB hq1 hq2
      go_wp2
      go_quiet (fail)
      go_wp2_with fail
      refine (HSQ.out _).mono ?_
      rintro e w7 ⟨rfl, nd, rfl⟩
      go_wp2
      go_ret
      exact ⟨rfl, below_after (below_after HB0.out HB4.out) (below_drewN' HB6.out _)⟩
end Go.Proofs.YtleafbbcgebmpaaDoor
