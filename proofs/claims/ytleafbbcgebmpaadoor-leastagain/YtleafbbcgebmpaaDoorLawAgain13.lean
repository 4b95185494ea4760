/-
  scansionlaw13.LeastAgain.
-/
import Derived.Test.YtleafbbcgebmpaaDoorLsLawM
namespace Go.Proofs.YtleafbbcgebmpaaDoor
open Go.RowKit Go.Shelf
set_option linter.unusedVariables false

set_option maxRecDepth 100000 in
set_option maxHeartbeats 16000000 in
theorem leastAgain_any (dv : Value) (N : List (List Int)) (F : List Bool) (dv' : Value) (N' : List (List Int)) (F' : List Bool) (w : World) (hP : PowT w) (hd : DfaAt w dv N F) (hd' : DfaAt w dv' N' F') :
    Calls Tryd.prog 6 #[dv, dv'] w fun e w' => e = .returned (.bool true) ∧ Below w.heap.size w w' := by
  have HD : Hid (DfaAt w dv N F ∧ DfaAt w dv' N' F') := ⟨hd, hd'⟩
  obtain ⟨na, nc, fa, fc, rfl, _⟩ := dfa_parts hd
  obtain ⟨na', nc', fa', fc', rfl, _⟩ := dfa_parts hd'
  obtain ⟨n, hn⟩ : ∃ x, x = N.length := ⟨_, rfl⟩
  obtain ⟨m, hm⟩ : ∃ x, x = F.length := ⟨_, rfl⟩
  obtain ⟨n', hn'⟩ : ∃ x, x = N'.length := ⟨_, rfl⟩
  obtain ⟨m', hm'⟩ : ∃ x, x = F'.length := ⟨_, rfl⟩
  rw [← hn, ← hm, ← hn', ← hm'] at HD
  rw [← hn, ← hm, ← hn', ← hm']
  obtain ⟨W0, hW0⟩ : ∃ W, W = (w.alloc (.cells #[.slice na n nc, .slice fa m fc] 25)).alloc (.cells #[.slice na' n' nc', .slice fa' m' fc'] 25) := ⟨_, rfl⟩
  obtain ⟨h0, h1, hB0, hs0⟩ := alloc2 hW0
  have HC0 : Hid (∀ W, Below W0.heap.size W0 W → W.cell? ⟨w.heap.size, 0, none⟩ = some (.slice na n nc) ∧ W.cell? ⟨w.heap.size, 1, none⟩ = some (.slice fa m fc) ∧ w.heap.size < W.heap.size ∧ W.cell? ⟨w.heap.size + 1, 0, none⟩ = some (.slice na' n' nc') ∧ W.cell? ⟨w.heap.size + 1, 1, none⟩ = some (.slice fa' m' fc') ∧ w.heap.size + 1 < W.heap.size) := fun W hb => by
    have k0 : DBox W0 w.heap.size (.slice na n nc) (.slice fa m fc) := h0
    have k1 : DBox W0 (w.heap.size + 1) (.slice na' n' nc') (.slice fa' m' fc') := h1
    exact ⟨(k0.below hb).c0, (k0.below hb).c1, (k0.below hb).lt, (k1.below hb).c0, (k1.below hb).c1, (k1.below hb).lt⟩
  have HW0 : Hid (W0 = _) := hW0
  have HB0 : Hid (Below w.heap.size w W0) := hB0
  have haw := awake_any13 W0 (hP.below hB0)
  have HF1 : Hid (∀ W, Below w.heap.size w W → Calls Tryd.prog 10 #[.agg #[.slice na n nc, .slice fa m fc], .int .i64 20] W fun e w' => ∃ b, e = .returned (.bool b) ∧ Hid (b = true → FewD N F 20) ∧ Below W.heap.size W w') := fun W hb => rfew_any12 N F _ 20 (by decide) W (HD.out.1.below hb)
  have HF2 : Hid (∀ W, Below w.heap.size w W → Calls Tryd.prog 10 #[.agg #[.slice na' n' nc', .slice fa' m' fc'], .int .i64 20] W fun e w' => ∃ b, e = .returned (.bool b) ∧ Hid (b = true → FewD N' F' 20) ∧ Below W.heap.size W w') := fun W hb => rfew_any12 N' F' _ 20 (by decide) W (HD.out.2.below hb)
  have HPT : Hid (PowT w) := hP
  obtain ⟨LN, hLN⟩ : ∃ x, x = lesN N F := ⟨_, rfl⟩
  obtain ⟨LF, hLF⟩ : ∃ x, x = lesF N F := ⟨_, rfl⟩
  obtain ⟨E, hE⟩ : ∃ x, x = lesE N F := ⟨_, rfl⟩
  obtain ⟨n2, hn2⟩ : ∃ x, x = LN.length := ⟨_, rfl⟩
  obtain ⟨m2, hm2⟩ : ∃ x, x = LF.length := ⟨_, rfl⟩
  obtain ⟨LN', hLN'⟩ : ∃ x, x = lesN N' F' := ⟨_, rfl⟩
  obtain ⟨LF', hLF'⟩ : ∃ x, x = lesF N' F' := ⟨_, rfl⟩
  obtain ⟨E', hE'⟩ : ∃ x, x = lesE N' F' := ⟨_, rfl⟩
  obtain ⟨n2', hn2'⟩ : ∃ x, x = LN'.length := ⟨_, rfl⟩
  obtain ⟨m2', hm2'⟩ : ∃ x, x = LF'.length := ⟨_, rfl⟩
  have HLE : Hid ((LN = lesN N F ∧ LF = lesF N F ∧ E = lesE N F) ∧ (LN' = lesN N' F' ∧ LF' = lesF N' F' ∧ E' = lesE N' F') ∧ n2 = LN.length ∧ m2 = LF.length) := ⟨⟨hLN, hLF, hE⟩, ⟨hLN', hLF', hE'⟩, hn2, hm2⟩
  have HL1 : Hid (∀ W, Below w.heap.size w W → Calls Tryd.prog 11 #[.agg #[.slice na n nc, .slice fa m fc]] W fun e w' => ∃ ga gc qa qc, e = .returned (.tuple #[.agg #[.slice ga n2 gc, .slice qa m2 qc], .int .i64 E]) ∧ Hid (DfaAt w' (.agg #[.slice ga n2 gc, .slice qa m2 qc]) LN LF) ∧ Below W.heap.size W w') := fun W hb => by
    have := (least_any N F _ W (HD.out.1.below hb) (HPT.out.below hb)).mono (fun _ _ h => h.c)
    rw [← hLN, ← hLF, ← hE] at this
    unfold LesC at this
    rw [← hn2, ← hm2] at this
    exact this
  have HL2 : Hid (∀ W, Below w.heap.size w W → Calls Tryd.prog 11 #[.agg #[.slice na' n' nc', .slice fa' m' fc']] W fun e w' => ∃ ga gc qa qc, e = .returned (.tuple #[.agg #[.slice ga n2' gc, .slice qa m2' qc], .int .i64 E']) ∧ Hid (DfaAt w' (.agg #[.slice ga n2' gc, .slice qa m2' qc]) LN' LF') ∧ Below W.heap.size W w') := fun W hb => by
    have := (least_any N' F' _ W (HD.out.2.below hb) (HPT.out.below hb)).mono (fun _ _ h => h.c)
    rw [← hLN', ← hLF', ← hE'] at this
    unfold LesC at this
    rw [← hn2', ← hm2'] at this
    exact this
  have HL3 : Hid (∀ W x, Below w.heap.size w W → rightD N F = true → DfaAt W x LN LF → Calls Tryd.prog 11 #[x] W fun e w' => ∃ ga gc qa qc, e = .returned (.tuple #[.agg #[.slice ga n2 gc, .slice qa m2 qc], .int .i64 0]) ∧ Hid (DfaAt w' (.agg #[.slice ga n2 gc, .slice qa m2 qc]) LN LF) ∧ Below W.heap.size W w') := fun W x hb hr hx => by
    have := (least_any LN LF x W hx (HPT.out.below hb)).mono (fun _ _ h => h.c)
    obtain ⟨k1, k2, k3⟩ := les_of hr
    obtain ⟨j1, j2, j3⟩ := les_of (le_right hr)
    obtain ⟨i1, i2⟩ := le_le hr
    have e1 : lesE LN LF = 0 := by rw [hLN, hLF, k2, k3, j1]
    have e2 : lesN LN LF = LN := by rw [hLN, hLF, k2, k3, j2, i1]
    have e3 : lesF LN LF = LF := by rw [hLN, hLF, k2, k3, j3, i2]
    rw [e1, e2, e3] at this
    unfold LesC at this
    rw [← hn2, ← hm2] at this
    exact this
  obtain ⟨S, hS⟩ : ∃ x, x = decide (LN = LN' ∧ LF = LF') := ⟨_, rfl⟩
  have HSM : Hid (∀ W x y, DfaAt W x LN LF → DfaAt W y LN LF → Calls Tryd.prog 13 #[x, y] W fun e w' => e = .returned (.bool true) ∧ Below W.heap.size W w') := fun W x y hx hy => by
    obtain ⟨k1, k2, k3⟩ := les_small N F
    rw [← hLN, ← hLF] at *
    exact (rsame_any13 LN LF LN LF x y W hx hy k1 k1 k2 k2 k3).mono (fun e w' h => ⟨by rw [h.1, decide_eq_true ⟨rfl, rfl⟩], h.2⟩)
  have HSM2 : Hid (∀ W x y, DfaAt W x LN LF → DfaAt W y LN' LF' → Calls Tryd.prog 13 #[x, y] W fun e w' => e = .returned (.bool S) ∧ Below W.heap.size W w') := fun W x y hx hy => by
    obtain ⟨k1, k2, k3⟩ := les_small N F
    obtain ⟨l1, l2, l3⟩ := les_small N' F'
    rw [← hLN] at k1 k3
    rw [← hLF] at k2
    rw [← hLN'] at l1
    rw [← hLF'] at l2
    rw [hS]
    exact rsame_any13 LN LF LN' LF' x y W hx hy k1 l1 k2 l2 k3
  obtain ⟨H, hH⟩ : ∃ x, x = apE N F N' F' := ⟨_, rfl⟩
  obtain ⟨AK, hAK⟩ : ∃ x, x = akB N F N' F' := ⟨_, rfl⟩
  have HA3 : Hid (∀ W, Below w.heap.size w W → N.length * N'.length ≤ 400 → Calls Tryd.prog 16 #[.agg #[.slice na n nc, .slice fa m fc], .agg #[.slice na' n' nc', .slice fa' m' fc']] W fun e w' => e = .returned (.tuple #[.bool AK, .int .i64 H]) ∧ Below W.heap.size W w') := fun W hb hbig => by
    rw [hAK, hH]
    exact alike_any N F _ N' F' _ W (HD.out.1.below hb) (HD.out.2.below hb) (by omega)
  have HRX : Hid (∀ W x, rightD N F = true → DfaAt W x LN LF → Calls Tryd.prog 19 #[x] W fun e w' => e = .returned (.bool true) ∧ Below W.heap.size W w') := fun W x hr hx => by
    have := rright_any12 LN LF x W hx
    rw [hLN, hLF, (les_of hr).2.1, (les_of hr).2.2, le_right hr] at this
    exact this
  have HAS : Hid (rightD N F = true → rightD N' F' = true → (H = 0 ∧ AK = S) ∨ H = 1) := fun hr hr' => by
    obtain ⟨_, k2, k3⟩ := les_of hr
    obtain ⟨_, j2, j3⟩ := les_of hr'
    rw [hH, hAK, hS, hLN, hLF, hLN', hLF', k2, k3, j2, j3]
    unfold akB apE apO
    by_cases hk : (N.getD 0 []).length = (N'.getD 0 []).length
    · left
      have hb : bothB N F N' F' = true := by unfold bothB; rw [hr, hr', hk]; simp
      rw [hb]
      refine ⟨rfl, ?_⟩
      show (true && !(apD (mch N F) (mch N' F')).isSome) = _
      have := le_iff hr hr' hk
      cases h : apD (mch N F) (mch N' F') with
      | none => exact (decide_eq_true (this.2 h)).symm
      | some u => exact (decide_eq_false (fun q => by have := this.1 q; rw [h] at this; cases this)).symm
    · right
      have hb : bothB N F N' F' = false := by unfold bothB; rw [decide_eq_false hk]; simp
      rw [hb]
      rfl
  obtain ⟨R, hR⟩ : ∃ R, R = rightD N F := ⟨_, rfl⟩
  obtain ⟨R', hR'⟩ : ∃ R, R = rightD N' F' := ⟨_, rfl⟩
  have HR : Hid (R = rightD N F ∧ R' = rightD N' F') := ⟨hR, hR'⟩
  rw [hW0] at haw
  clear hn hm hn' hm' h0 h1 hs0 hW0 hB0 hP hd hd' hLN hLF hE hn2 hm2 hLN' hLF' hE' hn2' hm2' hS hH hAK hR hR'
  go_enter Tryd.func6, Tryd.ntmps6
  go_wp2_with fail
  refine haw.mono ?_
  rw [← HW0.out]
  rintro e w1 ⟨rfl, hB1⟩
  have HB1 : Hid (Below W0.heap.size W0 w1) := hB1
  obtain ⟨c0, c1, c2, d0, d1, d2⟩ := HC0.out w1 HB1.out
  have hfw := HF1.out w1 (below_after HB0.out HB1.out)
  clear haw hB1
  go_wp2_with fail
  refine hfw.mono ?_
  rintro e w2 ⟨ok, rfl, hok, hB2⟩
  have HB2 : Hid (Below W0.heap.size W0 w2) := below_after HB1.out hB2
  clear hfw hB2 c0 c1 c2 d0 d1 d2
  obtain ⟨c0, c1, c2, d0, d1, d2⟩ := HC0.out w2 HB2.out
  have hfw := HF2.out w2 (below_after HB0.out HB2.out)
  go_wp2_with fail
  refine hfw.mono ?_
  rintro e w3 ⟨ok', rfl, hok', hB3⟩
  have HB3 : Hid (Below W0.heap.size W0 w3) := below_after HB2.out hB3
  clear hfw hB3 c0 c1 c2 d0 d1 d2
  cases ok with
  | false =>
    go_wp2
    go_ret
    exact ⟨rfl, below_after HB0.out HB3.out⟩
  | true =>
  cases ok' with
  | false =>
    go_wp2
    go_ret
    exact ⟨rfl, below_after HB0.out HB3.out⟩
  | true =>
  have HBG : Hid (N.length * N'.length ≤ 400) := by
    have h1 := (hok.out rfl).1
    have h2 := (hok'.out rfl).1
    exact Nat.mul_le_mul h1 h2
  clear hok hok'
  obtain ⟨c0, c1, c2, d0, d1, d2⟩ := HC0.out w3 HB3.out
  have hfw := HL1.out w3 (below_after HB0.out HB3.out)
  go_wp2_with fail
  refine hfw.mono ?_
  rintro e w4 ⟨ga, gc, qa, qc, rfl, HD4, hB4⟩
  obtain ⟨W4, hW4⟩ : ∃ W, W = w4.alloc (.cells #[.slice ga n2 gc, .slice qa m2 qc] 25) := ⟨_, rfl⟩
  have hB4' : Below w4.heap.size w4 W4 := by rw [hW4]; exact below_alloc _ _
  obtain ⟨b4, hb4⟩ : ∃ x, x = w4.heap.size := ⟨_, rfl⟩
  have HX4 : Hid (DBox W4 b4 (.slice ga n2 gc) (.slice qa m2 qc)) := by rw [hW4, hb4]; exact heap_new' _ _
  have HE4 : Hid (DfaAt W4 (.agg #[.slice ga n2 gc, .slice qa m2 qc]) LN LF) := HD4.out.below hB4'
  have HB4 : Hid (Below W0.heap.size W0 W4) := below_after HB3.out (below_after hB4 hB4')
  have HW4 : Hid (W4 = _ ∧ b4 = _) := ⟨hW4, hb4⟩
  clear hfw hB4 hB4' hW4 hb4 HD4 c0 c1 c2 d0 d1 d2
  obtain ⟨c0, c1, c2, d0, d1, d2⟩ := HC0.out W4 HB4.out
  have hfw := HL2.out W4 (below_after HB0.out HB4.out)
  go_upto_region 7 with fail
  rw [← HW4.out.1, ← HW4.out.2]
  go_wp2_with fail
  refine hfw.mono ?_
  rintro e w5 ⟨ga', gc', qa', qc', rfl, HD5, hB5⟩
  obtain ⟨W5, hW5⟩ : ∃ W, W = w5.alloc (.cells #[.slice ga' n2' gc', .slice qa' m2' qc'] 25) := ⟨_, rfl⟩
  have hB5' : Below w5.heap.size w5 W5 := by rw [hW5]; exact below_alloc _ _
  obtain ⟨b5, hb5⟩ : ∃ x, x = w5.heap.size := ⟨_, rfl⟩
  have HX5 : Hid (DBox W5 b5 (.slice ga' n2' gc') (.slice qa' m2' qc')) := by rw [hW5, hb5]; exact heap_new' _ _
  have HE5 : Hid (DfaAt W5 (.agg #[.slice ga' n2' gc', .slice qa' m2' qc']) LN' LF') := HD5.out.below hB5'
  have hB45 : Below W4.heap.size W4 W5 := below_after hB5 hB5'
  have HX45 : Hid (DBox W5 b4 (.slice ga n2 gc) (.slice qa m2 qc)) := HX4.out.below hB45
  have HE45 : Hid (DfaAt W5 (.agg #[.slice ga n2 gc, .slice qa m2 qc]) LN LF) := HE4.out.below hB45
  have HB5 : Hid (Below W0.heap.size W0 W5) := below_after HB4.out hB45
  have HW5 : Hid (W5 = _ ∧ b5 = _) := ⟨hW5, hb5⟩
  clear hfw hB5 hB5' hW5 hb5 HD5 hB45 HX4 HE4 c0 c1 c2 d0 d1 d2
  go_upto_region 8 with fail
  rw [← HW5.out.1, ← HW5.out.2]
  cases R with
  | false =>
    obtain rfl : E = 1 := by rw [HLE.out.1.2.2]; exact les_not HR.out.1.symm
    go_wp2
    go_ret
    exact ⟨rfl, below_after HB0.out HB5.out⟩
  | true =>
  have HRT : Hid (rightD N F = true) := HR.out.1.symm
  obtain rfl : E = 0 := by rw [HLE.out.1.2.2]; exact (les_of HRT.out).1
  cases R' with
  | false =>
    obtain rfl : E' = 1 := by rw [HLE.out.2.1.2.2]; exact les_not HR.out.2.symm
    go_wp2
    go_ret
    exact ⟨rfl, below_after HB0.out HB5.out⟩
  | true =>
  have HRT' : Hid (rightD N' F' = true) := HR.out.2.symm
  obtain rfl : E' = 0 := by rw [HLE.out.2.1.2.2]; exact (les_of HRT'.out).1
  have HC5 : Hid (∀ W, Below W5.heap.size W5 W → W.cell? ⟨b4, 0, none⟩ = some (.slice ga n2 gc) ∧ W.cell? ⟨b4, 1, none⟩ = some (.slice qa m2 qc) ∧ b4 < W.heap.size ∧ W.cell? ⟨b5, 0, none⟩ = some (.slice ga' n2' gc') ∧ W.cell? ⟨b5, 1, none⟩ = some (.slice qa' m2' qc') ∧ b5 < W.heap.size) := fun W hb => ⟨(HX45.out.below hb).c0, (HX45.out.below hb).c1, (HX45.out.below hb).lt, (HX5.out.below hb).c0, (HX5.out.below hb).c1, (HX5.out.below hb).lt⟩
  obtain ⟨c0, c1, c2, d0, d1, d2⟩ := HC5.out W5 (Below.refl _ _)
  have hfw := HL3.out W5 _ (below_after HB0.out HB5.out) HRT.out HE45.out
  go_upto_region 10 with fail
  go_wp2_with fail
  refine hfw.mono ?_
  rintro e w6 ⟨gz, zc, qz, xc, rfl, HD6, hB6⟩
  obtain ⟨W6, hW6⟩ : ∃ W, W = w6.alloc (.cells #[.slice gz n2 zc, .slice qz m2 xc] 25) := ⟨_, rfl⟩
  have hB6' : Below w6.heap.size w6 W6 := by rw [hW6]; exact below_alloc _ _
  obtain ⟨b6, hb6⟩ : ∃ x, x = w6.heap.size := ⟨_, rfl⟩
  have HX6 : Hid (DBox W6 b6 (.slice gz n2 zc) (.slice qz m2 xc)) := by rw [hW6, hb6]; exact heap_new' _ _
  have HE6 : Hid (DfaAt W6 (.agg #[.slice gz n2 zc, .slice qz m2 xc]) LN LF) := HD6.out.below hB6'
  have HB6 : Hid (Below W5.heap.size W5 W6) := below_after hB6 hB6'
  have HW6 : Hid (W6 = _ ∧ b6 = _) := ⟨hW6, hb6⟩
  clear hfw hB6 hB6' hW6 hb6 HD6 c0 c1 c2 d0 d1 d2
  obtain ⟨c0, c1, c2, d0, d1, d2⟩ := HC5.out W6 HB6.out
  have e0 := HX6.out.c0
  have e1 := HX6.out.c1
  have e2 := HX6.out.lt
  have hfw := HSM.out W6 _ _ (HE45.out.below HB6.out) HE6.out
  go_upto_region 11 with fail
  rw [← HW6.out.1, ← HW6.out.2]
  go_wp2_with fail
  refine hfw.mono ?_
  rintro e w7 ⟨rfl, hB7⟩
  have HB7 : Hid (Below W5.heap.size W5 w7) := below_after HB6.out hB7
  clear hfw hB7 c0 c1 c2 d0 d1 d2 e0 e1 e2
  have HB07 : Hid (Below W0.heap.size W0 w7) := below_after HB5.out HB7.out
  obtain ⟨c0, c1, c2, d0, d1, d2⟩ := HC0.out w7 HB07.out
  have hfw := HA3.out w7 (below_after HB0.out HB07.out) HBG.out
  go_wp2_with fail
  refine hfw.mono ?_
  rintro e w8 ⟨rfl, hB8⟩
  have HB8 : Hid (Below W5.heap.size W5 w8) := below_after HB7.out hB8
  clear hfw hB8 c0 c1 c2 d0 d1 d2
  obtain ⟨c0, c1, c2, d0, d1, d2⟩ := HC5.out w8 HB8.out
  have hfw := HSM2.out w8 _ _ (HE45.out.below HB8.out) (HE5.out.below HB8.out)
  go_wp2_with fail
  refine hfw.mono ?_
  rintro e w9 ⟨rfl, hB9⟩
  have HB9 : Hid (Below W5.heap.size W5 w9) := below_after HB8.out hB9
  clear hfw hB9 c0 c1 c2 d0 d1 d2
  obtain ⟨c0, c1, c2, d0, d1, d2⟩ := HC5.out w9 HB9.out
  have hfw := HRX.out w9 _ HRT.out (HE45.out.below HB9.out)
  rcases HAS.out HRT.out HRT'.out with ⟨rfl, rfl⟩ | rfl
  · cases AK with
    | true =>
      go_wp2_with fail
      refine hfw.mono ?_
      rintro e w10 ⟨rfl, hB10⟩
      go_wp2
      go_ret
      exact ⟨rfl, below_after (below_after HB0.out HB5.out) (below_after HB9.out hB10)⟩
    | false =>
      go_wp2_with fail
      refine hfw.mono ?_
      rintro e w10 ⟨rfl, hB10⟩
      go_wp2
      go_ret
      exact ⟨rfl, below_after (below_after HB0.out HB5.out) (below_after HB9.out hB10)⟩
  · go_wp2_with fail
    refine hfw.mono ?_
    rintro e w10 ⟨rfl, hB10⟩
    go_wp2
    go_ret
    exact ⟨rfl, below_after (below_after HB0.out HB5.out) (below_after HB9.out hB10)⟩
end Go.Proofs.YtleafbbcgebmpaaDoor
