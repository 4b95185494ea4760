/-
  scansionlaw13.LeastApart.
-/
import Derived.Test.YtleafbbcgebmpaaDoorGQ
namespace Go.Proofs.YtleafbbcgebmpaaDoor
open Go.RowKit Go.Shelf
set_option linter.unusedVariables false

set_option maxRecDepth 100000 in
set_option maxHeartbeats 16000000 in
theorem leastApart_any (dv : Value) (N : List (List Int)) (F : List Bool) (dv' : Value) (N' : List (List Int)) (F' : List Bool) (w : World) (hP : PowT w) (hd : DfaAt w dv N F) (hd' : DfaAt w dv' N' F') :
    Calls Tryd.prog 4 #[dv, dv'] w fun e w' => e = .returned (.bool true) ∧ Below w.heap.size w w' := by
  have HD : Hid (DfaAt w dv N F ∧ DfaAt w dv' N' F') := ⟨hd, hd'⟩
  obtain ⟨na, nc, fa, fc, rfl, _⟩ := dfa_parts hd
  obtain ⟨na', nc', fa', fc', rfl, _⟩ := dfa_parts hd'
  obtain ⟨n, hn⟩ : ∃ x, x = N.length := ⟨_, rfl⟩
  obtain ⟨m, hm⟩ : ∃ x, x = F.length := ⟨_, rfl⟩
  obtain ⟨n', hn'⟩ : ∃ x, x = N'.length := ⟨_, rfl⟩
  obtain ⟨m', hm'⟩ : ∃ x, x = F'.length := ⟨_, rfl⟩
  rw [← hn, ← hm, ← hn', ← hm'] at HD
  rw [← hn, ← hm, ← hn', ← hm']
  obtain ⟨W0, hW0⟩ : ∃ W, W = (w.alloc (.cells #[.slice na n nc, .slice fa m fc] 25)).alloc (.cells #[.slice na' n' nc', .slice fa' m' fc'] 25) := ⟨_, rfl⟩
  obtain ⟨h0, h1, hB0, hs0⟩ := alloc2 hW0
  have HC0 : Hid (∀ W, Below W0.heap.size W0 W → W.cell? ⟨w.heap.size, 0, none⟩ = some (.slice na n nc) ∧ W.cell? ⟨w.heap.size, 1, none⟩ = some (.slice fa m fc) ∧ w.heap.size < W.heap.size ∧ W.cell? ⟨w.heap.size + 1, 0, none⟩ = some (.slice na' n' nc') ∧ W.cell? ⟨w.heap.size + 1, 1, none⟩ = some (.slice fa' m' fc') ∧ w.heap.size + 1 < W.heap.size) := fun W hb => by
    have k0 : DBox W0 w.heap.size (.slice na n nc) (.slice fa m fc) := h0
    have k1 : DBox W0 (w.heap.size + 1) (.slice na' n' nc') (.slice fa' m' fc') := h1
    exact ⟨(k0.below hb).c0, (k0.below hb).c1, (k0.below hb).lt, (k1.below hb).c0, (k1.below hb).c1, (k1.below hb).lt⟩
  have HW0 : Hid (W0 = _) := hW0
  have HB0 : Hid (Below w.heap.size w W0) := hB0
  have haw := awake_any13 W0 (hP.below hB0)
  have HF1 : Hid (∀ W, Below w.heap.size w W → Calls Tryd.prog 10 #[.agg #[.slice na n nc, .slice fa m fc], .int .i64 20] W fun e w' => ∃ b, e = .returned (.bool b) ∧ Hid (b = true → FewD N F 20) ∧ Below W.heap.size W w') := fun W hb => rfew_any12 N F _ 20 (by decide) W (HD.out.1.below hb)
  have HF2 : Hid (∀ W, Below w.heap.size w W → Calls Tryd.prog 10 #[.agg #[.slice na' n' nc', .slice fa' m' fc'], .int .i64 20] W fun e w' => ∃ b, e = .returned (.bool b) ∧ Hid (b = true → FewD N' F' 20) ∧ Below W.heap.size W w') := fun W hb => rfew_any12 N' F' _ 20 (by decide) W (HD.out.2.below hb)
  obtain ⟨WL, hWL⟩ : ∃ x, x = upI ((apO N F N' F').getD []) := ⟨_, rfl⟩
  obtain ⟨L, hL⟩ : ∃ x, x = WL.length := ⟨_, rfl⟩
  obtain ⟨O, hO⟩ : ∃ x, x = (apO N F N' F').isSome := ⟨_, rfl⟩
  obtain ⟨E, hE⟩ : ∃ x, x = apE N F N' F' := ⟨_, rfl⟩
  obtain ⟨AK, hAK⟩ : ∃ x, x = akB N F N' F' := ⟨_, rfl⟩
  have HOE : Hid ((E = 0 ∧ AK = !O) ∨ (E = 1 ∧ AK = false)) := by
    show _ ∨ _
    rw [hE, hAK, hO]
    unfold apE akB
    cases h : bothB N F N' F' with
    | true => exact .inl ⟨rfl, by simp⟩
    | false => exact .inr ⟨rfl, rfl⟩
  have HA1 : Hid (∀ W, Below w.heap.size w W → N.length * N'.length ≤ 400 → Calls Tryd.prog 14 #[.agg #[.slice na n nc, .slice fa m fc], .agg #[.slice na' n' nc', .slice fa' m' fc']] W fun e w' => ∃ a c, e = .returned (.tuple #[.slice a L c, .bool O, .int .i64 E]) ∧ Hid (IntsAt w' (.slice a L c) WL) ∧ Below W.heap.size W w') := fun W hb hbig => by
    rw [hO, hE, hL]
    exact (apart_any N F _ N' F' _ W (HD.out.1.below hb) (HD.out.2.below hb) (by omega)).mono fun e w' h => by
      obtain ⟨v, rfl, h2, h3⟩ := h
      rw [← hWL] at h2
      obtain ⟨a, c, rfl, _⟩ := h2.slice
      exact ⟨a, c, rfl, h2, h3⟩
  have HA2 : Hid (∀ W, Below w.heap.size w W → N.length * N'.length ≤ 400 → Calls Tryd.prog 15 #[.agg #[.slice na n nc, .slice fa m fc], .agg #[.slice na' n' nc', .slice fa' m' fc']] W fun e w' => ∃ a c, e = .returned (.tuple #[.slice a L c, .bool O, .int .i64 E]) ∧ Hid (IntsAt w' (.slice a L c) WL) ∧ Below W.heap.size W w') := fun W hb hbig => by
    rw [hO, hE, hL]
    exact (rapart_any N F _ N' F' _ W (HD.out.1.below hb) (HD.out.2.below hb) (by omega)).mono fun e w' h => by
      obtain ⟨v, rfl, h2, h3⟩ := h
      rw [← hWL] at h2
      obtain ⟨a, c, rfl, _⟩ := h2.slice
      exact ⟨a, c, rfl, h2, h3⟩
  have HA3 : Hid (∀ W, Below w.heap.size w W → N.length * N'.length ≤ 400 → Calls Tryd.prog 16 #[.agg #[.slice na n nc, .slice fa m fc], .agg #[.slice na' n' nc', .slice fa' m' fc']] W fun e w' => e = .returned (.tuple #[.bool AK, .int .i64 E]) ∧ Below W.heap.size W w') := fun W hb hbig => by
    rw [hAK, hE]
    exact alike_any N F _ N' F' _ W (HD.out.1.below hb) (HD.out.2.below hb) (by omega)
  have HSI : Hid (∀ W x y, N.length * N'.length ≤ 400 → IntsAt W x WL → IntsAt W y WL → Calls Tryd.prog 17 #[x, y] W fun e w' => e = .returned (.bool true) ∧ ∃ nd, w' = W.drewN nd) := fun W x y hbig hx hy => by
    refine sameInts_q WL ?_ x y W hx hy
    rw [hWL]
    exact Nat.le_trans (apO_len13 N F N' F') (Nat.le_trans (Nat.succ_le_succ hbig) (by decide))
  rw [hW0] at haw
  clear hn hm hn' hm' h0 h1 hs0 hW0 hB0 hP hd hd' hWL hL hO hE hAK
  go_enter Tryd.func4, Tryd.ntmps4
  go_wp2_with fail
  refine haw.mono ?_
  rw [← HW0.out]
  rintro e w1 ⟨rfl, hB1⟩
  have HB1 : Hid (Below W0.heap.size W0 w1) := hB1
  obtain ⟨c0, c1, c2, d0, d1, d2⟩ := HC0.out w1 HB1.out
  have hfw := HF1.out w1 (below_after HB0.out HB1.out)
  clear haw hB1
  go_wp2_with fail
  refine hfw.mono ?_
  rintro e w2 ⟨ok, rfl, hok, hB2⟩
  have HB2 : Hid (Below W0.heap.size W0 w2) := below_after HB1.out hB2
  clear hfw hB2 c0 c1 c2 d0 d1 d2
  obtain ⟨c0, c1, c2, d0, d1, d2⟩ := HC0.out w2 HB2.out
  have hfw := HF2.out w2 (below_after HB0.out HB2.out)
  go_wp2_with fail
  refine hfw.mono ?_
  rintro e w3 ⟨ok', rfl, hok', hB3⟩
  have HB3 : Hid (Below W0.heap.size W0 w3) := below_after HB2.out hB3
  clear hfw hB3 c0 c1 c2 d0 d1 d2
  cases ok with
  | false =>
    go_wp2
    go_ret
    exact ⟨rfl, below_after HB0.out HB3.out⟩
  | true =>
  cases ok' with
  | false =>
    go_wp2
    go_ret
    exact ⟨rfl, below_after HB0.out HB3.out⟩
  | true =>
  have HBG : Hid (N.length * N'.length ≤ 400) := by
    have h1 := (hok.out rfl).1
    have h2 := (hok'.out rfl).1
    exact Nat.mul_le_mul h1 h2
  clear hok hok'
  obtain ⟨c0, c1, c2, d0, d1, d2⟩ := HC0.out w3 HB3.out
  have hfw := HA1.out w3 (below_after HB0.out HB3.out) HBG.out
  go_wp2_with fail
  refine hfw.mono ?_
  rintro e w4 ⟨a4, c4, rfl, HI4, hB4⟩
  have HB4 : Hid (Below W0.heap.size W0 w4) := below_after HB3.out hB4
  clear hfw hB4 c0 c1 c2 d0 d1 d2
  obtain ⟨c0, c1, c2, d0, d1, d2⟩ := HC0.out w4 HB4.out
  have hfw := HA2.out w4 (below_after HB0.out HB4.out) HBG.out
  go_wp2_with fail
  refine hfw.mono ?_
  rintro e w5 ⟨a5, c5, rfl, HI5, hB5⟩
  have HI45 : Hid (IntsAt w5 (.slice a4 L c4) WL) := HI4.out.below hB5
  have HB5 : Hid (Below W0.heap.size W0 w5) := below_after HB4.out hB5
  clear hfw hB5 c0 c1 c2 d0 d1 d2 HI4
  obtain ⟨c0, c1, c2, d0, d1, d2⟩ := HC0.out w5 HB5.out
  have hfw := HA3.out w5 (below_after HB0.out HB5.out) HBG.out
  go_wp2_with fail
  refine hfw.mono ?_
  rintro e w6 ⟨rfl, hB6⟩
  have HB6 : Hid (Below W0.heap.size W0 w6) := below_after HB5.out hB6
  have hsi := HSI.out w6 _ _ HBG.out (HI45.out.below hB6) (HI5.out.below hB6)
  clear hfw hB6 c0 c1 c2 d0 d1 d2 HI45 HI5
  go_wp2_with fail
  refine hsi.mono ?_
  rintro e w7 ⟨rfl, nd, rfl⟩
  have HB7 : Hid (Below w.heap.size w (w6.drewN nd)) := below_drewN' (below_after HB0.out HB6.out) _
  clear hsi
  rcases HOE.out with ⟨rfl, rfl⟩ | ⟨rfl, rfl⟩
  · cases O with
    | true =>
      go_wp2
      go_ret
      exact ⟨rfl, HB7.out⟩
    | false =>
      go_wp2
      go_ret
      exact ⟨rfl, HB7.out⟩
  · cases O with
    | true =>
      go_wp2
      go_ret
      exact ⟨rfl, HB7.out⟩
    | false =>
      go_wp2
      go_ret
      exact ⟨rfl, HB7.out⟩
end Go.Proofs.YtleafbbcgebmpaaDoor
