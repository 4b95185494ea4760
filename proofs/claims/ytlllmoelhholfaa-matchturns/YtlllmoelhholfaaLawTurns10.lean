/-
  scansionlaw10.MatchTurns.
-/
import Derived.Test.YtlllmoelhholfaaMtTurnP
namespace Go.Proofs.Ytlllmoelhholfaa
open Go.RowKit Go.Shelf
set_option linter.unusedVariables false

set_option maxRecDepth 100000 in
set_option maxHeartbeats 16000000 in
theorem matchTurns_any (a : Nd) (za : Value) (wa : Option Addr) (wc : Nat) (ws : List Nat) (w : World) (ha : KdX (fun k => k < w.heap.size) w za a.kids) (hw : WrdAt w.heap.size w (.slice wa ws.length wc) ws) :
    Calls Try.prog 5 #[ndV a za, .slice wa ws.length wc] w fun e w' => e = .returned (.bool true) ∧ Below w.heap.size w w' := by
  obtain ⟨xa, ca, rfl, _⟩ := ha.slice
  obtain ⟨W0, hW0⟩ : ∃ W, W = w.alloc (.cells #[.int .i64 a.k, .int .i64 a.s, .slice xa a.kids.length ca] 24) := ⟨_, rfl⟩
  have hB0 : Below w.heap.size w W0 := by rw [hW0]; exact below_alloc _ _
  have hbA : Box W0 w.heap.size a.k a.s (.slice xa a.kids.length ca) := by rw [hW0]; exact box_new _ _ _ _
  have HA : Hid (KdX (fun k => k < w.heap.size) w (.slice xa a.kids.length ca) a.kids) := ha
  have HW : Hid (WrdAt w.heap.size w (.slice wa ws.length wc) ws) := hw
  have HFA : Hid (∀ W, Below w.heap.size w W → Calls Try.prog 10 #[ndV a (.slice xa a.kids.length ca), .slice wa ws.length wc] W fun e w' => ∃ b, e = .returned (.bool b) ∧ (b = true → Dp 12 a.kids ∧ ws.length ≤ 30) ∧ Below W.heap.size W w') := fun W h => few_any a _ wa ws.length wc W (kdx_below ha h)
  unfold ndV at HFA ⊢
  obtain ⟨ak, hak⟩ : ∃ x, x = a.k := ⟨_, rfl⟩
  obtain ⟨as1, has1⟩ : ∃ x, x = a.s := ⟨_, rfl⟩
  obtain ⟨al, hal⟩ : ∃ x, x = a.kids.length := ⟨_, rfl⟩
  obtain ⟨wl, hwl⟩ : ∃ x, x = ws.length := ⟨_, rfl⟩
  have HNA : Hid (ak = a.k ∧ as1 = a.s ∧ al = a.kids.length) := ⟨hak, has1, hal⟩
  have HWL : Hid (wl = ws.length) := hwl
  rw [← hak, ← has1, ← hal] at HFA hbA hW0 ⊢
  rw [← hal] at HA
  rw [← hwl] at HFA HW ⊢
  have HB0 : Hid (Below w.heap.size w W0) := hB0
  have HBA : Hid (Box W0 w.heap.size ak as1 (.slice xa al ca)) := hbA
  have haw := awake_any W0
  rw [hW0] at haw
  clear hak has1 hal hwl ha hw hB0 hbA
  go_enter Try.func5, Try.ntmps5
  go_wp2_with fail
  refine haw.mono ?_
  rintro e w1 ⟨rfl, hB1⟩
  rw [← hW0] at hB1
  have HB1 : Hid (Below W0.heap.size W0 w1) := hB1
  obtain ⟨a0, a1, a2⟩ : _ ∧ _ ∧ _ := ⟨(HBA.out.below hB1).c0, (HBA.out.below hB1).c1, (HBA.out.below hB1).c2⟩
  have hf1 := HFA.out w1 (below_after HB0.out hB1)
  clear haw hB1 hW0
  go_wp2_with fail
  refine hf1.mono ?_
  rintro e w3 ⟨ok1, rfl, ho1, hB3⟩
  have HB3 : Hid (Below W0.heap.size W0 w3) := below_after HB1.out hB3
  have HO1 : Hid (ok1 = true → Dp 12 a.kids ∧ ws.length ≤ 30) := fun h => (by have := ho1 h; rwa [HWL.out] at this)
  have HBW3 : Hid (Below w.heap.size w w3) := below_after HB0.out HB3.out
  clear hf1 hB3 a0 a1 a2 ho1
  cases ok1 with
  | false =>
    go_wp2
    go_ret
    exact ⟨rfl, HBW3.out⟩
  | true =>
  have HDA : Hid (Dp 12 a.kids) := (HO1.out rfl).1
  have hw30 : wl ≤ 30 := by have := (HO1.out rfl).2; have := HWL.out; omega
  obtain ⟨a0, a1, a2⟩ : _ ∧ _ ∧ _ := ⟨(HBA.out.below HB3.out).c0, (HBA.out.below HB3.out).c1, (HBA.out.below HB3.out).c2⟩
  have hlt1 : w.heap.size < w3.heap.size := (HBA.out.below HB3.out).lt
  clear HO1
  have ht := turn_any 12 (by omega) a _ w3 HDA.out (kdx_below HA.out HBW3.out)
  unfold ndV at ht
  rw [← HNA.out.1, ← HNA.out.2.1] at ht
  go_wp2_with fail
  refine Calls.mono ht ?_
  rintro e w4 ⟨z4, rfl, hkd4, hB4⟩
  rw [← HNA.out.1, ← HNA.out.2.1]
  obtain ⟨ta, tc, rfl, _⟩ := hkd4.slice
  obtain ⟨tl, htl⟩ : ∃ x, x = (turnN a).kids.length := ⟨_, rfl⟩
  rw [← htl] at hkd4 ⊢
  obtain ⟨T, hT⟩ : ∃ T, T = turnN a := ⟨_, rfl⟩
  rw [← hT] at hkd4
  have HT : Hid (T = turnN a ∧ T.k = ak ∧ T.s = as1 ∧ Dp 12 T.kids) := ⟨hT, by rw [hT, turnN_k, HNA.out.1], by rw [hT, turnN_s, HNA.out.2.1], by rw [hT]; exact dp_turn HDA.out⟩
  obtain ⟨W5, hW5⟩ : ∃ W, W = w4.alloc (.cells #[.int .i64 ak, .int .i64 as1, .slice ta tl tc] 24) := ⟨_, rfl⟩
  have HB5 : Hid (Below w4.heap.size w4 W5) := by rw [hW5]; exact below_alloc _ _
  have HB35 : Hid (Below w3.heap.size w3 W5) := below_after hB4 HB5.out
  have HBW5 : Hid (Below w.heap.size w W5) := below_after HBW3.out HB35.out
  have hbT : Box W5 w4.heap.size ak as1 (.slice ta tl tc) := by rw [hW5]; exact box_new _ _ _ _
  have HBT : Hid (Box W5 w4.heap.size ak as1 (.slice ta tl tc)) := hbT
  have HKT : Hid (KdX (fun k => k < w4.heap.size) w4 (.slice ta tl tc) T.kids) := hkd4.to (fun k hk => ⟨rfl, hk.2⟩)
  have HKTW : Hid (∀ W, Below W5.heap.size W5 W → KdX (fun k => k < W.heap.size) W (.slice ta tl tc) T.kids) := fun W h => kdx_below HKT.out (below_after HB5.out h)
  have HKAW : Hid (∀ W, Below W5.heap.size W5 W → KdX (fun k => k < W.heap.size) W (.slice xa al ca) a.kids) := fun W h => kdx_below HA.out (below_after HBW5.out h)
  have HWW : Hid (∀ W, Below W5.heap.size W5 W → WrdAt W.heap.size W (.slice wa wl wc) ws) := fun W h => wrd_below HW.out (below_after HBW5.out h)
  have HKP : Hid (∀ W, Below W5.heap.size W5 W → (W.cell? ⟨w.heap.size, 0, none⟩ = some (.int .i64 ak) ∧ W.cell? ⟨w.heap.size, 1, none⟩ = some (.int .i64 as1) ∧ W.cell? ⟨w.heap.size, 2, none⟩ = some (.slice xa al ca)) ∧ W.cell? ⟨w4.heap.size, 0, none⟩ = some (.int .i64 ak) ∧ W.cell? ⟨w4.heap.size, 1, none⟩ = some (.int .i64 as1) ∧ W.cell? ⟨w4.heap.size, 2, none⟩ = some (.slice ta tl tc)) := fun W h => ⟨⟨(HBA.out.below (below_after HB3.out (below_after HB35.out h))).c0, (HBA.out.below (below_after HB3.out (below_after HB35.out h))).c1, (HBA.out.below (below_after HB3.out (below_after HB35.out h))).c2⟩, (HBT.out.below h).c0, (HBT.out.below h).c1, (HBT.out.below h).c2⟩
  have HKQ : Hid (∀ W, Below W5.heap.size W5 W → W.cell? ⟨w.heap.size, 0, none⟩ = some (.int .i64 ak) ∧ W.cell? ⟨w.heap.size, 1, none⟩ = some (.int .i64 as1) ∧ W.cell? ⟨w.heap.size, 2, none⟩ = some (.slice xa al ca) ∧ W.cell? ⟨w4.heap.size, 0, none⟩ = some (.int .i64 ak) ∧ W.cell? ⟨w4.heap.size, 1, none⟩ = some (.int .i64 as1) ∧ W.cell? ⟨w4.heap.size, 2, none⟩ = some (.slice ta tl tc)) := fun W h => ⟨(HKP.out W h).1.1, (HKP.out W h).1.2.1, (HKP.out W h).1.2.2, (HKP.out W h).2⟩
  have HRT : Hid (∀ W, Below W5.heap.size W5 W → Calls Try.prog 21 #[.agg #[.int .i64 ak, .int .i64 as1, .slice xa al ca]] W fun e w' => ∃ (ra : Option Addr) (rl rc : Nat), e = .returned (.agg #[.int .i64 ak, .int .i64 as1, .slice ra rl rc]) ∧ Hid (KdX (fun k => k < w'.heap.size) w' (.slice ra rl rc) T.kids) ∧ Below W.heap.size W w') := fun W h => by
    have h1 := refTurn_any 12 a _ W HDA.out (HKAW.out W h)
    unfold ndV at h1
    rw [← HNA.out.1, ← HNA.out.2.1] at h1
    refine Calls.mono h1 (fun e w' ⟨z', e1, e2, e3⟩ => ?_)
    obtain ⟨a', c', rfl, _⟩ := e2.slice
    rw [← HNA.out.1, ← HNA.out.2.1] at e1
    rw [← HT.out.1] at e1 e2
    exact ⟨a', _, c', e1, e2.to (fun k hk => ⟨rfl, hk.2⟩), e3⟩
  have HTT : Hid (∀ W, Below W5.heap.size W5 W → Calls Try.prog 19 #[.agg #[.int .i64 ak, .int .i64 as1, .slice ta tl tc]] W fun e w' => ∃ (ra : Option Addr) (rl rc : Nat), e = .returned (.agg #[.int .i64 ak, .int .i64 as1, .slice ra rl rc]) ∧ Hid (KdX (fun k => k < w'.heap.size) w' (.slice ra rl rc) a.kids) ∧ Below W.heap.size W w') := fun W h => by
    have h1 := turn_any 12 (by omega) T _ W HT.out.2.2.2 (HKTW.out W h)
    unfold ndV at h1
    rw [HT.out.2.1, HT.out.2.2.1] at h1
    refine Calls.mono h1 (fun e w' ⟨z', e1, e2, e3⟩ => ?_)
    obtain ⟨a', c', rfl, _⟩ := e2.slice
    rw [HT.out.2.1, HT.out.2.2.1] at e1
    rw [HT.out.1, turn_turn] at e1 e2
    exact ⟨a', _, c', e1, e2.to (fun k hk => ⟨rfl, hk.2⟩), e3⟩
  have HS1 : Hid (∀ W (ra : Option Addr) (rl rc : Nat), Below W5.heap.size W5 W → KdX (fun k => k < W.heap.size) W (.slice ra rl rc) T.kids → Calls Try.prog 20 #[.agg #[.int .i64 ak, .int .i64 as1, .slice ta tl tc], .agg #[.int .i64 ak, .int .i64 as1, .slice ra rl rc]] W fun e w' => e = .returned (.bool true) ∧ Below W.heap.size W w') := fun W ra rl rc h hk => by
    have h1 := sameNode_any 12 T _ _ W HT.out.2.2.2 (HKTW.out W h) hk
    unfold ndV at h1
    rw [HT.out.2.1, HT.out.2.2.1] at h1
    exact h1
  have HS2 : Hid (∀ W (ra : Option Addr) (rl rc : Nat), Below W5.heap.size W5 W → KdX (fun k => k < W.heap.size) W (.slice ra rl rc) a.kids → Calls Try.prog 20 #[.agg #[.int .i64 ak, .int .i64 as1, .slice ra rl rc], .agg #[.int .i64 ak, .int .i64 as1, .slice xa al ca]] W fun e w' => e = .returned (.bool true) ∧ Below W.heap.size W w') := fun W ra rl rc h hk => by
    have h1 := sameNode_any 12 a _ _ W HDA.out hk (HKAW.out W h)
    unfold ndV at h1
    rw [← HNA.out.1, ← HNA.out.2.1] at h1
    exact h1
  obtain ⟨vb, hvb⟩ : ∃ x, x = wholeB ws.reverse a := ⟨_, rfl⟩
  obtain ⟨sb, hsb⟩ : ∃ x, x = prefB ws.reverse a := ⟨_, rfl⟩
  have HBK : Hid (∀ W, Below W5.heap.size W5 W → Calls Try.prog 22 #[.slice wa wl wc] W fun e w' => ∃ (ba : Option Addr) (bc : Nat), e = .returned (.slice ba wl bc) ∧ Hid (WrdAt w'.heap.size w' (.slice ba wl bc) ws.reverse) ∧ Below W.heap.size W w') := fun W h => by
    have hw' := HWW.out W h
    rw [HWL.out] at hw'
    have h1 := back_any ws wa wc W (by have := HWL.out; omega) hw'
    rw [← HWL.out] at h1
    refine Calls.mono h1 (fun e w' ⟨v', e1, e2, e3⟩ => ?_)
    have h2 := wrd_of_row e2 (fun x hx => wrd_64 hw' x (List.mem_reverse.1 hx))
    have h3 := h2
    obtain ⟨ba, bc, rfl, _⟩ := h3
    rw [List.length_reverse, ← HWL.out] at e1 h2
    exact ⟨ba, bc, e1, h2, e3⟩
  have HW1 : Hid (∀ W, Below W5.heap.size W5 W → Calls Try.prog 13 #[.agg #[.int .i64 ak, .int .i64 as1, .slice ta tl tc], .slice wa wl wc] W fun e w' => e = .returned (.bool vb) ∧ Below W.heap.size W w') := fun W h => by
    have hw' := HWW.out W h
    rw [HWL.out] at hw'
    have h1 := whole_any 12 (by omega) ws (by have := HWL.out; omega) T _ wa wc W HT.out.2.2.2 (HKTW.out W h) hw'
    unfold ndV at h1
    rw [HT.out.2.1, HT.out.2.2.1, ← HWL.out, HT.out.1, whole_turn, ← hvb] at h1
    exact h1
  have HF1 : Hid (∀ W, Below W5.heap.size W5 W → Calls Try.prog 15 #[.agg #[.int .i64 ak, .int .i64 as1, .slice ta tl tc], .slice wa wl wc] W fun e w' => e = .returned (.bool sb) ∧ Below W.heap.size W w') := fun W h => by
    have hw' := HWW.out W h
    rw [HWL.out] at hw'
    have h1 := suffix_any 12 (by omega) ws (by have := HWL.out; omega) T _ wa wc W HT.out.2.2.2 (HKTW.out W h) hw'
    unfold ndV at h1
    rw [HT.out.2.1, HT.out.2.2.1, ← HWL.out, HT.out.1, suff_turn, ← hsb] at h1
    exact h1
  have HW2 : Hid (∀ W (ba : Option Addr) (bc : Nat), Below W5.heap.size W5 W → WrdAt W.heap.size W (.slice ba wl bc) ws.reverse → Calls Try.prog 13 #[.agg #[.int .i64 ak, .int .i64 as1, .slice xa al ca], .slice ba wl bc] W fun e w' => e = .returned (.bool vb) ∧ Below W.heap.size W w') := fun W ba bc h hb => by
    have hl : ws.reverse.length = wl := by rw [List.length_reverse, HWL.out]
    have h1 := whole_any 12 (by omega) ws.reverse (by omega) a _ ba bc W HDA.out (HKAW.out W h) (by rw [hl]; exact hb)
    unfold ndV at h1
    rw [← HNA.out.1, ← HNA.out.2.1, hl, ← hvb] at h1
    exact h1
  have HF2 : Hid (∀ W (ba : Option Addr) (bc : Nat), Below W5.heap.size W5 W → WrdAt W.heap.size W (.slice ba wl bc) ws.reverse → Calls Try.prog 17 #[.agg #[.int .i64 ak, .int .i64 as1, .slice xa al ca], .slice ba wl bc] W fun e w' => e = .returned (.bool sb) ∧ Below W.heap.size W w') := fun W ba bc h hb => by
    have hl : ws.reverse.length = wl := by rw [List.length_reverse, HWL.out]
    have h1 := prefix_any 12 (by omega) ws.reverse (by omega) a _ ba bc W HDA.out (HKAW.out W h) (by rw [hl]; exact hb)
    unfold ndV at h1
    rw [← HNA.out.1, ← HNA.out.2.1, hl, ← hsb] at h1
    exact h1
  have hEQ : (vb == vb) = true := by simp
  clear hvb hsb ht hkd4 hB4 hbT hT htl a0 a1 a2
  go_upto_region 6 with fail
  rw [← hW5]
  clear hW5
  obtain ⟨x0, x1, x2, y0, y1, y2⟩ := HKQ.out W5 (Below.refl _ _)
  go_region_held3 (fun W => W.cell? ⟨w.heap.size, 0, none⟩ = some (.int .i64 ak) ∧ W.cell? ⟨w.heap.size, 1, none⟩ = some (.int .i64 as1) ∧ W.cell? ⟨w.heap.size, 2, none⟩ = some (.slice xa al ca) ∧ W.cell? ⟨w4.heap.size, 0, none⟩ = some (.int .i64 ak) ∧ W.cell? ⟨w4.heap.size, 1, none⟩ = some (.int .i64 as1) ∧ W.cell? ⟨w4.heap.size, 2, none⟩ = some (.slice ta tl tc)) (first | exact HKQ.out _ hk7 | exact HKQ.out _ hk6 | go_keep) ((first | (go_at_call 20; refine (HS1.out _ _ _ _ hk6 HR6.out).mono ?_; rintro e w7 ⟨rfl, hq2⟩; have hk7 := below_after hk6 hq2) | (go_at_call 21; refine (HRT.out _ (below_drewN' (Below.refl _ _) 1)).mono ?_; rintro e w6 ⟨ra, rl, rc, rfl, HR6, hq1⟩; have hk6 := below_drew1 hq1)))
  have HK7 : Hid (Below W5.heap.size W5 w7) := hk7
  clear hk6 hk7 hq1 hq2 HR6 x0 x1 x2 y0 y1 y2
  obtain ⟨x0, x1, x2, y0, y1, y2⟩ := HKQ.out w7 HK7.out
  go_upto_region 7 with fail
  go_region_held3 (fun W => W.cell? ⟨w.heap.size, 0, none⟩ = some (.int .i64 ak) ∧ W.cell? ⟨w.heap.size, 1, none⟩ = some (.int .i64 as1) ∧ W.cell? ⟨w.heap.size, 2, none⟩ = some (.slice xa al ca) ∧ W.cell? ⟨w4.heap.size, 0, none⟩ = some (.int .i64 ak) ∧ W.cell? ⟨w4.heap.size, 1, none⟩ = some (.int .i64 as1) ∧ W.cell? ⟨w4.heap.size, 2, none⟩ = some (.slice ta tl tc)) (first | exact HKQ.out _ hk9 | exact HKQ.out _ hk8 | go_keep) ((first | (go_at_call 20; refine (HS2.out _ _ _ _ hk8 HR8.out).mono ?_; rintro e w9 ⟨rfl, hq4⟩; have hk9 := below_after hk8 hq4) | (go_at_call 19; refine (HTT.out _ (below_after HK7.out (below_drewN' (Below.refl _ _) 1))).mono ?_; rintro e w8 ⟨ra, rl, rc, rfl, HR8, hq3⟩; have hk8 := below_after HK7.out (below_drew1 hq3))))
  have HK9 : Hid (Below W5.heap.size W5 w9) := hk9
  clear hk8 hk9 hq3 hq4 HR8 x0 x1 x2 y0 y1 y2
  obtain ⟨x0, x1, x2, y0, y1, y2⟩ := HKQ.out w9 HK9.out
  go_upto_region 8 with fail
  go_region_held3 (fun W => W.cell? ⟨w.heap.size, 0, none⟩ = some (.int .i64 ak) ∧ W.cell? ⟨w.heap.size, 1, none⟩ = some (.int .i64 as1) ∧ W.cell? ⟨w.heap.size, 2, none⟩ = some (.slice xa al ca) ∧ W.cell? ⟨w4.heap.size, 0, none⟩ = some (.int .i64 ak) ∧ W.cell? ⟨w4.heap.size, 1, none⟩ = some (.int .i64 as1) ∧ W.cell? ⟨w4.heap.size, 2, none⟩ = some (.slice ta tl tc)) (first | exact HKQ.out _ hk12 | exact HKQ.out _ hk11 | exact HKQ.out _ hk10 | go_keep) ((first | (go_at_call 13; refine (HW2.out _ _ _ hk11 HBk.out).mono ?_; rintro e w12 ⟨rfl, hq7⟩; have hk12 := below_after hk11 hq7) | (go_at_call 22; refine (HBK.out _ hk10).mono ?_; rintro e w11 ⟨ba, bc, rfl, HBk, hq6⟩; have hk11 := below_after hk10 hq6) | (go_at_call 13; refine (HW1.out _ (below_after HK9.out (below_drewN' (Below.refl _ _) 1))).mono ?_; rintro e w10 ⟨rfl, hq5⟩; have hk10 := below_after HK9.out (below_drew1 hq5))))
  have HK12 : Hid (Below W5.heap.size W5 w12) := hk12
  clear hk10 hk11 hk12 hq5 hq6 hq7 HBk x0 x1 x2 y0 y1 y2
  obtain ⟨x0, x1, x2, y0, y1, y2⟩ := HKQ.out w12 HK12.out
  go_upto_region 9 with fail
  go_region_held3 (fun W => W.cell? ⟨w.heap.size, 0, none⟩ = some (.int .i64 ak) ∧ W.cell? ⟨w.heap.size, 1, none⟩ = some (.int .i64 as1) ∧ W.cell? ⟨w.heap.size, 2, none⟩ = some (.slice xa al ca) ∧ W.cell? ⟨w4.heap.size, 0, none⟩ = some (.int .i64 ak) ∧ W.cell? ⟨w4.heap.size, 1, none⟩ = some (.int .i64 as1) ∧ W.cell? ⟨w4.heap.size, 2, none⟩ = some (.slice ta tl tc)) (first | exact HKQ.out _ hk15 | exact HKQ.out _ hk14 | exact HKQ.out _ hk13 | go_keep) ((first | (go_at_call 17; refine (HF2.out _ _ _ hk14 HBk.out).mono ?_; rintro e w15 ⟨rfl, hq10⟩; have hk15 := below_after hk14 hq10) | (go_at_call 22; refine (HBK.out _ hk13).mono ?_; rintro e w14 ⟨ba, bc, rfl, HBk, hq9⟩; have hk14 := below_after hk13 hq9) | (go_at_call 15; refine (HF1.out _ (below_after HK12.out (below_drewN' (Below.refl _ _) 1))).mono ?_; rintro e w13 ⟨rfl, hq8⟩; have hk13 := below_after HK12.out (below_drew1 hq8))))
  all_goals (go_wp2_with fail; go_ret; exact ⟨by simp, below_after HBW5.out hk15⟩)
end Go.Proofs.Ytlllmoelhholfaa
