/-
  scansionlaw10.MatchAlts.
-/
import Derived.Test.YtlllmoelhholfaaMtLaw
namespace Go.Proofs.Ytlllmoelhholfaa
open Go.RowKit Go.Shelf
set_option linter.unusedVariables false

set_option maxRecDepth 100000 in
set_option maxHeartbeats 16000000 in
theorem matchAlts_any (a b : Nd) (za zb : Value) (wa : Option Addr) (wc : Nat) (ws : List Nat) (w : World) (ha : KdX (fun k => k < w.heap.size) w za a.kids) (hb : KdX (fun k => k < w.heap.size) w zb b.kids) (hw : WrdAt w.heap.size w (.slice wa ws.length wc) ws) :
    Calls Try.prog 8 #[ndV a za, ndV b zb, .slice wa ws.length wc] w fun e w' => e = .returned (.bool true) ∧ Below w.heap.size w w' := by
  obtain ⟨xa, ca, rfl, _⟩ := ha.slice
  obtain ⟨xb, cb, rfl, _⟩ := hb.slice
  obtain ⟨W0, hW0⟩ : ∃ W, W = (w.alloc (.cells #[.int .i64 a.k, .int .i64 a.s, .slice xa a.kids.length ca] 24)).alloc (.cells #[.int .i64 b.k, .int .i64 b.s, .slice xb b.kids.length cb] 24) := ⟨_, rfl⟩
  have hB0 : Below w.heap.size w W0 := by rw [hW0]; exact ((Below.refl _ _).alloc (Nat.le_refl _) _).alloc (by simp) _
  have hbA : Box W0 w.heap.size a.k a.s (.slice xa a.kids.length ca) := by rw [hW0]; exact (box_new _ _ _ _).below (below_alloc _ _)
  have hbB : Box W0 (w.heap.size + 1) b.k b.s (.slice xb b.kids.length cb) := by
    have := box_new (w.alloc (.cells #[.int .i64 a.k, .int .i64 a.s, .slice xa a.kids.length ca] 24)) b.k b.s (.slice xb b.kids.length cb)
    rw [World.size_alloc] at this
    rw [hW0]; exact this
  have HA : Hid (KdX (fun k => k < w.heap.size) w (.slice xa a.kids.length ca) a.kids) := ha
  have HBb : Hid (KdX (fun k => k < w.heap.size) w (.slice xb b.kids.length cb) b.kids) := hb
  have HW : Hid (WrdAt w.heap.size w (.slice wa ws.length wc) ws) := hw
  have HFA : Hid (∀ W, Below w.heap.size w W → Calls Try.prog 10 #[ndV a (.slice xa a.kids.length ca), .slice wa ws.length wc] W fun e w' => ∃ b, e = .returned (.bool b) ∧ (b = true → Dp 12 a.kids ∧ ws.length ≤ 30) ∧ Below W.heap.size W w') := fun W h => few_any a _ wa ws.length wc W (kdx_below ha h)
  have HFB : Hid (∀ W, Below w.heap.size w W → Calls Try.prog 10 #[ndV b (.slice xb b.kids.length cb), .slice wa ws.length wc] W fun e w' => ∃ c, e = .returned (.bool c) ∧ (c = true → Dp 12 b.kids ∧ ws.length ≤ 30) ∧ Below W.heap.size W w') := fun W h => few_any b _ wa ws.length wc W (kdx_below hb h)
  unfold ndV at HFA HFB ⊢
  obtain ⟨ak, hak⟩ : ∃ x, x = a.k := ⟨_, rfl⟩
  obtain ⟨as1, has1⟩ : ∃ x, x = a.s := ⟨_, rfl⟩
  obtain ⟨al, hal⟩ : ∃ x, x = a.kids.length := ⟨_, rfl⟩
  obtain ⟨bk, hbk⟩ : ∃ x, x = b.k := ⟨_, rfl⟩
  obtain ⟨bs1, hbs1⟩ : ∃ x, x = b.s := ⟨_, rfl⟩
  obtain ⟨bl, hbl⟩ : ∃ x, x = b.kids.length := ⟨_, rfl⟩
  obtain ⟨wl, hwl⟩ : ∃ x, x = ws.length := ⟨_, rfl⟩
  have HNA : Hid (ak = a.k ∧ as1 = a.s ∧ al = a.kids.length) := ⟨hak, has1, hal⟩
  have HNB : Hid (bk = b.k ∧ bs1 = b.s ∧ bl = b.kids.length) := ⟨hbk, hbs1, hbl⟩
  have HWL : Hid (wl = ws.length) := hwl
  rw [← hak, ← has1, ← hal] at HFA hbA hW0 ⊢
  rw [← hbk, ← hbs1, ← hbl] at HFB hbB hW0 ⊢
  rw [← hal] at HA
  rw [← hbl] at HBb
  rw [← hwl] at HFA HFB HW ⊢
  have HB0 : Hid (Below w.heap.size w W0) := hB0
  have HBA : Hid (Box W0 w.heap.size ak as1 (.slice xa al ca)) := hbA
  have HBB : Hid (Box W0 (w.heap.size + 1) bk bs1 (.slice xb bl cb)) := hbB
  have haw := awake_any W0
  rw [hW0] at haw
  clear hak has1 hal hbk hbs1 hbl hwl ha hb hw hB0 hbA hbB
  go_enter Try.func8, Try.ntmps8
  go_wp2_with fail
  refine haw.mono ?_
  rintro e w1 ⟨rfl, hB1⟩
  rw [← hW0] at hB1
  have HB1 : Hid (Below W0.heap.size W0 w1) := hB1
  obtain ⟨a0, a1, a2⟩ : _ ∧ _ ∧ _ := ⟨(HBA.out.below hB1).c0, (HBA.out.below hB1).c1, (HBA.out.below hB1).c2⟩
  have hf1 := HFA.out w1 (below_after HB0.out hB1)
  clear haw hB1 hW0
  go_wp2_with fail
  refine hf1.mono ?_
  rintro e w2 ⟨ok1, rfl, ho1, hB2⟩
  have HB2 : Hid (Below W0.heap.size W0 w2) := below_after HB1.out hB2
  have HO1 : Hid (ok1 = true → Dp 12 a.kids ∧ ws.length ≤ 30) := fun h => (by have := ho1 h; rwa [HWL.out] at this)
  clear hf1 hB2 a0 a1 a2 ho1
  obtain ⟨a0, a1, a2⟩ : _ ∧ _ ∧ _ := ⟨(HBB.out.below HB2.out).c0, (HBB.out.below HB2.out).c1, (HBB.out.below HB2.out).c2⟩
  have hf2 := HFB.out w2 (below_after HB0.out HB2.out)
  go_wp2_with fail
  refine hf2.mono ?_
  rintro e w3 ⟨ok2, rfl, ho2, hB3⟩
  have HB3 : Hid (Below W0.heap.size W0 w3) := below_after HB2.out hB3
  have HO2 : Hid (ok2 = true → Dp 12 b.kids ∧ ws.length ≤ 30) := fun h => (by have := ho2 h; rwa [HWL.out] at this)
  have HBW3 : Hid (Below w.heap.size w w3) := below_after HB0.out HB3.out
  clear hf2 hB3 a0 a1 a2 ho2
  cases ok1 with
  | false =>
    go_wp2
    go_ret
    exact ⟨rfl, HBW3.out⟩
  | true =>
  cases ok2 with
  | false =>
    go_wp2
    go_ret
    exact ⟨rfl, HBW3.out⟩
  | true =>
  have HDA : Hid (Dp 12 a.kids) := (HO1.out rfl).1
  have HDB : Hid (Dp 12 b.kids) := (HO2.out rfl).1
  have hw30 : wl ≤ 30 := by have := (HO1.out rfl).2; have := HWL.out; omega
  obtain ⟨a0, a1, a2⟩ : _ ∧ _ ∧ _ := ⟨(HBA.out.below HB3.out).c0, (HBA.out.below HB3.out).c1, (HBA.out.below HB3.out).c2⟩
  obtain ⟨b0, b1, b2⟩ : _ ∧ _ ∧ _ := ⟨(HBB.out.below HB3.out).c0, (HBB.out.below HB3.out).c1, (HBB.out.below HB3.out).c2⟩
  have hlt1 : w.heap.size < w3.heap.size := (HBA.out.below HB3.out).lt
  have hlt2 : w.heap.size + 1 < w3.heap.size := (HBB.out.below HB3.out).lt
  clear HO1 HO2
  go_wp2
  obtain ⟨W4, hW4⟩ : ∃ W, W = (((w3.alloc (.cells #[.int .i64 ak, .int .i64 as1, .slice xa al ca, .int .i64 bk, .int .i64 bs1, .slice xb bl cb] 24)).alloc (.cells #[.int .i64 2, .int .i64 0, .slice (some ⟨w3.heap.size, 0, none⟩) 2 2] 24)).alloc (.cells #[.int .i64 bk, .int .i64 bs1, .slice xb bl cb, .int .i64 ak, .int .i64 as1, .slice xa al ca, .int .i64 bk, .int .i64 bs1, .slice xb bl cb] 24)).alloc (.cells #[.int .i64 2, .int .i64 0, .slice (some ⟨w3.heap.size + 1 + 1, 0, none⟩) 3 3] 24) := ⟨_, rfl⟩
  rw [← hW4]
  obtain ⟨q1, q2, q3, q4, hB4, hs4⟩ := alloc4 hW4
  have hBW4 : Below w.heap.size w W4 := HBW3.out.trans (hB4.mono (by have := HBW3.out.size; omega))
  have hKA := kdx_below HA.out hBW4
  have hKB := kdx_below HBb.out hBW4
  have hWD := wrd_below HW.out hBW4
  have HX : Hid (∀ W, Below W4.heap.size W4 W → Calls Try.prog 13 #[.agg #[.int .i64 2, .int .i64 0, .slice (some ⟨w3.heap.size, 0, none⟩) 2 2], .slice wa wl wc] W fun e w' => e = .returned (.bool (wholeB ws ⟨2, 0, [a, b]⟩)) ∧ Below W.heap.size W w') := fun W h => by
    have := whl_built (d := 12) (k := 2) (s := 0) (l := [(a, .slice xa al ca), (b, .slice xb bl cb)]) (c := 2) (wa := wa) (wc := wc) (ws := ws) (by omega) (by have := HWL.out; omega) (by rw [q1, HNA.out.1, HNA.out.2.1, HNB.out.1, HNB.out.2.1]; rfl) (by simp) (by simp) (by simp; exact ⟨hKA, hKB⟩) (by simp; exact ⟨HDA.out, HDB.out⟩) (by rw [← HWL.out]; exact hWD) h
    rw [← HWL.out] at this
    exact this
  have HY : Hid (∀ W, Below W4.heap.size W4 W → Calls Try.prog 13 #[.agg #[.int .i64 2, .int .i64 0, .slice (some ⟨w3.heap.size + 1 + 1, 0, none⟩) 3 3], .slice wa wl wc] W fun e w' => e = .returned (.bool (wholeB ws ⟨2, 0, [a, b]⟩)) ∧ Below W.heap.size W w') := fun W h => by
    have := whl_built (d := 12) (k := 2) (s := 0) (l := [(b, .slice xb bl cb), (a, .slice xa al ca), (b, .slice xb bl cb)]) (c := 3) (wa := wa) (wc := wc) (ws := ws) (by omega) (by have := HWL.out; omega) (by rw [q3, HNA.out.1, HNA.out.2.1, HNB.out.1, HNB.out.2.1]; rfl) (by simp) (by simp) (by simp; exact ⟨hKB, hKA, hKB⟩) (by simp; exact ⟨HDB.out, HDA.out, HDB.out⟩) (by rw [← HWL.out]; exact hWD) h
    rw [← HWL.out] at this
    rw [alts_same]
    exact this
  obtain ⟨v, hv⟩ : ∃ v, v = wholeB ws ⟨2, 0, [a, b]⟩ := ⟨_, rfl⟩
  rw [← hv] at HX HY
  have HBX : Hid (Box W4 (w3.heap.size + 1) 2 0 (.slice (some ⟨w3.heap.size, 0, none⟩) 2 2)) := q2
  have HBY : Hid (Box W4 (w3.heap.size + 1 + 1 + 1) 2 0 (.slice (some ⟨w3.heap.size + 1 + 1, 0, none⟩) 3 3)) := q4
  have x0 := HBX.out.c0
  have x1 := HBX.out.c1
  have x2 := HBX.out.c2
  have y0 := HBY.out.c0
  have y1 := HBY.out.c1
  have y2 := HBY.out.c2
  have HKP : Hid (∀ W, Below W4.heap.size W4 W → W.cell? ⟨w3.heap.size + 1, 0, none⟩ = some (.int .i64 2) ∧ W.cell? ⟨w3.heap.size + 1, 1, none⟩ = some (.int .i64 0) ∧ W.cell? ⟨w3.heap.size + 1, 2, none⟩ = some (.slice (some ⟨w3.heap.size, 0, none⟩) 2 2) ∧ W.cell? ⟨w3.heap.size + 1 + 1 + 1, 0, none⟩ = some (.int .i64 2) ∧ W.cell? ⟨w3.heap.size + 1 + 1 + 1, 1, none⟩ = some (.int .i64 0) ∧ W.cell? ⟨w3.heap.size + 1 + 1 + 1, 2, none⟩ = some (.slice (some ⟨w3.heap.size + 1 + 1, 0, none⟩) 3 3)) := fun W h => ⟨(HBX.out.below h).c0, (HBX.out.below h).c1, (HBX.out.below h).c2, (HBY.out.below h).c0, (HBY.out.below h).c1, (HBY.out.below h).c2⟩
  have HB4 : Hid (Below w3.heap.size w3 W4) := hB4
  have HBW4 : Hid (Below w.heap.size w W4) := hBW4
  clear hW4 q1 q2 q3 q4 hB4 hBW4 hKA hKB hWD hv a0 a1 a2 b0 b1 b2
  go_region_held3 (fun w' => w'.cell? ⟨w3.heap.size + 1, 0, none⟩ = some (.int .i64 2) ∧ w'.cell? ⟨w3.heap.size + 1, 1, none⟩ = some (.int .i64 0) ∧ w'.cell? ⟨w3.heap.size + 1, 2, none⟩ = some (.slice (some ⟨w3.heap.size, 0, none⟩) 2 2) ∧ w'.cell? ⟨w3.heap.size + 1 + 1 + 1, 0, none⟩ = some (.int .i64 2) ∧ w'.cell? ⟨w3.heap.size + 1 + 1 + 1, 1, none⟩ = some (.int .i64 0) ∧ w'.cell? ⟨w3.heap.size + 1 + 1 + 1, 2, none⟩ = some (.slice (some ⟨w3.heap.size + 1 + 1, 0, none⟩) 3 3)) (first | go_keep | exact HKP.out _ (below_after (below_drew1 hq1) hq2) | exact HKP.out _ (below_drew1 hq1)) ((first | (go_at_call 13; refine (HY.out w5 (below_drew1 hq1)).mono ?_; rintro e w6 ⟨rfl, hq2⟩) | (go_at_call 13; refine (HX.out _ (below_drewN' (Below.refl _ _) 1)).mono ?_; rintro e w5 ⟨rfl, hq1⟩)))
  have HB6 : Hid (Below W4.heap.size W4 w6) := below_after (below_drew1 hq1) hq2
  have HBW6 : Hid (Below w.heap.size w w6) := below_after HBW4.out HB6.out
  have HB06 : Hid (Below W0.heap.size W0 w6) := below_after (below_after HB3.out HB4.out) HB6.out
  clear hq1 hq2 x0 x1 x2 y0 y1 y2 HX HY HKP
  go_wp2
  go_loopw [12] (fun x12 wr => ∃ (j : Nat), j ≤ wl ∧ x12 = .int .i64 (j : Int) ∧ Hid (∀ q, q < j → bitW ws 7 q = false) ∧ wr = w6) (fun x12 _ => wl - (intOf x12).toNat)
  case atStart => exact ⟨0, Nat.zero_le _, rfl, (fun q hq => by omega), rfl⟩
  case round =>
    obtain ⟨j, hj, rfl, HQ, rfl⟩ := hrel
    by_cases hjl : j < wl
    · have hjn : j < ws.length := by rw [← HWL.out]; exact hjl
      obtain ⟨y, hy⟩ : ∃ y, y = ws[j] := ⟨_, rfl⟩
      obtain ⟨gw, ow, rfl, hgw, e0, hy64, hwc⟩ : ∃ ga oa, wa = some ⟨ga, oa, none⟩ ∧ ga < w.heap.size ∧ w.cell? ⟨ga, oa + j, none⟩ = some (.int .u64 (y : Int)) ∧ y < 18446744073709551616 ∧ wl ≤ wc := by
        obtain ⟨a', c', e1, hc, h⟩ := HW.out
        obtain ⟨h0, g, off, e2, h1, h3⟩ := h j hjn
        have e3 : wa = a' ∧ wl = ws.length ∧ wc = c' := by simpa using e1
        exact ⟨g, off, by rw [e3.1]; exact e2, h1, by rw [hy]; exact h3, by rw [hy]; exact h0, by omega⟩
      have e1 : wr.cell? ⟨gw, ow + j, none⟩ = some (.int .u64 (y : Int)) := (HBW6.out.cell (p := ⟨gw, _, none⟩) hgw).trans e0
      have HBT : Hid (bitW ws 7 j = y.testBit 7) := by
        show _ = _
        rw [bitW_at hjn, hy]; rfl
      have HSH : Hid ((bits .and .u64 ((y : Int) / 128) 1 == 1) = y.testBit 7) := by
        have := shr_bit (k := 7) hy64
        rw [show ((2 : Int) ^ 7) = 128 from rfl] at this
        exact this
      have hj0 : (0 : Int) ≤ (j : Int) := by omega
      have hj1 : (j : Int) < (wl : Int) := by omega
      clear e0 hy
      cases hbit : y.testBit 7 with
      | true =>
        have hd : (bits .and .u64 ((y : Int) / 128) 1 == 1) = true := by rw [HSH.out, hbit]
        clear hbit
        go_wp2
        go_ret
        exact ⟨rfl, HBW6.out⟩
      | false =>
        have hd : (bits .and .u64 ((y : Int) / 128) 1 == 1) = false := by rw [HSH.out, hbit]
        have HQ2 : Hid (∀ q, q < j + 1 → bitW ws 7 q = false) := fun q hq => by
          by_cases e : q < j
          · exact HQ.out q e
          · obtain rfl : q = j := by omega
            rw [HBT.out, hbit]
        clear hbit
        go_wp2
        go_roundw
        case rel => exact ⟨j + 1, by omega, by go_num, HQ2, by first | trivial | rfl⟩
        case measure => simp [intOf]; omega
    · obtain rfl : j = wl := by omega
      have HNB7 : Hid (∀ q, bitW ws 7 q = false) := fun q => by
        by_cases e : q < j
        · exact HQ.out q e
        · cases h : bitW ws 7 q with
          | false => rfl
          | true => have := bitW_lt h; have := HWL.out; omega
      obtain ⟨a0, a1, a2⟩ : _ ∧ _ ∧ _ := ⟨(HBA.out.below HB06.out).c0, (HBA.out.below HB06.out).c1, (HBA.out.below HB06.out).c2⟩
      have hlt0 : w.heap.size < wr.heap.size := (HBA.out.below HB06.out).lt
      go_wp2
      obtain ⟨W7, hW7⟩ : ∃ W, W = ((wr.alloc (.cells #[.int .i64 1, .int .i64 7, .slice none 0 0] 24)).alloc (.cells #[.int .i64 ak, .int .i64 as1, .slice xa al ca, .int .i64 1, .int .i64 7, .slice none 0 0] 24)).alloc (.cells #[.int .i64 2, .int .i64 0, .slice (some ⟨wr.heap.size + 1, 0, none⟩) 2 2] 24) := ⟨_, rfl⟩
      rw [← hW7]
      obtain ⟨q1, q2, q3, hB7, hs7⟩ := alloc3 hW7
      have hBW7 : Below w.heap.size w W7 := below_after HBW6.out hB7
      have hKA := kdx_below HA.out hBW7
      have hWD := wrd_below HW.out hBW7
      have HZ : Hid (∀ W, Below W7.heap.size W7 W → Calls Try.prog 13 #[.agg #[.int .i64 2, .int .i64 0, .slice (some ⟨wr.heap.size + 1, 0, none⟩) 2 2], .slice wa j wc] W fun e w' => e = .returned (.bool (wholeB ws a)) ∧ Below W.heap.size W w') := fun W h => by
        have := whl_built (d := 12) (k := 2) (s := 0) (l := [(a, .slice xa al ca), (⟨1, 7, []⟩, .slice none 0 0)]) (c := 2) (wa := wa) (wc := wc) (ws := ws) (by omega) (by have := HWL.out; omega) (by rw [q2, HNA.out.1, HNA.out.2.1]; rfl) (by simp) (by simp) (by simp; exact ⟨hKA, KdX.nil _ _⟩) (by simp; exact ⟨HDA.out, (show Dp 0 [] from rfl).more 12⟩) (by rw [← HWL.out]; exact hWD) h
        unfold WhlC at this
        rw [← HWL.out] at this
        rw [← alts_none a HNB7.out]
        exact this
      have HAA : Hid (∀ W, Below W7.heap.size W7 W → Calls Try.prog 13 #[.agg #[.int .i64 ak, .int .i64 as1, .slice xa al ca], .slice wa j wc] W fun e w' => e = .returned (.bool (wholeB ws a)) ∧ Below W.heap.size W w') := fun W h => by
        have := whl_of (d := 12) (n := a) (wa := wa) (wc := wc) (ws := ws) (by omega) (by have := HWL.out; omega) HDA.out hKA (by rw [← HWL.out]; exact hWD) h
        unfold WhlC ndV at this
        rw [← HWL.out, ← HNA.out.1, ← HNA.out.2.1] at this
        exact this
      have HNN : Hid (∀ W, Below W7.heap.size W7 W → Calls Try.prog 13 #[.agg #[.int .i64 1, .int .i64 7, .slice none 0 0], .slice wa j wc] W fun e w' => e = .returned (.bool false) ∧ Below W.heap.size W w') := fun W h => by
        have := whl_of (d := 0) (n := ⟨1, 7, []⟩) (wa := wa) (wc := wc) (ws := ws) (by omega) (by have := HWL.out; omega) rfl (KdX.nil _ W7) (by rw [← HWL.out]; exact hWD) h
        unfold WhlC ndV at this
        rw [← HWL.out, none_whole HNB7.out] at this
        exact this
      obtain ⟨va, hva⟩ : ∃ v, v = wholeB ws a := ⟨_, rfl⟩
      rw [← hva] at HZ HAA
      have HBZ : Hid (Box W7 (wr.heap.size + 1 + 1) 2 0 (.slice (some ⟨wr.heap.size + 1, 0, none⟩) 2 2)) := q3
      have HBN : Hid (Box W7 wr.heap.size 1 7 (.slice none 0 0)) := q1
      have HBA7 : Hid (Box W7 w.heap.size ak as1 (.slice xa al ca)) := (HBA.out.below HB06.out).below hB7
      have x0 := HBZ.out.c0
      have x1 := HBZ.out.c1
      have x2 := HBZ.out.c2
      have y0 := HBN.out.c0
      have y1 := HBN.out.c1
      have y2 := HBN.out.c2
      have z0 := HBA7.out.c0
      have z1 := HBA7.out.c1
      have z2 := HBA7.out.c2
      have HKP : Hid (∀ W, Below W7.heap.size W7 W → W.cell? ⟨wr.heap.size + 1 + 1, 0, none⟩ = some (.int .i64 2) ∧ W.cell? ⟨wr.heap.size + 1 + 1, 1, none⟩ = some (.int .i64 0) ∧ W.cell? ⟨wr.heap.size + 1 + 1, 2, none⟩ = some (.slice (some ⟨wr.heap.size + 1, 0, none⟩) 2 2) ∧ W.cell? ⟨wr.heap.size, 0, none⟩ = some (.int .i64 1) ∧ W.cell? ⟨wr.heap.size, 1, none⟩ = some (.int .i64 7) ∧ W.cell? ⟨wr.heap.size, 2, none⟩ = some (.slice none 0 0) ∧ W.cell? ⟨w.heap.size, 0, none⟩ = some (.int .i64 ak) ∧ W.cell? ⟨w.heap.size, 1, none⟩ = some (.int .i64 as1) ∧ W.cell? ⟨w.heap.size, 2, none⟩ = some (.slice xa al ca)) := fun W h => ⟨(HBZ.out.below h).c0, (HBZ.out.below h).c1, (HBZ.out.below h).c2, (HBN.out.below h).c0, (HBN.out.below h).c1, (HBN.out.below h).c2, (HBA7.out.below h).c0, (HBA7.out.below h).c1, (HBA7.out.below h).c2⟩
      have HBW7 : Hid (Below w.heap.size w W7) := hBW7
      clear hW7 q1 q2 q3 hB7 hBW7 hKA hWD hva a0 a1 a2
      go_region_held3 (fun W => W.cell? ⟨wr.heap.size + 1 + 1, 0, none⟩ = some (.int .i64 2) ∧ W.cell? ⟨wr.heap.size + 1 + 1, 1, none⟩ = some (.int .i64 0) ∧ W.cell? ⟨wr.heap.size + 1 + 1, 2, none⟩ = some (.slice (some ⟨wr.heap.size + 1, 0, none⟩) 2 2) ∧ W.cell? ⟨wr.heap.size, 0, none⟩ = some (.int .i64 1) ∧ W.cell? ⟨wr.heap.size, 1, none⟩ = some (.int .i64 7) ∧ W.cell? ⟨wr.heap.size, 2, none⟩ = some (.slice none 0 0) ∧ W.cell? ⟨w.heap.size, 0, none⟩ = some (.int .i64 ak) ∧ W.cell? ⟨w.heap.size, 1, none⟩ = some (.int .i64 as1) ∧ W.cell? ⟨w.heap.size, 2, none⟩ = some (.slice xa al ca)) (first | go_keep | exact HKP.out _ (below_after (below_after (below_drew1 hq1) hq2) hq3) | exact HKP.out _ (below_after (below_drew1 hq1) hq2) | exact HKP.out _ (below_drew1 hq1)) ((first | (go_at_call 13; refine (HNN.out w9 (below_after (below_drew1 hq1) hq2)).mono ?_; rintro e w10 ⟨rfl, hq3⟩) | (go_at_call 13; refine (HAA.out w8 (below_drew1 hq1)).mono ?_; rintro e w9 ⟨rfl, hq2⟩) | (go_at_call 13; refine (HZ.out _ (below_drewN' (Below.refl _ _) 1)).mono ?_; rintro e w8 ⟨rfl, hq1⟩)))
      have HFIN : Hid (Below w.heap.size w w10) := below_after HBW7.out (below_after (below_after (below_drew1 hq1) hq2) hq3)
      clear hq1 hq2 hq3 x0 x1 x2 y0 y1 y2 z0 z1 z2
      go_wp2
      go_ret
      exact ⟨by first | rfl | simp, HFIN.out⟩
end Go.Proofs.Ytlllmoelhholfaa
