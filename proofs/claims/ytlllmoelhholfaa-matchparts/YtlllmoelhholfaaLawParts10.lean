/-
  scansionlaw10.MatchParts.
-/
import Derived.Test.YtlllmoelhholfaaMtLaw
namespace Go.Proofs.Ytlllmoelhholfaa
open Go.RowKit Go.Shelf
set_option linter.unusedVariables false

set_option maxRecDepth 100000 in
set_option maxHeartbeats 16000000 in
theorem matchParts_any (a b : Nd) (za zb : Value) (wa : Option Addr) (wc : Nat) (ws : List Nat) (w : World) (ha : KdX (fun k => k < w.heap.size) w za a.kids) (hb : KdX (fun k => k < w.heap.size) w zb b.kids) (hw : WrdAt w.heap.size w (.slice wa ws.length wc) ws) (hnil : wa = none → wc = 0) :
    Calls Try.prog 7 #[ndV a za, ndV b zb, .slice wa ws.length wc] w fun e w' => e = .returned (.bool true) ∧ Below w.heap.size w w' := by
  obtain ⟨xa, ca, rfl, _⟩ := ha.slice
  obtain ⟨xb, cb, rfl, _⟩ := hb.slice
  obtain ⟨W0, hW0⟩ : ∃ W, W = (w.alloc (.cells #[.int .i64 a.k, .int .i64 a.s, .slice xa a.kids.length ca] 24)).alloc (.cells #[.int .i64 b.k, .int .i64 b.s, .slice xb b.kids.length cb] 24) := ⟨_, rfl⟩
  have hB0 : Below w.heap.size w W0 := by rw [hW0]; exact ((Below.refl _ _).alloc (Nat.le_refl _) _).alloc (by simp) _
  have hbA : Box W0 w.heap.size a.k a.s (.slice xa a.kids.length ca) := by rw [hW0]; exact (box_new _ _ _ _).below (below_alloc _ _)
  have hbB : Box W0 (w.heap.size + 1) b.k b.s (.slice xb b.kids.length cb) := by
    have := box_new (w.alloc (.cells #[.int .i64 a.k, .int .i64 a.s, .slice xa a.kids.length ca] 24)) b.k b.s (.slice xb b.kids.length cb)
    rw [World.size_alloc] at this
    rw [hW0]; exact this
  have HA : Hid (KdX (fun k => k < w.heap.size) w (.slice xa a.kids.length ca) a.kids) := ha
  have HBb : Hid (KdX (fun k => k < w.heap.size) w (.slice xb b.kids.length cb) b.kids) := hb
  have HW : Hid (WrdAt w.heap.size w (.slice wa ws.length wc) ws) := hw
  have HFA : Hid (∀ W, Below w.heap.size w W → Calls Try.prog 10 #[ndV a (.slice xa a.kids.length ca), .slice wa ws.length wc] W fun e w' => ∃ b, e = .returned (.bool b) ∧ (b = true → Dp 12 a.kids ∧ ws.length ≤ 30) ∧ Below W.heap.size W w') := fun W h => few_any a _ wa ws.length wc W (kdx_below ha h)
  have HFB : Hid (∀ W, Below w.heap.size w W → Calls Try.prog 10 #[ndV b (.slice xb b.kids.length cb), .slice wa ws.length wc] W fun e w' => ∃ c, e = .returned (.bool c) ∧ (c = true → Dp 12 b.kids ∧ ws.length ≤ 30) ∧ Below W.heap.size W w') := fun W h => few_any b _ wa ws.length wc W (kdx_below hb h)
  unfold ndV at HFA HFB ⊢
  obtain ⟨ak, hak⟩ : ∃ x, x = a.k := ⟨_, rfl⟩
  obtain ⟨as1, has1⟩ : ∃ x, x = a.s := ⟨_, rfl⟩
  obtain ⟨al, hal⟩ : ∃ x, x = a.kids.length := ⟨_, rfl⟩
  obtain ⟨bk, hbk⟩ : ∃ x, x = b.k := ⟨_, rfl⟩
  obtain ⟨bs1, hbs1⟩ : ∃ x, x = b.s := ⟨_, rfl⟩
  obtain ⟨bl, hbl⟩ : ∃ x, x = b.kids.length := ⟨_, rfl⟩
  obtain ⟨wl, hwl⟩ : ∃ x, x = ws.length := ⟨_, rfl⟩
  have HNA : Hid (ak = a.k ∧ as1 = a.s ∧ al = a.kids.length) := ⟨hak, has1, hal⟩
  have HNB : Hid (bk = b.k ∧ bs1 = b.s ∧ bl = b.kids.length) := ⟨hbk, hbs1, hbl⟩
  have HWL : Hid (wl = ws.length) := hwl
  rw [← hak, ← has1, ← hal] at HFA hbA hW0 ⊢
  rw [← hbk, ← hbs1, ← hbl] at HFB hbB hW0 ⊢
  rw [← hal] at HA
  rw [← hbl] at HBb
  rw [← hwl] at HFA HFB HW ⊢
  have HB0 : Hid (Below w.heap.size w W0) := hB0
  have HBA : Hid (Box W0 w.heap.size ak as1 (.slice xa al ca)) := hbA
  have HBB : Hid (Box W0 (w.heap.size + 1) bk bs1 (.slice xb bl cb)) := hbB
  have haw := awake_any W0
  rw [hW0] at haw
  clear hak has1 hal hbk hbs1 hbl hwl ha hb hw hB0 hbA hbB
  go_enter Try.func7, Try.ntmps7
  go_wp2_with fail
  refine haw.mono ?_
  rintro e w1 ⟨rfl, hB1⟩
  rw [← hW0] at hB1
  have HB1 : Hid (Below W0.heap.size W0 w1) := hB1
  obtain ⟨a0, a1, a2⟩ : _ ∧ _ ∧ _ := ⟨(HBA.out.below hB1).c0, (HBA.out.below hB1).c1, (HBA.out.below hB1).c2⟩
  have hf1 := HFA.out w1 (below_after HB0.out hB1)
  clear haw hB1 hW0
  go_wp2_with fail
  refine hf1.mono ?_
  rintro e w2 ⟨ok1, rfl, ho1, hB2⟩
  have HB2 : Hid (Below W0.heap.size W0 w2) := below_after HB1.out hB2
  have HO1 : Hid (ok1 = true → Dp 12 a.kids ∧ ws.length ≤ 30) := fun h => (by have := ho1 h; rwa [HWL.out] at this)
  clear hf1 hB2 a0 a1 a2 ho1
  obtain ⟨a0, a1, a2⟩ : _ ∧ _ ∧ _ := ⟨(HBB.out.below HB2.out).c0, (HBB.out.below HB2.out).c1, (HBB.out.below HB2.out).c2⟩
  have hf2 := HFB.out w2 (below_after HB0.out HB2.out)
  go_wp2_with fail
  refine hf2.mono ?_
  rintro e w3 ⟨ok2, rfl, ho2, hB3⟩
  have HB3 : Hid (Below W0.heap.size W0 w3) := below_after HB2.out hB3
  have HO2 : Hid (ok2 = true → Dp 12 b.kids ∧ ws.length ≤ 30) := fun h => (by have := ho2 h; rwa [HWL.out] at this)
  have HBW3 : Hid (Below w.heap.size w w3) := below_after HB0.out HB3.out
  clear hf2 hB3 a0 a1 a2 ho2
  cases ok1 with
  | false =>
    go_wp2
    go_ret
    exact ⟨rfl, HBW3.out⟩
  | true =>
  cases ok2 with
  | false =>
    go_wp2
    go_ret
    exact ⟨rfl, HBW3.out⟩
  | true =>
  have HDA : Hid (Dp 12 a.kids) := (HO1.out rfl).1
  have HDB : Hid (Dp 12 b.kids) := (HO2.out rfl).1
  have hw30 : wl ≤ 30 := by have := (HO1.out rfl).2; have := HWL.out; omega
  obtain ⟨a0, a1, a2⟩ : _ ∧ _ ∧ _ := ⟨(HBA.out.below HB3.out).c0, (HBA.out.below HB3.out).c1, (HBA.out.below HB3.out).c2⟩
  obtain ⟨b0, b1, b2⟩ : _ ∧ _ ∧ _ := ⟨(HBB.out.below HB3.out).c0, (HBB.out.below HB3.out).c1, (HBB.out.below HB3.out).c2⟩
  have hlt1 : w.heap.size < w3.heap.size := (HBA.out.below HB3.out).lt
  have hlt2 : w.heap.size + 1 < w3.heap.size := (HBB.out.below HB3.out).lt
  clear HO1 HO2
  have HBW0 : Hid (Below w.heap.size w W0) := HB0.out
  have HSA : Hid (∀ W i, Below w.heap.size w W → i ≤ wl → Calls Try.prog 13 #[.agg #[.int .i64 ak, .int .i64 as1, .slice xa al ca], .slice wa i wc] W fun e w' => e = .returned (.bool (wholeB (ws.take i) a)) ∧ Below W.heap.size W w') := fun W i h hi => by
    have hl : (ws.take i).length = i := by rw [List.length_take]; have := HWL.out; omega
    have := whl_of (d := 12) (n := a) (wa := wa) (wc := wc) (ws := ws.take i) (w := w) (by omega) (by omega) HDA.out HA.out (by rw [hl]; exact wrd_take HW.out HWL.out hi) h
    unfold WhlC ndV at this
    rw [hl, ← HNA.out.1, ← HNA.out.2.1] at this
    exact this
  go_wp2
  go_loopw [10, 11] (fun x10 x11 wr => ∃ (i : Nat) (v : Bool), i ≤ wl + 1 ∧ x11 = .int .i64 (i : Int) ∧ x10 = .bool v ∧ Hid (AnyQ ws a b v i) ∧ Hid (Below W0.heap.size W0 wr)) (fun _ x11 _ => wl + 1 - (intOf x11).toNat)
  case atStart => exact ⟨0, false, Nat.zero_le _, rfl, rfl, anyQ_zero ws a b, HB3⟩
  case round =>
    obtain ⟨i, v, hi, rfl, rfl, HV, HBr⟩ := hrel
    have HBWr : Hid (Below w.heap.size w wr) := below_after HB0.out HBr.out
    by_cases hil : i ≤ wl
    · have hil' : decide ((i : Int) ≤ (wl : Int)) = true := by simp; omega
      have z0 := (HBA.out.below HBr.out).c0
      have z1 := (HBA.out.below HBr.out).c1
      have z2 := (HBA.out.below HBr.out).c2
      have HKA : Hid (∀ W, Below wr.heap.size wr W → W.cell? ⟨w.heap.size, 0, none⟩ = some (.int .i64 ak) ∧ W.cell? ⟨w.heap.size, 1, none⟩ = some (.int .i64 as1) ∧ W.cell? ⟨w.heap.size, 2, none⟩ = some (.slice xa al ca)) := fun W h => ⟨((HBA.out.below HBr.out).below h).c0, ((HBA.out.below HBr.out).below h).c1, ((HBA.out.below HBr.out).below h).c2⟩
      have hi0 : (0 : Int) ≤ (i : Int) := by omega
      have hwlc : wl ≤ wc := by
        obtain ⟨a', c', e1, hc, _⟩ := HW.out
        have e3 : wa = a' ∧ wl = ws.length ∧ wc = c' := by simpa using e1
        omega
      have hi1 : (i : Int) ≤ (wc : Int) := by omega
      have hi2 : (i : Int) ≤ (wl : Int) := by omega
      have HSB : Hid (∀ W, Below w.heap.size w W → Calls Try.prog 13 #[.agg #[.int .i64 bk, .int .i64 bs1, .slice xb bl cb], .slice (dropA wa wc i) (wl - i) (wc - i)] W fun e w' => e = .returned (.bool (wholeB (ws.drop i) b)) ∧ Below W.heap.size W w') := fun W h => by
        have hl : (ws.drop i).length = wl - i := by rw [List.length_drop]; have := HWL.out; omega
        have := whl_of (d := 12) (n := b) (wa := dropA wa wc i) (wc := wc - i) (ws := ws.drop i) (w := w) (by omega) (by omega) HDB.out HBb.out (by rw [hl]; exact wrd_drop HW.out HWL.out hil) h
        unfold WhlC ndV at this
        rw [hl, ← HNB.out.1, ← HNB.out.2.1] at this
        exact this
      have HKB : Hid (∀ W, Below wr.heap.size wr W → W.cell? ⟨w.heap.size + 1, 0, none⟩ = some (.int .i64 bk) ∧ W.cell? ⟨w.heap.size + 1, 1, none⟩ = some (.int .i64 bs1) ∧ W.cell? ⟨w.heap.size + 1, 2, none⟩ = some (.slice xb bl cb)) := fun W h => ⟨((HBB.out.below HBr.out).below h).c0, ((HBB.out.below HBr.out).below h).c1, ((HBB.out.below HBr.out).below h).c2⟩
      obtain ⟨x, hx⟩ : ∃ x, x = wholeB (ws.take i) a := ⟨_, rfl⟩
      have HX : Hid (x = wholeB (ws.take i) a) := hx
      have HSA1 : Hid (∀ W, Below w.heap.size w W → Calls Try.prog 13 #[.agg #[.int .i64 ak, .int .i64 as1, .slice xa al ca], .slice wa i wc] W fun e w' => e = .returned (.bool x) ∧ Below W.heap.size W w') := fun W h => by rw [hx]; exact HSA.out W i h hil
      clear hx
      go_wp2
      go_region_held3 (fun W => W.cell? ⟨w.heap.size, 0, none⟩ = some (.int .i64 ak) ∧ W.cell? ⟨w.heap.size, 1, none⟩ = some (.int .i64 as1) ∧ W.cell? ⟨w.heap.size, 2, none⟩ = some (.slice xa al ca)) (first | go_keep | exact HKA.out _ (below_drew1 hq1)) ((go_at_call 13; refine (HSA1.out _ (below_after HBWr.out (below_drewN' (Below.refl _ _) 1))).mono ?_; rintro e w4 ⟨rfl, hq1⟩))
      have HB4 : Hid (Below wr.heap.size wr w4) := below_drew1 hq1
      clear hq1 z0 z1 z2
      cases v with
      | true =>
          have HV2 : Hid (AnyQ ws a b true (i + 1)) := HV.out.yes
          go_wp2
          go_quiet (fail)
          obtain ⟨W5, hW5⟩ : ∃ W, W = w4.drewN nq := ⟨_, rfl⟩
          have HB5 : Hid (Below W0.heap.size W0 W5) := by rw [hW5]; exact below_after (below_after HBr.out HB4.out) (below_drewN' (Below.refl _ _) nq)
          rw [← hW5]
          clear hW5
          go_wp2
          go_roundw
          case rel => exact ⟨i + 1, true, by omega, by go_num, by first | trivial | rfl, HV2, HB5⟩
          case measure => simp [intOf]; omega
      | false =>
        cases x with
        | false =>
          have HV2 : Hid (AnyQ ws a b false (i + 1)) := HV.out.no HX.out
          go_wp2
          go_quiet (fail)
          obtain ⟨W5, hW5⟩ : ∃ W, W = w4.drewN nq := ⟨_, rfl⟩
          have HB5 : Hid (Below W0.heap.size W0 W5) := by rw [hW5]; exact below_after (below_after HBr.out HB4.out) (below_drewN' (Below.refl _ _) nq)
          rw [← hW5]
          clear hW5
          go_wp2
          go_roundw
          case rel => exact ⟨i + 1, false, by omega, by go_num, by first | trivial | rfl, HV2, HB5⟩
          case measure => simp [intOf]; omega
        | true =>
          obtain ⟨y, hy⟩ : ∃ y, y = wholeB (ws.drop i) b := ⟨_, rfl⟩
          have HV2 : Hid (AnyQ ws a b y (i + 1)) := HV.out.call HX.out hy
          rw [← hy] at HSB
          obtain ⟨z0, z1, z2⟩ := HKB.out w4 HB4.out
          clear hy
          cases wa with
          | none =>
            have hwc0 : wc = 0 := hnil rfl
            obtain rfl : i = 0 := by omega
            obtain rfl : wl = 0 := by omega
            subst hwc0
            have HSB0 : Hid (∀ W, Below w.heap.size w W → Calls Try.prog 13 #[.agg #[.int .i64 bk, .int .i64 bs1, .slice xb bl cb], .slice none 0 0] W fun e w' => e = .returned (.bool y) ∧ Below W.heap.size W w') := HSB
            go_wp2
            go_region_held3 (fun W => W.cell? ⟨w.heap.size + 1, 0, none⟩ = some (.int .i64 bk) ∧ W.cell? ⟨w.heap.size + 1, 1, none⟩ = some (.int .i64 bs1) ∧ W.cell? ⟨w.heap.size + 1, 2, none⟩ = some (.slice xb bl cb)) (first | go_keep | exact HKB.out _ (below_after HB4.out (below_drew1 hq1))) ((go_at_call 13; refine (HSB0.out _ (below_after (below_after HBWr.out HB4.out) (below_drewN' (Below.refl _ _) 1))).mono ?_; rintro e w5 ⟨rfl, hq1⟩))
            have HB5 : Hid (Below W0.heap.size W0 w5) := below_after (below_after HBr.out HB4.out) (below_drew1 hq1)
            clear hq1 z0 z1 z2
            go_wp2
            go_roundw
            case rel => exact ⟨0 + 1, y, by omega, by go_num, by first | trivial | rfl, HV2, HB5⟩
            case measure => simp [intOf]
          | some ad =>
            by_cases hwci : wc = i
            · subst hwci
              obtain rfl : wl = wc := by omega
              have HSB1 : Hid (∀ W, Below w.heap.size w W → Calls Try.prog 13 #[.agg #[.int .i64 bk, .int .i64 bs1, .slice xb bl cb], .slice (some ad) 0 0] W fun e w' => e = .returned (.bool y) ∧ Below W.heap.size W w') := by
                have := HSB.out
                unfold dropA at this
                simp only [if_pos, Nat.sub_self] at this
                exact this
              go_wp2
              go_region_held3 (fun W => W.cell? ⟨w.heap.size + 1, 0, none⟩ = some (.int .i64 bk) ∧ W.cell? ⟨w.heap.size + 1, 1, none⟩ = some (.int .i64 bs1) ∧ W.cell? ⟨w.heap.size + 1, 2, none⟩ = some (.slice xb bl cb)) (first | go_keep | exact HKB.out _ (below_after HB4.out (below_drew1 hq1))) ((go_at_call 13; refine (HSB1.out _ (below_after (below_after HBWr.out HB4.out) (below_drewN' (Below.refl _ _) 1))).mono ?_; rintro e w5 ⟨rfl, hq1⟩))
              have HB5 : Hid (Below W0.heap.size W0 w5) := below_after (below_after HBr.out HB4.out) (below_drew1 hq1)
              clear hq1 z0 z1 z2
              go_wp2
              go_roundw
              case rel => exact ⟨wl + 1, y, by omega, by go_num, by first | trivial | rfl, HV2, HB5⟩
              case measure => simp [intOf]
            · have HSB1 : Hid (∀ W, Below w.heap.size w W → Calls Try.prog 13 #[.agg #[.int .i64 bk, .int .i64 bs1, .slice xb bl cb], .slice (some (ad.add i)) (wl - i) (wc - i)] W fun e w' => e = .returned (.bool y) ∧ Below W.heap.size W w') := by
                have := HSB.out
                unfold dropA at this
                simp only [if_neg hwci] at this
                exact this
              go_wp2
              go_region_held3 (fun W => W.cell? ⟨w.heap.size + 1, 0, none⟩ = some (.int .i64 bk) ∧ W.cell? ⟨w.heap.size + 1, 1, none⟩ = some (.int .i64 bs1) ∧ W.cell? ⟨w.heap.size + 1, 2, none⟩ = some (.slice xb bl cb)) (first | go_keep | exact HKB.out _ (below_after HB4.out (below_drew1 hq1))) ((go_at_call 13; refine (HSB1.out _ (below_after (below_after HBWr.out HB4.out) (below_drewN' (Below.refl _ _) 1))).mono ?_; rintro e w5 ⟨rfl, hq1⟩))
              have HB5 : Hid (Below W0.heap.size W0 w5) := below_after (below_after HBr.out HB4.out) (below_drew1 hq1)
              clear hq1 z0 z1 z2
              go_wp2
              go_roundw
              case rel => exact ⟨i + 1, y, by omega, by go_num, by first | trivial | rfl, HV2, HB5⟩
              case measure => simp [intOf]; omega
    · obtain rfl : i = wl + 1 := by omega
      have hil' : ¬ ((wl : Int) + 1 ≤ (wl : Int)) := by omega
      have HCAT : Hid (wholeB ws ⟨0, 0, [a, b]⟩ = v) := by
        have := HV.out
        rw [HWL.out] at this
        exact this.done
      obtain ⟨a0, a1, a2⟩ : _ ∧ _ ∧ _ := ⟨(HBA.out.below HBr.out).c0, (HBA.out.below HBr.out).c1, (HBA.out.below HBr.out).c2⟩
      obtain ⟨b0, b1, b2⟩ : _ ∧ _ ∧ _ := ⟨(HBB.out.below HBr.out).c0, (HBB.out.below HBr.out).c1, (HBB.out.below HBr.out).c2⟩
      have hlt1 : w.heap.size < wr.heap.size := (HBA.out.below HBr.out).lt
      have hlt2 : w.heap.size + 1 < wr.heap.size := (HBB.out.below HBr.out).lt
      obtain ⟨W4, hW4⟩ : ∃ W, W = wr.alloc (.cells #[.int .i64 ak, .int .i64 as1, .slice xa al ca, .int .i64 bk, .int .i64 bs1, .slice xb bl cb] 24) := ⟨_, rfl⟩
      have HWH : Hid (∀ W0 W (k : Int), Below w.heap.size w W0 → W = W0.alloc (.cells #[.int .i64 ak, .int .i64 as1, .slice xa al ca, .int .i64 bk, .int .i64 bs1, .slice xb bl cb] 24) → Calls Try.prog 13 #[.agg #[.int .i64 k, .int .i64 0, .slice (some ⟨W0.heap.size, 0, none⟩) 2 2], .slice wa wl wc] W fun e w' => e = .returned (.bool (wholeB ws ⟨k, 0, [a, b]⟩)) ∧ Below W.heap.size W w') := fun V W k hV hW => by
        have hBV : Below V.heap.size V W := by rw [hW]; exact below_alloc _ _
        have hBW := below_after hV hBV
        have := whl_built (w := W) (d := 12) (k := k) (s := 0) (g := V.heap.size) (l := [(a, .slice xa al ca), (b, .slice xb bl cb)]) (c := 2) (wa := wa) (wc := wc) (ws := ws) (by omega) (by have := HWL.out; omega) (by rw [hW, HNA.out.1, HNA.out.2.1, HNB.out.1, HNB.out.2.1]; exact heap_new' _ _) (by simp) (by simp) (by simp; exact ⟨kdx_below HA.out hBW, kdx_below HBb.out hBW⟩) (by simp; exact ⟨HDA.out, HDB.out⟩) (by rw [← HWL.out]; exact wrd_below HW.out hBW) (Below.refl _ _)
        unfold WhlC at this
        rw [← HWL.out] at this
        exact this
      have h4 := HWH.out wr W4 0 HBWr.out hW4
      rw [HCAT.out, hW4] at h4
      go_wp2_with fail
      refine h4.mono ?_
      rintro e w4 ⟨rfl, hB4⟩
      rw [← hW4] at hB4
      have HB4 : Hid (Below wr.heap.size wr w4) := below_after (by rw [hW4]; exact below_alloc _ _) hB4
      have HB04 : Hid (Below W0.heap.size W0 w4) := below_after HBr.out HB4.out
      have HBW4 : Hid (Below w.heap.size w w4) := below_after HBWr.out HB4.out
      clear h4 hB4 hW4 a0 a1 a2 b0 b1 b2 hlt1 hlt2
      obtain ⟨a0, a1, a2⟩ : _ ∧ _ ∧ _ := ⟨(HBA.out.below HB04.out).c0, (HBA.out.below HB04.out).c1, (HBA.out.below HB04.out).c2⟩
      obtain ⟨b0, b1, b2⟩ : _ ∧ _ ∧ _ := ⟨(HBB.out.below HB04.out).c0, (HBB.out.below HB04.out).c1, (HBB.out.below HB04.out).c2⟩
      have hlt1 : w.heap.size < w4.heap.size := (HBA.out.below HB04.out).lt
      have hlt2 : w.heap.size + 1 < w4.heap.size := (HBB.out.below HB04.out).lt
      obtain ⟨W5, hW5⟩ : ∃ W, W = w4.alloc (.cells #[.int .i64 ak, .int .i64 as1, .slice xa al ca, .int .i64 bk, .int .i64 bs1, .slice xb bl cb] 24) := ⟨_, rfl⟩
      have h5 := HWH.out w4 W5 2 HBW4.out hW5
      rw [alt_both, hW5] at h5
      obtain ⟨ra, hra⟩ : ∃ x, x = rightN a := ⟨_, rfl⟩
      obtain ⟨rb, hrb⟩ : ∃ x, x = rightN b := ⟨_, rfl⟩
      obtain ⟨va, hva⟩ : ∃ x, x = wholeB ws a := ⟨_, rfl⟩
      obtain ⟨vb, hvb⟩ : ∃ x, x = wholeB ws b := ⟨_, rfl⟩
      rw [← hra, ← hrb, ← hva, ← hvb] at h5
      have HRA : Hid (∀ W, Below w.heap.size w W → Calls Try.prog 11 #[.agg #[.int .i64 ak, .int .i64 as1, .slice xa al ca]] W fun e w' => e = .returned (.bool ra) ∧ Below W.heap.size W w') := fun W h => by
        have := right_any 12 (by omega) a _ W HDA.out (kdx_below HA.out h)
        unfold ndV at this
        rw [← HNA.out.1, ← HNA.out.2.1, ← hra] at this
        exact this
      have HRB : Hid (∀ W, Below w.heap.size w W → Calls Try.prog 11 #[.agg #[.int .i64 bk, .int .i64 bs1, .slice xb bl cb]] W fun e w' => e = .returned (.bool rb) ∧ Below W.heap.size W w') := fun W h => by
        have := right_any 12 (by omega) b _ W HDB.out (kdx_below HBb.out h)
        unfold ndV at this
        rw [← HNB.out.1, ← HNB.out.2.1, ← hrb] at this
        exact this
      have HVA : Hid (∀ W, Below w.heap.size w W → Calls Try.prog 13 #[.agg #[.int .i64 ak, .int .i64 as1, .slice xa al ca], .slice wa wl wc] W fun e w' => e = .returned (.bool va) ∧ Below W.heap.size W w') := fun W h => by
        have := whl_of (d := 12) (n := a) (wa := wa) (wc := wc) (ws := ws) (w := w) (by omega) (by have := HWL.out; omega) HDA.out HA.out (by rw [← HWL.out]; exact HW.out) h
        unfold WhlC ndV at this
        rw [← HWL.out, ← HNA.out.1, ← HNA.out.2.1, ← hva] at this
        exact this
      have HVB : Hid (∀ W, Below w.heap.size w W → Calls Try.prog 13 #[.agg #[.int .i64 bk, .int .i64 bs1, .slice xb bl cb], .slice wa wl wc] W fun e w' => e = .returned (.bool vb) ∧ Below W.heap.size W w') := fun W h => by
        have := whl_of (d := 12) (n := b) (wa := wa) (wc := wc) (ws := ws) (w := w) (by omega) (by have := HWL.out; omega) HDB.out HBb.out (by rw [← HWL.out]; exact HW.out) h
        unfold WhlC ndV at this
        rw [← HWL.out, ← HNB.out.1, ← HNB.out.2.1, ← hvb] at this
        exact this
      clear hra hrb hva hvb
      go_wp2_with fail
      refine h5.mono ?_
      rintro e w5 ⟨rfl, hB5⟩
      rw [← hW5] at hB5
      have HB05 : Hid (Below W0.heap.size W0 w5) := below_after HB04.out (below_after (by rw [hW5]; exact below_alloc _ _) hB5)
      have HBW5 : Hid (Below w.heap.size w w5) := below_after HB0.out HB05.out
      clear h5 hB5 hW5 a0 a1 a2 b0 b1 b2 hlt1 hlt2
      obtain ⟨a0, a1, a2⟩ : _ ∧ _ ∧ _ := ⟨(HBA.out.below HB05.out).c0, (HBA.out.below HB05.out).c1, (HBA.out.below HB05.out).c2⟩
      have h6 := HRA.out w5 HBW5.out
      go_wp2_with fail
      refine h6.mono ?_
      rintro e w6 ⟨rfl, hB6⟩
      have HB06 : Hid (Below W0.heap.size W0 w6) := below_after HB05.out hB6
      have HBW6 : Hid (Below w.heap.size w w6) := below_after HB0.out HB06.out
      clear h6 hB6 a0 a1 a2
      cases ra with
      | false =>
        go_wp2
        go_ret
        exact ⟨by first | rfl | simp, HBW6.out⟩
      | true =>
      obtain ⟨b0, b1, b2⟩ : _ ∧ _ ∧ _ := ⟨(HBB.out.below HB06.out).c0, (HBB.out.below HB06.out).c1, (HBB.out.below HB06.out).c2⟩
      have h7 := HRB.out w6 HBW6.out
      go_wp2_with fail
      refine h7.mono ?_
      rintro e w7 ⟨rfl, hB7⟩
      have HB07 : Hid (Below W0.heap.size W0 w7) := below_after HB06.out hB7
      have HBW7 : Hid (Below w.heap.size w w7) := below_after HB0.out HB07.out
      clear h7 hB7 b0 b1 b2
      cases rb with
      | false =>
        go_wp2
        go_ret
        exact ⟨by first | rfl | simp, HBW7.out⟩
      | true =>
      obtain ⟨a0, a1, a2⟩ : _ ∧ _ ∧ _ := ⟨(HBA.out.below HB07.out).c0, (HBA.out.below HB07.out).c1, (HBA.out.below HB07.out).c2⟩
      have h8 := HVA.out w7 HBW7.out
      go_wp2_with fail
      refine h8.mono ?_
      rintro e w8 ⟨rfl, hB8⟩
      have HB08 : Hid (Below W0.heap.size W0 w8) := below_after HB07.out hB8
      have HBW8 : Hid (Below w.heap.size w w8) := below_after HB0.out HB08.out
      clear h8 hB8 a0 a1 a2
      cases va with
      | true =>
        go_wp2
        go_ret
        exact ⟨by first | rfl | simp, HBW8.out⟩
      | false =>
      obtain ⟨b0, b1, b2⟩ : _ ∧ _ ∧ _ := ⟨(HBB.out.below HB08.out).c0, (HBB.out.below HB08.out).c1, (HBB.out.below HB08.out).c2⟩
      have h9 := HVB.out w8 HBW8.out
      go_wp2_with fail
      refine h9.mono ?_
      rintro e w9 ⟨rfl, hB9⟩
      have HBW9 : Hid (Below w.heap.size w w9) := below_after HBW8.out hB9
      clear h9 hB9 b0 b1 b2
      go_wp2
      go_ret
      exact ⟨by first | rfl | simp, HBW9.out⟩
end Go.Proofs.Ytlllmoelhholfaa
