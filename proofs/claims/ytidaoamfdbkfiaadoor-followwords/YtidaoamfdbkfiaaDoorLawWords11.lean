/-
  scansionlaw11.FollowWords.
-/
import Derived.Test.YtidaoamfdbkfiaaDoorFlWrd
import Derived.Test.YtidaoamfdbkfiaaDoorFlRef4
import Derived.Deep.RegionLaw
namespace Go.Proofs.YtidaoamfdbkfiaaDoor
open Go.RowKit Go.Shelf
set_option linter.unusedVariables false

theorem err_two' {n : Nd} (h : errF n ≠ 0) : errF n = 1 ∨ errF n = 3 := by
  unfold errF at *
  split at h
  · rename_i q; rw [if_pos q]; exact .inl rfl
  · rename_i q
    rw [if_neg q]
    split at h
    · rename_i q2; rw [if_pos q2]; exact .inr rfl
    · exact absurd rfl h

set_option maxRecDepth 100000 in
set_option maxHeartbeats 32000000 in
theorem followWords_any (a : Nd) (za : Value) (wa : Option Addr) (wc : Nat) (ws : List Nat) (w : World) (hT : TabW w) (ha : KdX (fun k => k < w.heap.size) w za a.kids) (hw : WrdAt w.heap.size w (.slice wa ws.length wc) ws) :
    Calls Tryd.prog 5 #[ndV a za, .slice wa ws.length wc] w fun e w' => e = .returned (.bool true) ∧ Below w.heap.size w w' := by
  obtain ⟨na, ca, rfl, _⟩ := ha.slice
  obtain ⟨W0, hW0⟩ : ∃ W, W = w.alloc (.cells #[.int .i64 a.k, .int .i64 a.s, .slice na a.kids.length ca] 24) := ⟨_, rfl⟩
  have hB0 : Below w.heap.size w W0 := by rw [hW0]; exact below_alloc _ _
  have hbA : Box W0 w.heap.size a.k a.s (.slice na a.kids.length ca) := by rw [hW0]; exact box_new _ _ _ _
  have HA : Hid (KdX (fun k => k < w.heap.size) w (.slice na a.kids.length ca) a.kids) := ha
  have HT : Hid (TabW w) := hT
  have HW : Hid (WrdAt w.heap.size w (.slice wa ws.length wc) ws) := hw
  have HFA : Hid (∀ W, Below w.heap.size w W → Calls Tryd.prog 13 #[ndV a (.slice na a.kids.length ca), .slice wa ws.length wc] W fun e w' => ∃ b, e = .returned (.bool b) ∧ (b = true → Dp 40 a.kids ∧ (setsN a).length ≤ 700 ∧ ws.length ≤ 30) ∧ Below W.heap.size W w') := fun W h => few_any a _ wa ws.length wc W (kdx_below ha h)
  unfold ndV at HFA ⊢
  obtain ⟨ak, hak⟩ : ∃ x, x = a.k := ⟨_, rfl⟩
  obtain ⟨as1, has1⟩ : ∃ x, x = a.s := ⟨_, rfl⟩
  obtain ⟨al, hal⟩ : ∃ x, x = a.kids.length := ⟨_, rfl⟩
  have HNA : Hid (ak = a.k ∧ as1 = a.s ∧ al = a.kids.length) := ⟨hak, has1, hal⟩
  obtain ⟨wl, hwl⟩ : ∃ x, x = ws.length := ⟨_, rfl⟩
  have HWL : Hid (wl = ws.length) := hwl
  rw [← hak, ← has1, ← hal] at HFA hbA hW0 ⊢
  rw [← hal] at HA
  rw [← hwl] at HFA HW ⊢
  have HB0 : Hid (Below w.heap.size w W0) := hB0
  have HBA : Hid (Box W0 w.heap.size ak as1 (.slice na al ca)) := hbA
  have haw := awake_any W0 (hT.below hB0)
  have HBD : Hid (∀ W, Dp 40 a.kids → (setsN a).length ≤ 700 → Below w.heap.size w W → Calls Tryd.prog 10 #[.agg #[.int .i64 ak, .int .i64 as1, .slice na al ca]] W (BldA a W)) := fun W hd hs hb => by
    rw [HNA.out.1, HNA.out.2.1, HNA.out.2.2]
    exact build_any 40 (by omega) a na ca W (HT.out.below hb) hd (by omega) (kdx_below ha hb)
  rw [hW0] at haw
  clear hak has1 hal hwl hw ha hB0 hbA hT
  go_enter Tryd.func5, Tryd.ntmps5
  go_wp2_with fail
  refine haw.mono ?_
  rintro e w1 ⟨rfl, hB1⟩
  rw [← hW0] at hB1
  have HB1 : Hid (Below W0.heap.size W0 w1) := hB1
  obtain ⟨a0, a1, a2⟩ : _ ∧ _ ∧ _ := ⟨(HBA.out.below hB1).c0, (HBA.out.below hB1).c1, (HBA.out.below hB1).c2⟩
  have hf1 := HFA.out w1 (below_after HB0.out hB1)
  clear haw hB1 hW0
  go_wp2_with fail
  refine hf1.mono ?_
  rintro e w3 ⟨ok1, rfl, ho1, hB3⟩
  have HB3 : Hid (Below W0.heap.size W0 w3) := below_after HB1.out hB3
  have HO1 : Hid (ok1 = true → Dp 40 a.kids ∧ (setsN a).length ≤ 700 ∧ ws.length ≤ 30) := fun h => (by have := ho1 h; rwa [HWL.out] at this)
  have HBW3 : Hid (Below w.heap.size w w3) := below_after HB0.out HB3.out
  clear hf1 hB3 a0 a1 a2 ho1
  cases ok1 with
  | false =>
    go_wp2
    go_ret
    exact ⟨rfl, HBW3.out⟩
  | true =>
  have HDA : Hid (Dp 40 a.kids) := (HO1.out rfl).1
  have HSA : Hid ((setsN a).length ≤ 700) := (HO1.out rfl).2.1
  have hw30 : wl ≤ 30 := by have := (HO1.out rfl).2.2; have := HWL.out; omega
  obtain ⟨a0, a1, a2⟩ : _ ∧ _ ∧ _ := ⟨(HBA.out.below HB3.out).c0, (HBA.out.below HB3.out).c1, (HBA.out.below HB3.out).c2⟩
  have hlt1 : w.heap.size < w3.heap.size := (HBA.out.below HB3.out).lt
  clear HO1
  have hbd := HBD.out w3 HDA.out HSA.out HBW3.out
  go_wp2_with fail
  refine hbd.mono ?_
  rintro e w4 ⟨av, rfl, hav, hB4⟩
  have HAV : Hid (AutAt w4 av (autF a)) := hav
  obtain ⟨sv, fv, lv, wv, hev, hs, hf, hl, hw⟩ := hav
  subst hev
  obtain ⟨sa, sc, hes, _⟩ := hs.slice
  obtain ⟨fa, fc, hef, _⟩ := hf.slice
  obtain ⟨la, lc, hel, _⟩ := hl.slice
  obtain ⟨xa, xc, hex, _⟩ := hw.slice
  obtain ⟨er, her⟩ : ∃ x, x = errF a := ⟨_, rfl⟩
  obtain ⟨n1, hn1⟩ : ∃ x, x = (autF a).null := ⟨_, rfl⟩
  obtain ⟨sl, hsl⟩ : ∃ x, x = (autF a).sets.length := ⟨_, rfl⟩
  obtain ⟨fl, hfl⟩ : ∃ x, x = (autF a).first.length := ⟨_, rfl⟩
  obtain ⟨ll, hll⟩ : ∃ x, x = (autF a).last.length := ⟨_, rfl⟩
  obtain ⟨xl, hxl⟩ : ∃ x, x = (autF a).fol.length := ⟨_, rfl⟩
  rw [← hsl] at hes
  rw [← hfl] at hef
  rw [← hll] at hel
  rw [← hxl] at hex
  subst hes hef hel hex
  rw [← hn1, ← her]
  rw [← hn1] at HAV
  have HE1 : Hid (er = errF a ∧ n1 = (autF a).null) := ⟨her, hn1⟩
  have HBW4 : Hid (Below w.heap.size w w4) := below_after HBW3.out hB4
  have HX4 : Hid (Box w4 w.heap.size ak as1 (.slice na al ca)) := (HBA.out.below HB3.out).below hB4
  clear hbd hs hf hl hw hB4 hn1 hsl hfl hll hxl her a0 a1 a2
  by_cases he : er = 0
  case neg =>
    have hne : (er != 0) = true := by simpa using he
    have hor : er = 1 ∨ er = 3 := by
      have h1 := HE1.out.1
      rw [h1] at he ⊢
      exact err_two' he
    rcases hor with rfl | rfl
    · go_wp2
      go_ret
      exact ⟨by simp, HBW4.out.alloc HBW4.out.size _⟩
    · go_wp2
      go_ret
      exact ⟨by simp, HBW4.out.alloc HBW4.out.size _⟩
  case pos =>
  subst he
  have HEZ : Hid (errF a = 0) := HE1.out.1.symm
  obtain ⟨W4, hW4⟩ : ∃ W, W = w4.alloc (.cells #[.bool n1, .slice sa sl sc, .slice fa fl fc, .slice la ll lc, .slice xa xl xc] 30) := ⟨_, rfl⟩
  have hBW : Below w4.heap.size w4 W4 := by rw [hW4]; exact below_alloc _ _
  have HA1 : Hid (ABox W4 w4.heap.size n1 (.slice sa sl sc) (.slice fa fl fc) (.slice la ll lc) (.slice xa xl xc)) := by rw [hW4]; exact heap_new' _ _
  have HX5 : Hid (Box W4 w.heap.size ak as1 (.slice na al ca)) := HX4.out.below hBW
  have HAU : Hid (AutAt W4 (.agg #[.bool n1, .slice sa sl sc, .slice fa fl fc, .slice la ll lc, .slice xa xl xc]) (autF a)) := HAV.out.below hBW
  have HBWW : Hid (Below w.heap.size w W4) := below_after HBW4.out hBW
  have hbg := begin_any W4
  have HW4 : Hid (W4 = _) := hW4
  rw [hW4] at hbg
  clear hBW hW4
  go_wp2_with fail
  refine hbg.mono ?_
  rintro e w5 ⟨v5, rfl, ho5, hB5⟩
  rw [← HW4.out] at ho5 hB5
  have HP5 : Hid (PlcAt 0 0 w5 v5 (runL (autF a) ws 0)) := plc_of_row (l := [0]) ho5 (Nat.zero_le _)
  have HB5 : Hid (Below W4.heap.size W4 w5) := hB5
  clear hbg ho5 hB5
  go_wp2
  go_loopw [9, 10] (fun x9 x10 wr => ∃ (i : Nat), i ≤ wl ∧ x10 = .int .i64 (i : Int) ∧ Hid (PlcAt 0 0 wr x9 (runL (autF a) ws i)) ∧ Hid (Below W4.heap.size W4 wr)) (fun _ x10 _ => wl - (intOf x10).toNat)
  case atStart => exact ⟨0, Nat.zero_le _, rfl, HP5, HB5⟩
  case round =>
    obtain ⟨i, hi, rfl, HPr, HBr⟩ := hrel
    have hAB := HA1.out.below HBr.out
    have c0 := hAB.c0
    have c1' := hAB.c1
    have c2' := hAB.c2
    have c3' := hAB.c3
    have c4' := hAB.c4
    have hltA := hAB.lt
    obtain ⟨ua, uc, hue, _⟩ := HPr.out.slice
    obtain ⟨un, hun⟩ : ∃ n, n = (runL (autF a) ws i).length := ⟨_, rfl⟩
    rw [← hun] at hue
    subst hue
    have HBWr : Hid (Below w.heap.size w wr) := below_after HBWW.out HBr.out
    clear hun hAB
    by_cases hil : i < wl
    · have hin : i < ws.length := by rw [← HWL.out]; exact hil
      obtain ⟨gw, ow, s, hwa, hgw, e1, hs64, HS⟩ : ∃ (gw ow s : Nat), wa = some ⟨gw, ow, none⟩ ∧ gw < w.heap.size ∧ w.cell? ⟨gw, ow + i, none⟩ = some (.int .u64 (s : Int)) ∧ s < 18446744073709551616 ∧ Hid (s = ws[i]) := by
        obtain ⟨wa', wc', e0, _, hx⟩ := HW.out
        obtain ⟨h64, g, off, h1, h2, h3⟩ := hx i hin
        have hq : wa = wa' := by simp at e0; exact e0.1
        exact ⟨g, off, ws[i], by rw [hq]; exact h1, h2, h3, h64, rfl⟩
      subst hwa
      have hwcl : wl ≤ wc := by
        obtain ⟨wa', wc', e0, h2, _⟩ := HW.out
        have := HWL.out
        have hq : wc = wc' := by simp at e0; exact e0.2.2
        omega
      have e2 : wr.cell? ⟨gw, ow + i, none⟩ = some (.int .u64 (s : Int)) := (HBWr.out.cell (p := ⟨gw, _, none⟩) hgw).trans e1
      have hgw2 : gw < wr.heap.size := Nat.lt_of_lt_of_le hgw HBWr.out.size
      have hrl := run_le HEZ.out ws i (by omega)
      have hst := step_any (autF a) _ (runL (autF a) ws i) (.slice ua un uc) s wr.drew (HT.out.below HBWr.out.drew) (HAU.out.below HBr.out.drew) (okA_of HEZ.out) (HPr.out.below (Below.refl _ _).drew) (by rw [show (autF a).sets.length = (setsN a).length from by rw [aut_ok' HEZ.out]; rfl]; exact hrl.1) hrl.2 hs64
      rw [HS.out, ← runL_succ _ _ hin, ← HS.out] at hst
      have hi0 : (0 : Int) ≤ (i : Int) := by omega
      have hi1 : (i : Int) < (wl : Int) := by omega
      clear e1 hrl
      go_wp2
      go_region_law (go_simp; (with_reducible refine hst.mono ?_); rintro e w6 ⟨v6, rfl, ho6, hB6⟩; try dsimp only)
      all_goals (
        have HP6 : Hid (PlcAt 0 0 w6 v6 (runL (autF a) ws (i + 1))) := plc_of_row ho6 (Nat.zero_le _)
        have HB6 : Hid (Below W4.heap.size W4 w6) := below_after HBr.out (below_drw hB6)
        clear hst ho6 hB6
        go_wp2
        go_roundw
        case rel => exact ⟨i + 1, by omega, by go_num, HP6, HB6⟩
        case measure => simp [intOf]; omega)
    · obtain rfl : i = wl := by omega
      have hil2 : i = ws.length := HWL.out
      have hrl := run_le HEZ.out ws i (by omega)
      have hX := HX5.out.below HBr.out
      have x0 := hX.c0
      have x1 := hX.c1
      have x2 := hX.c2
      have hltX := hX.lt
      have HEN : Hid (∀ W, Below wr.heap.size wr W → Calls Tryd.prog 16 #[.agg #[.bool n1, .slice sa sl sc, .slice fa fl fc, .slice la ll lc, .slice xa xl xc], .slice ua un uc] W fun e w' => e = .returned (.bool (wholeB ws a)) ∧ Below W.heap.size W w') := fun W hb => by
        have := end_any (autF a) _ (runL (autF a) ws i) (.slice ua un uc) W ((HAU.out.below HBr.out).below hb) (HPr.out.below hb) (by omega) (by have := (okA_of HEZ.out).in2.len (Nat.zero_le _); have := (okA_of HEZ.out).sets; omega)
        rw [hil2, run_end HEZ.out] at this
        exact this
      have HWH : Hid (∀ W, Below wr.heap.size wr W → Calls Tryd.prog 20 #[.agg #[.int .i64 ak, .int .i64 as1, .slice na al ca], .slice wa i wc] W fun e w' => e = .returned (.bool (wholeB ws a)) ∧ Below W.heap.size W w') := fun W hb => by
        have hbw := below_after HBWr.out hb
        have := refWhole_any 40 ws (by omega) a (.slice na al ca) wa wc W HDA.out (kdx_below HA.out hbw) (wrd_below (v := .slice wa ws.length wc) (by rw [← hil2]; exact HW.out) hbw)
        unfold ndV at this
        rw [← HNA.out.1, ← HNA.out.2.1, ← hil2] at this
        exact this
      obtain ⟨r, hr⟩ : ∃ r, r = wholeB ws a := ⟨_, rfl⟩
      rw [← hr] at HEN HWH
      have HCB : Hid (∀ W, Below wr.heap.size wr W → (W.cell? ⟨w4.heap.size, 0, none⟩ = some (.bool n1) ∧ W.cell? ⟨w4.heap.size, 1, none⟩ = some (.slice sa sl sc) ∧ W.cell? ⟨w4.heap.size, 2, none⟩ = some (.slice fa fl fc) ∧ W.cell? ⟨w4.heap.size, 3, none⟩ = some (.slice la ll lc) ∧ W.cell? ⟨w4.heap.size, 4, none⟩ = some (.slice xa xl xc) ∧ W.cell? ⟨w.heap.size, 0, none⟩ = some (.int .i64 ak) ∧ W.cell? ⟨w.heap.size, 1, none⟩ = some (.int .i64 as1) ∧ W.cell? ⟨w.heap.size, 2, none⟩ = some (.slice na al ca))) := fun W hb => by
        have hA := (HA1.out.below HBr.out).below hb
        have hX := (HX5.out.below HBr.out).below hb
        exact ⟨hA.c0, hA.c1, hA.c2, hA.c3, hA.c4, hX.c0, hX.c1, hX.c2⟩
      clear hr hrl hX hil2
      go_wp2
      go_region_held3 (fun W => (W.cell? ⟨w4.heap.size, 0, none⟩ = some (.bool n1) ∧ W.cell? ⟨w4.heap.size, 1, none⟩ = some (.slice sa sl sc) ∧ W.cell? ⟨w4.heap.size, 2, none⟩ = some (.slice fa fl fc) ∧ W.cell? ⟨w4.heap.size, 3, none⟩ = some (.slice la ll lc) ∧ W.cell? ⟨w4.heap.size, 4, none⟩ = some (.slice xa xl xc) ∧ W.cell? ⟨w.heap.size, 0, none⟩ = some (.int .i64 ak) ∧ W.cell? ⟨w.heap.size, 1, none⟩ = some (.int .i64 as1) ∧ W.cell? ⟨w.heap.size, 2, none⟩ = some (.slice na al ca))) (first | (with_reducible exact HCB.out _ hB8') | (with_reducible exact HCB.out _ hB7') | (with_reducible exact HCB.out _ (Below.refl _ _).drew) | go_keep) (first | (go_at_call 20; (with_reducible refine (HWH.out _ hB7').mono ?_); rintro e w8 ⟨rfl, hB8⟩; have hB8' : Below wr.heap.size wr w8 := below_after hB7' hB8) | (go_at_call 16; (with_reducible refine (HEN.out _ (Below.refl _ _).drew).mono ?_); rintro e w7 ⟨rfl, hB7⟩; have hB7' : Below wr.heap.size wr w7 := below_drw hB7))
      all_goals (
        go_wp2_with fail
        go_ret
        exact ⟨by simp, below_after HBWr.out hB8'⟩)
end Go.Proofs.YtidaoamfdbkfiaaDoor
