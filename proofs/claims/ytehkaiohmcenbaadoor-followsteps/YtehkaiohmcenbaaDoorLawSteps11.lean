/-
  scansionlaw11.FollowSteps.
-/
import Derived.Test.YtehkaiohmcenbaaDoorFlWrd
import Derived.Test.YtehkaiohmcenbaaDoorFlRStep
import Derived.Test.YtehkaiohmcenbaaDoorFlRBuild
import Derived.Deep.RegionLaw
import Derived.Deep.CutRange
namespace Go.Proofs.YtehkaiohmcenbaaDoor
open Go.RowKit Go.Shelf
set_option linter.unusedVariables false

set_option maxRecDepth 100000 in
set_option maxHeartbeats 32000000 in
theorem followSteps_any (a : Nd) (za : Value) (wa : Option Addr) (wp : Nat) (ws : List Nat) (w : World) (hT : TabW w) (ha : KdX (fun k => k < w.heap.size) w za a.kids) (hw : WrdAt w.heap.size w (.slice wa ws.length wp) ws) :
    Calls Tryd.prog 4 #[ndV a za, .slice wa ws.length wp] w fun e w' => e = .returned (.bool true) ∧ Below w.heap.size w w' := by
  obtain ⟨na, ca, rfl, _⟩ := ha.slice
  obtain ⟨W0, hW0⟩ : ∃ W, W = w.alloc (.cells #[.int .i64 a.k, .int .i64 a.s, .slice na a.kids.length ca] 24) := ⟨_, rfl⟩
  have hB0 : Below w.heap.size w W0 := by rw [hW0]; exact below_alloc _ _
  have hbA : Box W0 w.heap.size a.k a.s (.slice na a.kids.length ca) := by rw [hW0]; exact box_new _ _ _ _
  have HA : Hid (KdX (fun k => k < w.heap.size) w (.slice na a.kids.length ca) a.kids) := ha
  have HT : Hid (TabW w) := hT
  have HW : Hid (WrdAt w.heap.size w (.slice wa ws.length wp) ws) := hw
  have HFA : Hid (∀ W, Below w.heap.size w W → Calls Tryd.prog 14 #[ndV a (.slice na a.kids.length ca), .slice wa ws.length wp] W fun e w' => ∃ b, e = .returned (.bool b) ∧ (b = true → Dp 40 a.kids ∧ (setsN a).length ≤ 700 ∧ ws.length ≤ 30) ∧ Below W.heap.size W w') := fun W h => few_any a _ wa ws.length wp W (kdx_below ha h)
  unfold ndV at HFA ⊢
  obtain ⟨ak, hak⟩ : ∃ x, x = a.k := ⟨_, rfl⟩
  obtain ⟨as1, has1⟩ : ∃ x, x = a.s := ⟨_, rfl⟩
  obtain ⟨al, hal⟩ : ∃ x, x = a.kids.length := ⟨_, rfl⟩
  have HNA : Hid (ak = a.k ∧ as1 = a.s ∧ al = a.kids.length) := ⟨hak, has1, hal⟩
  obtain ⟨wl, hwl⟩ : ∃ x, x = ws.length := ⟨_, rfl⟩
  have HWL : Hid (wl = ws.length) := hwl
  rw [← hak, ← has1, ← hal] at HFA hbA hW0 ⊢
  rw [← hal] at HA
  rw [← hwl] at HFA HW ⊢
  have HB0 : Hid (Below w.heap.size w W0) := hB0
  have HBA : Hid (Box W0 w.heap.size ak as1 (.slice na al ca)) := hbA
  have haw := awake_any W0 (hT.below hB0)
  have HBD : Hid (∀ W, Dp 40 a.kids → (setsN a).length ≤ 700 → Below w.heap.size w W → Calls Tryd.prog 11 #[.agg #[.int .i64 ak, .int .i64 as1, .slice na al ca]] W (BldA a W)) := fun W hd hs hb => by
    rw [HNA.out.1, HNA.out.2.1, HNA.out.2.2]
    exact build_any 40 (by omega) a na ca W (HT.out.below hb) hd (by omega) (kdx_below ha hb)
  rw [hW0] at haw
  clear hak has1 hal hwl hw ha hB0 hbA hT
  go_enter Tryd.func4, Tryd.ntmps4
  go_wp2_with fail
  refine haw.mono ?_
  rintro e w1 ⟨rfl, hB1⟩
  rw [← hW0] at hB1
  have HB1 : Hid (Below W0.heap.size W0 w1) := hB1
  obtain ⟨a0, a1, a2⟩ : _ ∧ _ ∧ _ := ⟨(HBA.out.below hB1).c0, (HBA.out.below hB1).c1, (HBA.out.below hB1).c2⟩
  have hf1 := HFA.out w1 (below_after HB0.out hB1)
  clear haw hB1 hW0
  go_wp2_with fail
  refine hf1.mono ?_
  rintro e w3 ⟨ok1, rfl, ho1, hB3⟩
  have HB3 : Hid (Below W0.heap.size W0 w3) := below_after HB1.out hB3
  have HO1 : Hid (ok1 = true → Dp 40 a.kids ∧ (setsN a).length ≤ 700 ∧ ws.length ≤ 30) := fun h => (by have := ho1 h; rwa [HWL.out] at this)
  have HBW3 : Hid (Below w.heap.size w w3) := below_after HB0.out HB3.out
  clear hf1 hB3 a0 a1 a2 ho1
  cases ok1 with
  | false =>
    go_wp2
    go_ret
    exact ⟨rfl, HBW3.out⟩
  | true =>
  have HDA : Hid (Dp 40 a.kids) := (HO1.out rfl).1
  have HSA : Hid ((setsN a).length ≤ 700) := (HO1.out rfl).2.1
  have hw30 : wl ≤ 30 := by have := (HO1.out rfl).2.2; have := HWL.out; omega
  obtain ⟨a0, a1, a2⟩ : _ ∧ _ ∧ _ := ⟨(HBA.out.below HB3.out).c0, (HBA.out.below HB3.out).c1, (HBA.out.below HB3.out).c2⟩
  have hlt1 : w.heap.size < w3.heap.size := (HBA.out.below HB3.out).lt
  clear HO1
  have hbd : Calls Tryd.prog 12 #[.agg #[.int .i64 ak, .int .i64 as1, .slice na al ca]] w3 (BldA a w3) := by
    rw [HNA.out.1, HNA.out.2.1, HNA.out.2.2]
    have hk := HA.out
    rw [HNA.out.2.2] at hk
    exact rbuild_any 40 a na ca w3 HDA.out (kdx_below hk HBW3.out)
  go_wp2_with fail
  refine hbd.mono ?_
  rintro e w4 ⟨av, rfl, hav, hB4⟩
  have HAV : Hid (AutAt w4 av (autF a)) := hav
  obtain ⟨sv, fv, lv, wv, hev, hs, hf, hl, hw⟩ := hav
  subst hev
  obtain ⟨sa, sc, hes, _⟩ := hs.slice
  obtain ⟨fa, fc, hef, _⟩ := hf.slice
  obtain ⟨la, lc, hel, _⟩ := hl.slice
  obtain ⟨xa, xc, hex, _⟩ := hw.slice
  obtain ⟨er, her⟩ : ∃ x, x = errF a := ⟨_, rfl⟩
  obtain ⟨n1, hn1⟩ : ∃ x, x = (autF a).null := ⟨_, rfl⟩
  obtain ⟨sl, hsl⟩ : ∃ x, x = (autF a).sets.length := ⟨_, rfl⟩
  obtain ⟨fl, hfl⟩ : ∃ x, x = (autF a).first.length := ⟨_, rfl⟩
  obtain ⟨ll, hll⟩ : ∃ x, x = (autF a).last.length := ⟨_, rfl⟩
  obtain ⟨xl, hxl⟩ : ∃ x, x = (autF a).fol.length := ⟨_, rfl⟩
  rw [← hsl] at hes
  rw [← hfl] at hef
  rw [← hll] at hel
  rw [← hxl] at hex
  subst hes hef hel hex
  rw [← hn1, ← her]
  rw [← hn1] at HAV
  have HE1 : Hid (er = errF a ∧ n1 = (autF a).null) := ⟨her, hn1⟩
  have HBW4 : Hid (Below w.heap.size w w4) := below_after HBW3.out hB4
  clear hbd hs hf hl hw hB4 hn1 hsl hfl hll hxl her a0 a1 a2
  by_cases he : er = 0
  case neg =>
    have hne : (er != 0) = true := by simpa using he
    go_wp2
    go_ret
    exact ⟨rfl, HBW4.out.alloc HBW4.out.size _⟩
  case pos =>
  subst he
  have HEZ : Hid (errF a = 0) := HE1.out.1.symm
  obtain ⟨W4, hW4⟩ : ∃ W, W = w4.alloc (.cells #[.bool n1, .slice sa sl sc, .slice fa fl fc, .slice la ll lc, .slice xa xl xc] 30) := ⟨_, rfl⟩
  have hBW : Below w4.heap.size w4 W4 := by rw [hW4]; exact below_alloc _ _
  have HA1 : Hid (ABox W4 w4.heap.size n1 (.slice sa sl sc) (.slice fa fl fc) (.slice la ll lc) (.slice xa xl xc)) := by rw [hW4]; exact heap_new' _ _
  have HAU : Hid (AutAt W4 (.agg #[.bool n1, .slice sa sl sc, .slice fa fl fc, .slice la ll lc, .slice xa xl xc]) (autF a)) := HAV.out.below hBW
  have HBWW : Hid (Below w.heap.size w W4) := below_after HBW4.out hBW
  have hbg := begin_any W4
  have HW4 : Hid (W4 = _) := hW4
  rw [hW4] at hbg
  clear hBW hW4
  go_upto_region 9 with fail
  refine hbg.mono ?_
  rintro e w5 ⟨v5, rfl, ho5, hB5⟩
  rw [← HW4.out] at ho5 hB5
  obtain ⟨W5, hW5⟩ : ∃ W, W = w5.alloc (.cells #[.int .i64 0] 3) := ⟨_, rfl⟩
  have hBW5 : Below w5.heap.size w5 W5 := by rw [hW5]; exact below_alloc _ _
  have HP5 : Hid (PlcAt 0 0 W5 v5 (runL (autF a) ws 0)) := (show PlcAt 0 0 w5 v5 (runL (autF a) ws 0) from plc_of_row (l := [0]) ho5 (Nat.zero_le _)).below hBW5
  have HM5 : Hid (PlcAt 0 0 W5 (.slice (some ⟨w5.heap.size, 0, none⟩) 1 1) (runL (autF a) ws 0)) := by
    rw [hW5]
    exact ((lst_one (hi := 0) w5 0 (Nat.zero_le _)).plc)
  have HB5 : Hid (Below W4.heap.size W4 W5) := below_after hB5 hBW5
  have HW5 : Hid (W5 = w5.alloc (.cells #[.int .i64 0] 3)) := hW5
  clear hbg ho5 hB5 hBW5 hW5
  go_wp2
  rw [← HW5.out]
  go_loopw [9, 10, 11] (fun x9 x10 x11 wr => ∃ (i : Nat), i ≤ wl + 1 ∧ x11 = .int .i64 (i : Int) ∧ (i ≤ wl → Hid (PlcAt 0 0 wr x9 (runL (autF a) ws i)) ∧ Hid (PlcAt 0 0 wr x10 (runL (autF a) ws i))) ∧ Hid (Below W4.heap.size W4 wr)) (fun _ _ x11 _ => wl + 1 - (intOf x11).toNat)
  case atStart => exact ⟨0, Nat.zero_le _, rfl, fun _ => ⟨HP5, HM5⟩, HB5⟩
  case round =>
    obtain ⟨i, hi, rfl, hPM, HBr⟩ := hrel
    have HBWr : Hid (Below w.heap.size w wr) := below_after HBWW.out HBr.out
    by_cases hiw : i ≤ wl
    case neg =>
      have hg : decide ((i : Int) ≤ (wl : Int)) = false := decide_eq_false (by omega)
      clear hPM
      go_wp2
      go_ret
      exact ⟨rfl, HBWr.out⟩
    case pos =>
    obtain ⟨HPr, HMr⟩ := hPM hiw
    have hg : decide ((i : Int) ≤ (wl : Int)) = true := decide_eq_true (by omega)
    obtain ⟨ua, uc, hue, _⟩ := HPr.out.slice
    obtain ⟨va, vc, hve, _⟩ := HMr.out.slice
    obtain ⟨un, hun⟩ : ∃ n, n = (runL (autF a) ws i).length := ⟨_, rfl⟩
    have HUN : Hid (un = (runL (autF a) ws i).length) := hun
    rw [← hun] at hue hve
    subst hue hve
    have HRL : Hid ((∀ x ∈ runL (autF a) ws i, x ≤ (autF a).sets.length) ∧ (runL (autF a) ws i).length ≤ 1000) := by
      have := run_le HEZ.out ws i (by have := HWL.out; omega)
      rw [show (autF a).sets.length = (setsN a).length from by rw [aut_ok' HEZ.out]; rfl]
      exact this
    have hsm := sameInts_any (upI (runL (autF a) ws i)) (by have := HRL.out.2; simp [upI]; omega) _ _ wr HPr.out.ints HMr.out.ints
    clear hun hPM
    go_upto_region 13 with fail
    go_cut [12] from 33 to 70 (fun s wx => s = .bool true ∧ Hid (Below wr.heap.size wr wx))
    case first =>
      go_wp2_with fail
      refine hsm.mono ?_
      rintro e w6 ⟨rfl, hB6⟩
      have HB6 : Hid (Below wr.heap.size wr w6) := hB6
      clear hsm hB6
      go_wp2
      go_meet
      exact ⟨rfl, HB6⟩
    case rest =>
    obtain ⟨rfl, HBc⟩ := hcut
    obtain ⟨w6, hw6⟩ : ∃ W, W = wc := ⟨_, rfl⟩
    have HB6 : Hid (Below W4.heap.size W4 w6) := by rw [hw6]; exact below_after HBr.out HBc.out
    have HP6 : Hid (PlcAt 0 0 w6 (.slice ua un uc) (runL (autF a) ws i)) := by rw [hw6]; exact HPr.out.below HBc.out
    have HM6 : Hid (PlcAt 0 0 w6 (.slice va un vc) (runL (autF a) ws i)) := by rw [hw6]; exact HMr.out.below HBc.out
    have HBW6 : Hid (Below w.heap.size w w6) := below_after HBWW.out HB6.out
    rw [← hw6]
    clear hw6 HBc HPr HMr HBr HBWr hsm
    obtain ⟨r, hr⟩ : ∃ r, r = (runL (autF a) ws i).any (endP (autF a)) := ⟨_, rfl⟩
    have hlast : (autF a).last.length ≤ 100000 := by
      have h1 := (okA_of HEZ.out).in2.len (Nat.zero_le _)
      have h2 := (okA_of HEZ.out).sets
      omega
    have HEN : Hid (∀ W, Below w6.heap.size w6 W → Calls Tryd.prog 17 #[.agg #[.bool n1, .slice sa sl sc, .slice fa fl fc, .slice la ll lc, .slice xa xl xc], .slice ua un uc] W fun e w' => e = .returned (.bool r) ∧ Below W.heap.size W w') := fun W hb => by
      rw [hr]
      exact end_any (autF a) _ (runL (autF a) ws i) (.slice ua un uc) W ((HAU.out.below HB6.out).below hb) (HP6.out.below hb) (by have := HRL.out.2; omega) hlast
    have HRN : Hid (∀ W, Below w6.heap.size w6 W → Calls Tryd.prog 18 #[.agg #[.bool n1, .slice sa sl sc, .slice fa fl fc, .slice la ll lc, .slice xa xl xc], .slice va un vc] W fun e w' => e = .returned (.bool r) ∧ Below W.heap.size W w') := fun W hb => by
      rw [hr]
      exact rend_any (autF a) _ (runL (autF a) ws i) (.slice va un vc) W ((HAU.out.below HB6.out).below hb) (HM6.out.below hb) (by have := HRL.out.2; omega) hlast
    have HCB : Hid (∀ W, Below w6.heap.size w6 W → (W.cell? ⟨w4.heap.size, 0, none⟩ = some (.bool n1) ∧ W.cell? ⟨w4.heap.size, 1, none⟩ = some (.slice sa sl sc) ∧ W.cell? ⟨w4.heap.size, 2, none⟩ = some (.slice fa fl fc) ∧ W.cell? ⟨w4.heap.size, 3, none⟩ = some (.slice la ll lc) ∧ W.cell? ⟨w4.heap.size, 4, none⟩ = some (.slice xa xl xc))) := fun W hb => by
      have hA := (HA1.out.below HB6.out).below hb
      exact ⟨hA.c0, hA.c1, hA.c2, hA.c3, hA.c4⟩
    clear hr hlast
    obtain ⟨z0, z1, z2, z3, z4⟩ := HCB.out w6 (Below.refl _ _)
    go_upto_region 14 with fail
    go_cut [52] from 33 to 70 (fun s wx => s = .bool false ∧ Hid (Below w6.heap.size w6 wx))
    case first =>
      go_region_held3 (fun W => (W.cell? ⟨w4.heap.size, 0, none⟩ = some (.bool n1) ∧ W.cell? ⟨w4.heap.size, 1, none⟩ = some (.slice sa sl sc) ∧ W.cell? ⟨w4.heap.size, 2, none⟩ = some (.slice fa fl fc) ∧ W.cell? ⟨w4.heap.size, 3, none⟩ = some (.slice la ll lc) ∧ W.cell? ⟨w4.heap.size, 4, none⟩ = some (.slice xa xl xc))) (first | (with_reducible exact HCB.out _ hB8') | (with_reducible exact HCB.out _ hB7') | (with_reducible exact HCB.out _ (Below.refl _ _).drew) | go_keep) (first | (go_at_call 18; (with_reducible refine (HRN.out _ (by first | (with_reducible exact hB7') | (with_reducible exact (Below.refl _ _).drew))).mono ?_); rintro e w8 ⟨rfl, hB8⟩; have hB8' : Below w6.heap.size w6 w8 := (by first | (with_reducible exact below_after hB7' hB8) | (with_reducible exact below_drw hB8))) | (go_at_call 17; (with_reducible refine (HEN.out _ (by first | (with_reducible exact hB8') | (with_reducible exact (Below.refl _ _).drew))).mono ?_); rintro e w7 ⟨rfl, hB7⟩; have hB7' : Below w6.heap.size w6 w7 := (by first | (with_reducible exact below_after hB8' hB7) | (with_reducible exact below_drw hB7))))
      all_goals (
        go_wp2_with fail
        go_meet
        exact ⟨by simp, by first | exact hB8' | exact hB7'⟩)
    case rest =>
    obtain ⟨rfl, HBc⟩ := hcut
    obtain ⟨w7, hw7⟩ : ∃ W, W = wc := ⟨_, rfl⟩
    have HB7 : Hid (Below W4.heap.size W4 w7) := by rw [hw7]; exact below_after HB6.out HBc.out
    have HP7 : Hid (PlcAt 0 0 w7 (.slice ua un uc) (runL (autF a) ws i)) := by rw [hw7]; exact HP6.out.below HBc.out
    have HM7 : Hid (PlcAt 0 0 w7 (.slice va un vc) (runL (autF a) ws i)) := by rw [hw7]; exact HM6.out.below HBc.out
    have HBW7 : Hid (Below w.heap.size w w7) := below_after HBWW.out HB7.out
    rw [← hw7]
    clear hw7 HBc HP6 HM6 HB6 HBW6 HEN HRN HCB z0 z1 z2 z3 z4
    by_cases hil : i < wl
    case neg =>
      have hiw2 : i = wl := by omega
      have hg2 : decide ((i : Int) < (wl : Int)) = false := decide_eq_false (by omega)
      clear hil
      go_wp2
      go_roundw
      case rel => exact ⟨i + 1, by omega, by go_num, (fun h => absurd h (by omega)), HB7⟩
      case measure => simp [intOf]; omega
    case pos =>
    have hin : i < ws.length := by rw [← HWL.out]; exact hil
    obtain ⟨gw, ow, s, hwa, hgw, e1, hs64, HS⟩ : ∃ (gw ow s : Nat), wa = some ⟨gw, ow, none⟩ ∧ gw < w.heap.size ∧ w.cell? ⟨gw, ow + i, none⟩ = some (.int .u64 (s : Int)) ∧ s < 18446744073709551616 ∧ Hid (s = ws[i]) := by
      obtain ⟨wa', wc', e0, _, hx⟩ := HW.out
      obtain ⟨h64, g, off, h1, h2, h3⟩ := hx i hin
      have hq : wa = wa' := by simp at e0; exact e0.1
      exact ⟨g, off, ws[i], by rw [hq]; exact h1, h2, h3, h64, rfl⟩
    subst hwa
    have hwcl : wl ≤ wp := by
      obtain ⟨wa', wc', e0, h2, _⟩ := HW.out
      have := HWL.out
      have hq : wp = wc' := by simp at e0; exact e0.2.2
      omega
    have hi0 : (0 : Int) ≤ (i : Int) := by omega
    have hi1 : (i : Int) < (wl : Int) := by omega
    have HSTP : Hid (∀ W, Below w7.heap.size w7 W → Calls Tryd.prog 19 #[.agg #[.bool n1, .slice sa sl sc, .slice fa fl fc, .slice la ll lc, .slice xa xl xc], .slice ua un uc, .int .u64 (s : Int)] W fun e w' => ∃ v' : Value, (∃ x y z, v' = .slice x y z) ∧ e = .returned v' ∧ PlcAt 0 0 w' v' (runL (autF a) ws (i + 1)) ∧ Below W.heap.size W w') := fun W hb => by
      have := step_any (autF a) _ (runL (autF a) ws i) (.slice ua un uc) s W ((HT.out.below HBW7.out).below hb) ((HAU.out.below HB7.out).below hb) (okA_of HEZ.out) (HP7.out.below hb) HRL.out.1 HRL.out.2 hs64
      rw [HS.out, ← runL_succ _ _ hin, ← HS.out] at this
      exact this.mono fun e w' ⟨v', h1, h2, h3⟩ => ⟨v', own_slice' h2, h1, plc_of_row h2 (Nat.zero_le _), h3⟩
    have HRSTP : Hid (∀ W, Below w7.heap.size w7 W → Calls Tryd.prog 20 #[.agg #[.bool n1, .slice sa sl sc, .slice fa fl fc, .slice la ll lc, .slice xa xl xc], .slice va un vc, .int .u64 (s : Int)] W fun e w' => ∃ v' : Value, (∃ x y z, v' = .slice x y z) ∧ e = .returned v' ∧ PlcAt 0 0 w' v' (runL (autF a) ws (i + 1)) ∧ Below W.heap.size W w') := fun W hb => by
      have := rstep_any (autF a) _ (runL (autF a) ws i) (.slice va un vc) s W ((HAU.out.below HB7.out).below hb) (okA_of HEZ.out) (HM7.out.below hb) HRL.out.1 HRL.out.2 hs64
      rw [HS.out, ← runL_succ _ _ hin, ← HS.out] at this
      exact this.mono fun e w' ⟨v', h1, h2, h3⟩ => ⟨v', own_slice' h2, h1, plc_of_row h2 (Nat.zero_le _), h3⟩
    have HCB : Hid (∀ W, Below w7.heap.size w7 W → (W.cell? ⟨w4.heap.size, 0, none⟩ = some (.bool n1) ∧ W.cell? ⟨w4.heap.size, 1, none⟩ = some (.slice sa sl sc) ∧ W.cell? ⟨w4.heap.size, 2, none⟩ = some (.slice fa fl fc) ∧ W.cell? ⟨w4.heap.size, 3, none⟩ = some (.slice la ll lc) ∧ W.cell? ⟨w4.heap.size, 4, none⟩ = some (.slice xa xl xc)) ∧ W.cell? ⟨gw, ow + i, none⟩ = some (.int .u64 (s : Int)) ∧ w4.heap.size < W.heap.size ∧ gw < W.heap.size) := fun W hb => by
      have hA := (HA1.out.below HB7.out).below hb
      have hb2 := below_after HBW7.out hb
      exact ⟨⟨hA.c0, hA.c1, hA.c2, hA.c3, hA.c4⟩, (hb2.cell (p := ⟨gw, _, none⟩) hgw).trans e1, hA.lt, Nat.lt_of_lt_of_le hgw hb2.size⟩
    obtain ⟨⟨z0, z1, z2, z3, z4⟩, z5, z6, z7⟩ := HCB.out w7 (Below.refl _ _)
    clear hs64 e1 HP7 HM7
    go_upto_region 17 with fail
    go_cut [9] from 33 to 70 (fun s wx => Hid ((∃ x y z, s = .slice x y z) ∧ PlcAt 0 0 wx s (runL (autF a) ws (i + 1)) ∧ Below w7.heap.size w7 wx))
    case first =>
      go_region_law (go_simp; (with_reducible refine (HSTP.out _ (Below.refl _ _).drew).mono ?_); rintro e w8 ⟨v8, ⟨_, _, _, rfl⟩, rfl, hP8, hB8⟩; try dsimp only)
      all_goals (
        go_wp2_with fail
        go_meet
        exact ⟨⟨_, _, _, rfl⟩, hP8, below_drw hB8⟩)
    case rest =>
    obtain ⟨⟨ta, tn, tc, rfl⟩, hP8, hB8⟩ := hcut.out
    obtain ⟨w8, hw8⟩ : ∃ W, W = wc := ⟨_, rfl⟩
    rw [← hw8] at hP8 hB8 ⊢
    have HP8 : Hid (PlcAt 0 0 w8 (.slice ta tn tc) (runL (autF a) ws (i + 1))) := hP8
    have HB8 : Hid (Below w7.heap.size w7 w8) := hB8
    have hR8 := HRSTP.out w8.drew hB8.drew
    clear hcut hP8 hB8 hw8 z0 z1 z2 z3 z4 z5 z6 z7
    obtain ⟨⟨z0, z1, z2, z3, z4⟩, z5, z6, z7⟩ := HCB.out w8 HB8.out
    go_wp2
    go_region_law (go_simp; (with_reducible refine hR8.mono ?_); rintro e w9 ⟨v9, ⟨_, _, _, rfl⟩, rfl, hP9, hB9⟩; try dsimp only)
    all_goals (
      have HM9 : Hid (PlcAt 0 0 w9 _ (runL (autF a) ws (i + 1))) := hP9
      have HP9 : Hid (PlcAt 0 0 w9 (.slice ta tn tc) (runL (autF a) ws (i + 1))) := HP8.out.below (below_drw hB9)
      have HB9 : Hid (Below W4.heap.size W4 w9) := below_after HB7.out (below_after HB8.out (below_drw hB9))
      clear hR8 hP9 hB9
      go_wp2
      go_roundw
      case rel => exact ⟨i + 1, by omega, by go_num, (fun _ => ⟨HP9, HM9⟩), HB9⟩
      case measure => simp [intOf]; omega)
end Go.Proofs.YtehkaiohmcenbaaDoor
