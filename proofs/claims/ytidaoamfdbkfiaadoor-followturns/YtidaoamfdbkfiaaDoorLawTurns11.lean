/-
  scansionlaw11.FollowTurns.
-/
import Derived.Test.YtidaoamfdbkfiaaDoorFlLaw
import Derived.Test.YtidaoamfdbkfiaaDoorFlCnt
import Derived.Test.YtidaoamfdbkfiaaDoorFlTurnR
namespace Go.Proofs.YtidaoamfdbkfiaaDoor
open Go.RowKit Go.Shelf
set_option linter.unusedVariables false

theorem sumF_succ {n : Nd} {i : Nat} (h : i < (folN n).length) : sumF n (i + 1) = sumF n i + (folN n)[i].length := by
  unfold sumF
  rw [List.take_add_one, List.getElem?_eq_getElem h, List.map_append, List.sum_append]
  simp only [Option.toList_some, List.map_cons, List.map_nil, List.sum_cons, List.sum_nil, Nat.add_zero]
theorem folN_le {n : Nd} {i : Nat} (h : i < (folN n).length) : (folN n)[i].length ≤ (setsN n).length + 1 := by
  have e : (folN n)[i] = rgF (fol (prtN n 0).notes (i + 1)) ((setsN n).length + 1) := by simp [folN]
  rw [e]; exact rgF_len _ _
theorem sumF_le (n : Nd) : ∀ i, i ≤ (folN n).length → sumF n i ≤ i * ((setsN n).length + 1)
  | 0, _ => by simp [sumF]
  | i + 1, h => by
    rw [sumF_succ (by omega), Nat.add_mul]
    have := sumF_le n i (by omega)
    have := folN_le (n := n) (i := i) (by omega)
    omega

set_option maxRecDepth 100000 in
set_option maxHeartbeats 32000000 in
theorem followTurns_any (a : Nd) (za : Value) (w : World) (hT : TabW w) (ha : KdX (fun k => k < w.heap.size) w za a.kids) :
    Calls Tryd.prog 7 #[ndV a za] w fun e w' => e = .returned (.bool true) ∧ Below w.heap.size w w' := by
  obtain ⟨na, ca, rfl, _⟩ := ha.slice
  obtain ⟨W0, hW0⟩ : ∃ W, W = w.alloc (.cells #[.int .i64 a.k, .int .i64 a.s, .slice na a.kids.length ca] 24) := ⟨_, rfl⟩
  have hB0 : Below w.heap.size w W0 := by rw [hW0]; exact below_alloc _ _
  have hbA : Box W0 w.heap.size a.k a.s (.slice na a.kids.length ca) := by rw [hW0]; exact box_new _ _ _ _
  have HA : Hid (KdX (fun k => k < w.heap.size) w (.slice na a.kids.length ca) a.kids) := ha
  have HT : Hid (TabW w) := hT
  have HFA : Hid (∀ W, Below w.heap.size w W → Calls Tryd.prog 13 #[ndV a (.slice na a.kids.length ca), .slice none 0 0] W fun e w' => ∃ b, e = .returned (.bool b) ∧ (b = true → Dp 40 a.kids ∧ (setsN a).length ≤ 700 ∧ 0 ≤ 30) ∧ Below W.heap.size W w') := fun W h => few_any a _ none 0 0 W (kdx_below ha h)
  unfold ndV at HFA ⊢
  obtain ⟨ak, hak⟩ : ∃ x, x = a.k := ⟨_, rfl⟩
  obtain ⟨as1, has1⟩ : ∃ x, x = a.s := ⟨_, rfl⟩
  obtain ⟨al, hal⟩ : ∃ x, x = a.kids.length := ⟨_, rfl⟩
  have HNA : Hid (ak = a.k ∧ as1 = a.s ∧ al = a.kids.length) := ⟨hak, has1, hal⟩
  rw [← hak, ← has1, ← hal] at HFA hbA hW0 ⊢
  rw [← hal] at HA
  have HB0 : Hid (Below w.heap.size w W0) := hB0
  have HBA : Hid (Box W0 w.heap.size ak as1 (.slice na al ca)) := hbA
  have haw := awake_any W0 (hT.below hB0)
  have HBD : Hid (∀ W, Dp 40 a.kids → (setsN a).length ≤ 700 → Below w.heap.size w W → Calls Tryd.prog 10 #[.agg #[.int .i64 ak, .int .i64 as1, .slice na al ca]] W (BldA a W)) := fun W hd hs hb => by
    rw [HNA.out.1, HNA.out.2.1, HNA.out.2.2]
    exact build_any 40 (by omega) a na ca W (HT.out.below hb) hd (by omega) (kdx_below ha hb)
  rw [hW0] at haw
  clear hak has1 hal ha hB0 hbA hT
  go_enter Tryd.func7, Tryd.ntmps7
  go_wp2_with fail
  refine haw.mono ?_
  rintro e w1 ⟨rfl, hB1⟩
  rw [← hW0] at hB1
  have HB1 : Hid (Below W0.heap.size W0 w1) := hB1
  obtain ⟨a0, a1, a2⟩ : _ ∧ _ ∧ _ := ⟨(HBA.out.below hB1).c0, (HBA.out.below hB1).c1, (HBA.out.below hB1).c2⟩
  have hf1 := HFA.out w1 (below_after HB0.out hB1)
  clear haw hB1 hW0
  go_wp2_with fail
  refine hf1.mono ?_
  rintro e w3 ⟨ok1, rfl, ho1, hB3⟩
  have HB3 : Hid (Below W0.heap.size W0 w3) := below_after HB1.out hB3
  have HO1 : Hid (ok1 = true → Dp 40 a.kids ∧ (setsN a).length ≤ 700 ∧ 0 ≤ 30) := fun h => (by have := ho1 h; exact this)
  have HBW3 : Hid (Below w.heap.size w w3) := below_after HB0.out HB3.out
  clear hf1 hB3 a0 a1 a2 ho1
  cases ok1 with
  | false =>
    go_wp2
    go_ret
    exact ⟨rfl, HBW3.out⟩
  | true =>
  have HDA : Hid (Dp 40 a.kids) := (HO1.out rfl).1
  have HSA : Hid ((setsN a).length ≤ 700) := (HO1.out rfl).2.1
  obtain ⟨a0, a1, a2⟩ : _ ∧ _ ∧ _ := ⟨(HBA.out.below HB3.out).c0, (HBA.out.below HB3.out).c1, (HBA.out.below HB3.out).c2⟩
  have hlt1 : w.heap.size < w3.heap.size := (HBA.out.below HB3.out).lt
  clear HO1
  have hbd := HBD.out w3 HDA.out HSA.out HBW3.out
  go_wp2_with fail
  refine hbd.mono ?_
  rintro e w4 ⟨av, rfl, ⟨sv, fv, lv, wv, rfl, hs, hf, hl, hw⟩, hB4⟩
  obtain ⟨sa, sc, hes, _⟩ := hs.slice
  obtain ⟨fa, fc, hef, _⟩ := hf.slice
  obtain ⟨la, lc, hel, _⟩ := hl.slice
  obtain ⟨xa, xc, hex, hxc⟩ := hw.slice
  subst hes hef hel hex
  obtain ⟨er, her⟩ : ∃ x, x = errF a := ⟨_, rfl⟩
  obtain ⟨n1, hn1⟩ : ∃ x, x = (autF a).null := ⟨_, rfl⟩
  obtain ⟨sl, hsl⟩ : ∃ x, x = (autF a).sets.length := ⟨_, rfl⟩
  obtain ⟨fl, hfl⟩ : ∃ x, x = (autF a).first.length := ⟨_, rfl⟩
  obtain ⟨ll, hll⟩ : ∃ x, x = (autF a).last.length := ⟨_, rfl⟩
  obtain ⟨xl, hxl⟩ : ∃ x, x = (autF a).fol.length := ⟨_, rfl⟩
  rw [← hn1, ← hsl, ← hfl, ← hll, ← hxl, ← her]
  have HF4 : Hid (FolAt w4 (.slice xa xl xc) (autF a).fol) := by rw [hxl]; exact hw
  have HXC : Hid (xl ≤ xc) := by rw [hxl]; exact hxc
  have HE1 : Hid (er = errF a ∧ n1 = (autF a).null ∧ sl = (autF a).sets.length ∧ fl = (autF a).first.length ∧ ll = (autF a).last.length ∧ xl = (autF a).fol.length) := ⟨her, hn1, hsl, hfl, hll, hxl⟩
  obtain ⟨W4, hW4⟩ : ∃ W, W = w4.alloc (.cells #[.bool n1, .slice sa sl sc, .slice fa fl fc, .slice la ll lc, .slice xa xl xc] 30) := ⟨_, rfl⟩
  have hBW : Below w4.heap.size w4 W4 := by rw [hW4]; exact below_alloc _ _
  have HA1 : Hid (ABox W4 w4.heap.size n1 (.slice sa sl sc) (.slice fa fl fc) (.slice la ll lc) (.slice xa xl xc)) := by rw [hW4]; exact heap_new' _ _
  have HBW4 : Hid (Below w.heap.size w W4) := below_after HBW3.out (below_after hB4 hBW)
  have HX4 : Hid (Box W4 w.heap.size ak as1 (.slice na al ca)) := ((HBA.out.below HB3.out).below hB4).below hBW
  have HF5 : Hid (FolAt W4 (.slice xa xl xc) (autF a).fol) := HF4.out.below hBW
  have b0 := HX4.out.c0
  have b1 := HX4.out.c1
  have b2 := HX4.out.c2
  have hlt4 := HX4.out.lt
  have htn : Calls Tryd.prog 21 #[.agg #[.int .i64 ak, .int .i64 as1, .slice na al ca]] W4 (TurnA a W4) := by
    rw [HNA.out.1, HNA.out.2.1]
    exact refTurn_any 40 a _ W4 HDA.out (kdx_below HA.out HBW4.out)
  have HW4 : Hid (W4 = _) := hW4
  rw [hW4] at b0 b1 b2 hlt4 htn
  clear hbd hs hf hl hw hB4 hBW hW4 hn1 hsl hfl hll hxl her hxc a0 a1 a2
  go_wp2_with fail
  refine htn.mono ?_
  rintro e w5 ⟨z5, rfl, hk5, hB5⟩
  rw [← HW4.out] at hB5
  rw [← HW4.out] at hk5
  have hkb : KdX (fun k => k < w5.heap.size) w5 z5 (turnN a).kids := hk5.to (fun k hk => ⟨rfl, by omega⟩)
  obtain ⟨ta, tc, het, _⟩ := hkb.slice
  obtain ⟨tl, htl⟩ : ∃ x, x = (turnN a).kids.length := ⟨_, rfl⟩
  subst het
  have hbd2 : Calls Tryd.prog 10 #[.agg #[.int .i64 ak, .int .i64 as1, .slice ta tl tc]] w5 (BldA (turnN a) w5) := by
    rw [HNA.out.1, HNA.out.2.1, htl, ← turnN_k a, ← turnN_s a]
    exact build_any 40 (by omega) (turnN a) ta tc w5 (HT.out.below (below_after HBW4.out hB5)) (dp_turn HDA.out) (by rw [sets_turn]; have := HSA.out; omega) hkb
  have HA2 : Hid (ABox w5 w4.heap.size n1 (.slice sa sl sc) (.slice fa fl fc) (.slice la ll lc) (.slice xa xl xc)) := HA1.out.below hB5
  have HF6 : Hid (FolAt w5 (.slice xa xl xc) (autF a).fol) := HF5.out.below hB5
  have HBW5 : Hid (Below w.heap.size w w5) := below_after HBW4.out hB5
  rw [← htl]
  rw [← HNA.out.1, ← HNA.out.2.1]
  clear htn hk5 hB5 hkb htl b0 b1 b2 hlt4
  go_wp2_with fail
  refine hbd2.mono ?_
  rintro e w6 ⟨av2, rfl, ⟨sv2, fv2, lv2, wv2, rfl, hs, hf, hl, hw⟩, hB6⟩
  obtain ⟨sa2, sc2, hes, _⟩ := hs.slice
  obtain ⟨fa2, fc2, hef, _⟩ := hf.slice
  obtain ⟨la2, lc2, hel, _⟩ := hl.slice
  obtain ⟨xa2, xc2, hex, hxc2⟩ := hw.slice
  subst hes hef hel hex
  have HXC2 : Hid ((autF (turnN a)).fol.length ≤ xc2) := hxc2
  have HF7 : Hid (FolAt w6 (.slice xa2 (autF (turnN a)).fol.length xc2) (autF (turnN a)).fol) := hw
  have HA3 : Hid (ABox w6 w4.heap.size n1 (.slice sa sl sc) (.slice fa fl fc) (.slice la ll lc) (.slice xa xl xc)) := HA2.out.below hB6
  have HF8 : Hid (FolAt w6 (.slice xa xl xc) (autF a).fol) := HF6.out.below hB6
  have HBW6 : Hid (Below w.heap.size w w6) := below_after HBW5.out hB6
  have hee : errF (turnN a) = er := by rw [err_turn]; exact HE1.out.1.symm
  rw [hee]
  obtain ⟨n2, hn2⟩ : ∃ x, x = (autF (turnN a)).null := ⟨_, rfl⟩
  obtain ⟨sl2, hsl2⟩ : ∃ x, x = (autF (turnN a)).sets.length := ⟨_, rfl⟩
  obtain ⟨fl2, hfl2⟩ : ∃ x, x = (autF (turnN a)).first.length := ⟨_, rfl⟩
  obtain ⟨ll2, hll2⟩ : ∃ x, x = (autF (turnN a)).last.length := ⟨_, rfl⟩
  obtain ⟨xl2, hxl2⟩ : ∃ x, x = (autF (turnN a)).fol.length := ⟨_, rfl⟩
  rw [← hn2, ← hsl2, ← hfl2, ← hll2, ← hxl2]
  rw [← hxl2] at HXC2 HF7
  have HE2 : Hid (n2 = (autF (turnN a)).null ∧ sl2 = (autF (turnN a)).sets.length ∧ fl2 = (autF (turnN a)).first.length ∧ ll2 = (autF (turnN a)).last.length ∧ xl2 = (autF (turnN a)).fol.length) := ⟨hn2, hsl2, hfl2, hll2, hxl2⟩
  clear hbd2 hs hf hl hw hB6 hn2 hsl2 hfl2 hll2 hxl2 hxc2 hee
  by_cases he : er = 0
  case neg =>
    have hne : (er != 0) = true := by simpa using he
    have hne2 : ¬ er = 0 := he
    go_wp2
    go_ret
    exact ⟨by simp, HBW6.out.alloc HBW6.out.size _⟩
  case pos =>
  subst he
  have hez : errF a = 0 := HE1.out.1.symm
  have htc := turn_counts hez
  have hfa : (autF a).fol = folN a := by unfold autF; rw [if_pos hez]; rfl
  have hft : (autF (turnN a)).fol = folN (turnN a) := by unfold autF; rw [err_turn, if_pos hez]; rfl
  have hsa : (autF a).sets = setsN a := by unfold autF; rw [if_pos hez]; rfl
  obtain rfl : n2 = n1 := by rw [HE2.out.1, HE1.out.2.1]; exact htc.1
  obtain rfl : sl2 = sl := by rw [HE2.out.2.1, HE1.out.2.2.1]; exact htc.2.1
  obtain rfl : fl2 = ll := by rw [HE2.out.2.2.1, HE1.out.2.2.2.2.1]; exact htc.2.2.1
  obtain rfl : ll2 = fl := by rw [HE2.out.2.2.2.1, HE1.out.2.2.2.1]; exact htc.2.2.2.1
  have hxs : xl = (setsN a).length := by rw [HE1.out.2.2.2.2.2, hfa, folN_len]
  have hxt : xl2 = xl := by rw [HE2.out.2.2.2.2, hft, folN_len, sets_turn, hxs]
  subst hxt
  rw [hfa] at HF8
  rw [hft] at HF7
  have HXS : Hid (xl2 = (setsN a).length) := hxs
  have hx700 : xl2 ≤ 700 := by have := HSA.out; omega
  have HSUM : Hid (sumF (turnN a) xl2 = sumF a xl2) := by rw [hxs]; exact htc.2.2.2.2
  have HBA1 : Hid (∀ i, i ≤ xl2 → sumF a i ≤ 700 * 701) := fun i hi => by
    have h1 := sumF_le a i (by rw [folN_len, ← HXS.out]; exact hi)
    have h2 : i * ((setsN a).length + 1) ≤ 700 * 701 := Nat.mul_le_mul (by omega) (by have := HSA.out; omega)
    omega
  have HBA2 : Hid (∀ i, i ≤ xl2 → sumF (turnN a) i ≤ 700 * 701) := fun i hi => by
    have h1 := sumF_le (turnN a) i (by rw [folN_len, sets_turn, ← HXS.out]; exact hi)
    rw [sets_turn] at h1
    have h2 : i * ((setsN a).length + 1) ≤ 700 * 701 := Nat.mul_le_mul (by omega) (by have := HSA.out; omega)
    omega
  obtain ⟨W6, hW6⟩ : ∃ W, W = w6.alloc (.cells #[.bool n2, .slice sa2 sl2 sc2, .slice fa2 fl2 fc2, .slice la2 ll2 lc2, .slice xa2 xl2 xc2] 30) := ⟨_, rfl⟩
  have hB7 : Below w6.heap.size w6 W6 := by rw [hW6]; exact below_alloc _ _
  have hA4 : ABox W6 w4.heap.size n2 (.slice sa sl2 sc) (.slice fa ll2 fc) (.slice la fl2 lc) (.slice xa xl2 xc) := HA3.out.below hB7
  have hA5 : ABox W6 w6.heap.size n2 (.slice sa2 sl2 sc2) (.slice fa2 fl2 fc2) (.slice la2 ll2 lc2) (.slice xa2 xl2 xc2) := by rw [hW6]; exact heap_new' _ _
  have HG1 : Hid (FolAt W6 (.slice xa xl2 xc) (folN a)) := HF8.out.below hB7
  have HG2 : Hid (FolAt W6 (.slice xa2 xl2 xc2) (folN (turnN a))) := HF7.out.below hB7
  have HBW7 : Hid (Below w.heap.size w W6) := below_after HBW6.out hB7
  have HW6 : Hid (W6 = _) := hW6
  have c0 := hA4.c0
  have c1' := hA4.c1
  have c2' := hA4.c2
  have c3 := hA4.c3
  have c4 := hA4.c4
  have d0 := hA5.c0
  have d1 := hA5.c1
  have d2 := hA5.c2
  have d3 := hA5.c3
  have d4 := hA5.c4
  have hl4 := hA4.lt
  have hl5 := hA5.lt
  clear htc hez hfa hft hsa hxs hB7 hA4 hA5 hW6
  go_upto_region 9 with fail
  rw [← HW6.out]
  go_wp2
  go_loopw [9, 10, 11] (fun x9 x10 x11 wr => ∃ (i : Nat), i ≤ xl2 ∧ x9 = .int .i64 (sumF a i : Int) ∧ x10 = .int .i64 (sumF (turnN a) i : Int) ∧ x11 = .int .i64 (i : Int) ∧ wr = W6) (fun _ _ x11 _ => xl2 - (intOf x11).toNat)
  case atStart => exact ⟨0, Nat.zero_le _, rfl, rfl, rfl, rfl⟩
  case round =>
    obtain ⟨i, hi, rfl, rfl, rfl, hwr⟩ := hrel
    have hwr' := hwr.symm
    subst hwr'
    by_cases hil : i < xl2
    · have hia : i < (folN a).length := by rw [folN_len, ← HXS.out]; exact hil
      have hit : i < (folN (turnN a)).length := by rw [folN_len, sets_turn, ← HXS.out]; exact hil
      obtain ⟨ga, oa, va, rfl, hga, e1, p1⟩ := HG1.out.at hia
      obtain ⟨gb, ob, vb, rfl, hgb, e2, p2⟩ := HG2.out.at hit
      obtain ⟨ya, yc, hey, _⟩ := p1.slice
      obtain ⟨za, zc, hez, _⟩ := p2.slice
      subst hey hez
      obtain ⟨N1, hN1⟩ : ∃ x, x = (folN a)[i].length := ⟨_, rfl⟩
      obtain ⟨N2, hN2⟩ : ∃ x, x = (folN (turnN a))[i].length := ⟨_, rfl⟩
      rw [← hN1] at e1
      rw [← hN2] at e2
      obtain ⟨S1, hS1⟩ : ∃ x, x = sumF a i := ⟨_, rfl⟩
      obtain ⟨S2, hS2⟩ : ∃ x, x = sumF (turnN a) i := ⟨_, rfl⟩
      have HQ : Hid (sumF a (i + 1) = S1 + N1 ∧ sumF (turnN a) (i + 1) = S2 + N2) := ⟨by rw [sumF_succ hia, hS1, hN1], by rw [sumF_succ hit, hS2, hN2]⟩
      have hb1 : S1 + N1 ≤ 700 * 701 := by have h1 := HQ.out.1; have h2 := HBA1.out (i + 1) hil; omega
      have hb2 : S2 + N2 ≤ 700 * 701 := by have h1 := HQ.out.2; have h2 := HBA2.out (i + 1) hil; omega
      rw [← hS1, ← hS2]
      have hi0 : (0 : Int) ≤ (i : Int) := by omega
      have hi1 : (i : Int) < (xl2 : Int) := by omega
      have hx1 := HXC.out
      have hx2 := HXC2.out
      clear hN1 hN2 hS1 hS2 p1 p2
      go_wp2
      go_roundw
      case rel => exact ⟨i + 1, by omega, by rw [HQ.out.1]; go_num, by rw [HQ.out.2]; go_num, by go_num, by first | exact rfl | trivial⟩
      case measure => simp [intOf]; omega
    · obtain rfl : i = xl2 := by omega
      rw [HSUM.out]
      go_wp2
      go_ret
      exact ⟨by simp, HBW7.out⟩
end Go.Proofs.YtidaoamfdbkfiaaDoor
