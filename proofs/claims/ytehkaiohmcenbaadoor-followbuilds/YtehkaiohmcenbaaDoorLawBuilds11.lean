/-
  scansionlaw11.FollowBuilds.
-/
import Derived.Test.YtehkaiohmcenbaaDoorFlSame
import Derived.Test.YtehkaiohmcenbaaDoorFlRBuild
namespace Go.Proofs.YtehkaiohmcenbaaDoor
open Go.RowKit Go.Shelf
set_option linter.unusedVariables false

theorem aut_len (n : Nd) (hs : (setsN n).length ≤ 700) : (autF n).sets.length ≤ 1000 ∧ (autF n).first.length ≤ 1000 ∧ (autF n).last.length ≤ 1000 ∧ (autF n).fol.length ≤ 1000 ∧ ∀ x ∈ (autF n).fol, x.length ≤ 1000 := by
  by_cases hE : errF n = 0
  · have e : autF n = autN n := by unfold autF; rw [if_pos hE]
    have hr : rightN n = true := by
      cases hr : rightN n with
      | true => rfl
      | false => rw [errF_bad hr] at hE; cases hE
    have hg := gd_all n hr 0
    have h1 := hg.1.first.len (Nat.zero_le _)
    have h2 := hg.1.last.len (Nat.zero_le _)
    have h3 := hg.2
    rw [e]
    refine ⟨by show (setsN n).length ≤ _; omega, by show (prtN n 0).first.length ≤ _; omega, by show (prtN n 0).last.length ≤ _; omega, by show (folN n).length ≤ _; simp [folN]; omega, fun x hx => ?_⟩
    obtain ⟨i, _, rfl⟩ := List.mem_map.1 (show x ∈ folN n from hx)
    have := rgF_len (fol (prtN n 0).notes (i + 1)) ((setsN n).length + 1)
    omega
  · have e : autF n = autZ := by unfold autF; rw [if_neg hE]
    rw [e]
    exact ⟨Nat.zero_le _, Nat.zero_le _, Nat.zero_le _, Nat.zero_le _, fun x hx => (by cases hx)⟩

set_option maxRecDepth 100000 in
set_option maxHeartbeats 32000000 in
theorem followBuilds_any (a : Nd) (za : Value) (w : World) (hT : TabW w) (ha : KdX (fun k => k < w.heap.size) w za a.kids) :
    Calls Tryd.prog 3 #[ndV a za] w fun e w' => e = .returned (.bool true) ∧ Below w.heap.size w w' := by
  obtain ⟨xa, ca, rfl, _⟩ := ha.slice
  obtain ⟨W0, hW0⟩ : ∃ W, W = w.alloc (.cells #[.int .i64 a.k, .int .i64 a.s, .slice xa a.kids.length ca] 24) := ⟨_, rfl⟩
  have hB0 : Below w.heap.size w W0 := by rw [hW0]; exact below_alloc _ _
  have hbA : Box W0 w.heap.size a.k a.s (.slice xa a.kids.length ca) := by rw [hW0]; exact box_new _ _ _ _
  have HA : Hid (KdX (fun k => k < w.heap.size) w (.slice xa a.kids.length ca) a.kids) := ha
  have HT : Hid (TabW w) := hT
  have HFA : Hid (∀ W, Below w.heap.size w W → Calls Tryd.prog 10 #[ndV a (.slice xa a.kids.length ca), .int .i64 700, .int .i64 40] W fun e w' => ∃ r : Nat, e = .returned (.int .i64 (r : Int)) ∧ 1 ≤ r ∧ r ≤ 700 ∧ (r < 700 → DpS 40 a r) ∧ Below W.heap.size W w') := fun W h => nodes_any 40 a _ 700 W (by omega) (by omega) (by omega) (kdx_below ha h)
  unfold ndV at HFA ⊢
  obtain ⟨ak, hak⟩ : ∃ x, x = a.k := ⟨_, rfl⟩
  obtain ⟨as1, has1⟩ : ∃ x, x = a.s := ⟨_, rfl⟩
  obtain ⟨al, hal⟩ : ∃ x, x = a.kids.length := ⟨_, rfl⟩
  have HNA : Hid (ak = a.k ∧ as1 = a.s ∧ al = a.kids.length) := ⟨hak, has1, hal⟩
  rw [← hak, ← has1, ← hal] at HFA hbA hW0 ⊢
  rw [← hal] at HA
  have HB0 : Hid (Below w.heap.size w W0) := hB0
  have HBA : Hid (Box W0 w.heap.size ak as1 (.slice xa al ca)) := hbA
  have haw := awake_any W0 (hT.below hB0)
  have HBD : Hid (∀ W, Dp 40 a.kids → (setsN a).length ≤ 700 → Below w.heap.size w W → Calls Tryd.prog 11 #[.agg #[.int .i64 ak, .int .i64 as1, .slice xa al ca]] W (BldA a W)) := fun W hd hs hb => by
    rw [HNA.out.1, HNA.out.2.1, HNA.out.2.2]
    exact build_any 40 (by omega) a xa ca W (HT.out.below hb) hd (by omega) (kdx_below ha hb)
  rw [hW0] at haw
  clear hak has1 hal ha hB0 hbA hT
  go_enter Tryd.func3, Tryd.ntmps3
  go_wp2_with fail
  refine haw.mono ?_
  rintro e w1 ⟨rfl, hB1⟩
  rw [← hW0] at hB1
  have HB1 : Hid (Below W0.heap.size W0 w1) := hB1
  obtain ⟨a0, a1, a2⟩ : _ ∧ _ ∧ _ := ⟨(HBA.out.below hB1).c0, (HBA.out.below hB1).c1, (HBA.out.below hB1).c2⟩
  have hf1 := HFA.out w1 (below_after HB0.out hB1)
  clear haw hB1 hW0
  go_wp2_with fail
  refine hf1.mono ?_
  rintro e w3 ⟨r, rfl, hr1, hr2, hr3, hB3⟩
  have HB3 : Hid (Below W0.heap.size W0 w3) := below_after HB1.out hB3
  have HO1 : Hid (r < 700 → DpS 40 a r) := hr3
  have HBW3 : Hid (Below w.heap.size w w3) := below_after HB0.out HB3.out
  clear hf1 hB3 a0 a1 a2 hr3
  by_cases hr : r < 700
  case neg =>
    have hg : decide ((r : Int) ≥ 700) = true := decide_eq_true (by omega)
    go_wp2
    go_ret
    exact ⟨rfl, HBW3.out⟩
  case pos =>
  have hg : decide ((r : Int) ≥ 700) = false := decide_eq_false (by omega)
  have HDA : Hid (Dp 40 a.kids) := (HO1.out hr).1
  have HSA : Hid ((setsN a).length ≤ 700) := by
    have := sets_sz 40 a (HO1.out hr).1
    rw [(HO1.out hr).2] at this
    show _ ≤ _
    omega
  obtain ⟨a0, a1, a2⟩ : _ ∧ _ ∧ _ := ⟨(HBA.out.below HB3.out).c0, (HBA.out.below HB3.out).c1, (HBA.out.below HB3.out).c2⟩
  have hlt1 : w.heap.size < w3.heap.size := (HBA.out.below HB3.out).lt
  clear HO1
  have hbd := HBD.out w3 HDA.out HSA.out HBW3.out
  have HRB : Hid (∀ W, Below w.heap.size w W → Calls Tryd.prog 12 #[.agg #[.int .i64 ak, .int .i64 as1, .slice xa al ca]] W (BldA a W)) := fun W hb => by
    rw [HNA.out.1, HNA.out.2.1, HNA.out.2.2]
    have hk := HA.out
    rw [HNA.out.2.2] at hk
    exact rbuild_any 40 a xa ca W HDA.out (kdx_below hk hb)
  have HAL : Hid _ := aut_len a HSA.out
  obtain ⟨er, her⟩ : ∃ x, x = errF a := ⟨_, rfl⟩
  unfold BldA at hbd HRB
  rw [← her] at hbd HRB
  clear her
  go_wp2_with fail
  refine hbd.mono ?_
  rintro e w4 ⟨av, rfl, hat, hB4⟩
  obtain ⟨sv, fv, lv, wv, rfl, hs, hf, hl, hw⟩ := hat
  obtain ⟨sa, sc, hes, _⟩ := hs.slice
  obtain ⟨fa, fc, hef, _⟩ := hf.ints.slice
  obtain ⟨la, lc, hel, _⟩ := hl.ints.slice
  obtain ⟨wa, wc', hex, _⟩ := hw.slice
  subst hes hef hel hex
  obtain ⟨n1, hn1⟩ : ∃ x, x = (autF a).null := ⟨_, rfl⟩
  obtain ⟨s1, hs1⟩ : ∃ x, x = (autF a).sets.length := ⟨_, rfl⟩
  obtain ⟨f1, hf1⟩ : ∃ x, x = (upI (autF a).first).length := ⟨_, rfl⟩
  obtain ⟨l1, hl1⟩ : ∃ x, x = (upI (autF a).last).length := ⟨_, rfl⟩
  obtain ⟨x1, hx1⟩ : ∃ x, x = (autF a).fol.length := ⟨_, rfl⟩
  have hat : AutAt w4 (.agg #[.bool (autF a).null, .slice sa (autF a).sets.length sc, .slice fa (upI (autF a).first).length fc, .slice la (upI (autF a).last).length lc, .slice wa (autF a).fol.length wc']) (autF a) := ⟨_, _, _, _, rfl, hs, hf, hl, hw⟩
  rw [← hn1, ← hs1, ← hf1, ← hl1, ← hx1] at hat ⊢
  obtain ⟨W4, hW4⟩ : ∃ W, W = w4.alloc (.cells #[.bool n1, .slice sa s1 sc, .slice fa f1 fc, .slice la l1 lc, .slice wa x1 wc'] 30) := ⟨_, rfl⟩
  have hB5 : Below w4.heap.size w4 W4 := by rw [hW4]; exact below_alloc _ _
  have HBW4 : Hid (Below w.heap.size w W4) := below_after (below_after HBW3.out hB4) hB5
  have HAT4 : Hid (AutAt W4 (.agg #[.bool n1, .slice sa s1 sc, .slice fa f1 fc, .slice la l1 lc, .slice wa x1 wc']) (autF a)) := hat.below hB5
  have HBX4 : Hid (ABox W4 w4.heap.size n1 (.slice sa s1 sc) (.slice fa f1 fc) (.slice la l1 lc) (.slice wa x1 wc')) := by rw [hW4]; exact heap_new' _ _
  obtain ⟨b0, b1, b2⟩ : _ ∧ _ ∧ _ := ⟨((HBA.out.below HB3.out).below (below_after hB4 hB5)).c0, ((HBA.out.below HB3.out).below (below_after hB4 hB5)).c1, ((HBA.out.below HB3.out).below (below_after hB4 hB5)).c2⟩
  have hlt4 : w.heap.size < W4.heap.size := ((HBA.out.below HB3.out).below (below_after hB4 hB5)).lt
  have hrb := HRB.out W4 HBW4.out
  have HW4 : Hid (W4 = _) := hW4
  clear hbd hs hf hl hw hat hB4 hB5 hn1 hs1 hf1 hl1 hx1 a0 a1 a2 hW4
  go_upto_region 5 with fail
  rw [← HW4.out]
  clear HW4
  go_wp2_with fail
  refine hrb.mono ?_
  rintro e w5 ⟨av, rfl, hat, hB6⟩
  obtain ⟨sv, fv, lv, wv, rfl, hs, hf, hl, hw⟩ := hat
  obtain ⟨sa2, sc2, hes, _⟩ := hs.slice
  obtain ⟨fa2, fc2, hef, _⟩ := hf.ints.slice
  obtain ⟨la2, lc2, hel, _⟩ := hl.ints.slice
  obtain ⟨wa2, wc2, hex, _⟩ := hw.slice
  subst hes hef hel hex
  obtain ⟨n2, hn1⟩ : ∃ x, x = (autF a).null := ⟨_, rfl⟩
  obtain ⟨s2, hs1⟩ : ∃ x, x = (autF a).sets.length := ⟨_, rfl⟩
  obtain ⟨f2, hf1⟩ : ∃ x, x = (upI (autF a).first).length := ⟨_, rfl⟩
  obtain ⟨l2, hl1⟩ : ∃ x, x = (upI (autF a).last).length := ⟨_, rfl⟩
  obtain ⟨x2, hx1⟩ : ∃ x, x = (autF a).fol.length := ⟨_, rfl⟩
  have hat : AutAt w5 (.agg #[.bool (autF a).null, .slice sa2 (autF a).sets.length sc2, .slice fa2 (upI (autF a).first).length fc2, .slice la2 (upI (autF a).last).length lc2, .slice wa2 (autF a).fol.length wc2]) (autF a) := ⟨_, _, _, _, rfl, hs, hf, hl, hw⟩
  rw [← hn1, ← hs1, ← hf1, ← hl1, ← hx1] at hat ⊢
  obtain ⟨W5, hW5⟩ : ∃ W, W = w5.alloc (.cells #[.bool n2, .slice sa2 s2 sc2, .slice fa2 f2 fc2, .slice la2 l2 lc2, .slice wa2 x2 wc2] 30) := ⟨_, rfl⟩
  have hB7 : Below w5.heap.size w5 W5 := by rw [hW5]; exact below_alloc _ _
  have HBW5 : Hid (Below w.heap.size w W5) := below_after (below_after HBW4.out hB6) hB7
  have HBX5 : Hid (ABox W5 w5.heap.size n2 (.slice sa2 s2 sc2) (.slice fa2 f2 fc2) (.slice la2 l2 lc2) (.slice wa2 x2 wc2)) := by rw [hW5]; exact heap_new' _ _
  have HBX6 : Hid (ABox W5 w4.heap.size n1 (.slice sa s1 sc) (.slice fa f1 fc) (.slice la l1 lc) (.slice wa x1 wc')) := (HBX4.out.below hB6).below hB7
  have hsm := same_any (autF a) _ _ W5 ((HAT4.out.below hB6).below hB7) (hat.below hB7) HAL.out
  have c0 := HBX6.out.c0
  have c1 := HBX6.out.c1
  have c2 := HBX6.out.c2
  have c3 := HBX6.out.c3
  have c4 := HBX6.out.c4
  have d0 := HBX5.out.c0
  have d1 := HBX5.out.c1
  have d2 := HBX5.out.c2
  have d3 := HBX5.out.c3
  have d4 := HBX5.out.c4
  have hl4 := HBX6.out.lt
  have hl5 := HBX5.out.lt
  have heq : (er == er) = true := by simp
  have HW5 : Hid (W5 = _) := hW5
  clear hrb hs hf hl hw hat hB6 hB7 hn1 hs1 hf1 hl1 hx1 b0 b1 b2 hW5
  go_upto_region 6 with fail
  rw [← HW5.out]
  clear HW5
  go_wp2_with fail
  refine hsm.mono ?_
  rintro e w6 ⟨rfl, hB8⟩
  have HB8 : Hid (Below w.heap.size w w6) := below_after HBW5.out hB8
  clear hsm hB8 c0 c1 c2 c3 c4 d0 d1 d2 d3 d4
  go_wp2
  go_ret
  exact ⟨by simp, HB8.out⟩
end Go.Proofs.YtehkaiohmcenbaaDoor
