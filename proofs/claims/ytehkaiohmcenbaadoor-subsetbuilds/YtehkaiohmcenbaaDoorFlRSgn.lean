/-
  The document's maker reads a part with a sign behind it.
-/
import Derived.Test.YtehkaiohmcenbaaDoorGM
namespace Go.Proofs.YtehkaiohmcenbaaDoor
open Go.RowKit Go.Shelf
set_option linter.unusedVariables false

set_option maxRecDepth 100000 in
set_option maxHeartbeats 16000000 in
theorem rnode_sgn3 {M base m : Nat} (hm : m ≤ 400) (s : Int) (x : Nd) (za : Option Addr) (ca : Nat) (w : World) (sv fv : Value) (S : List Int) (L : List (List Nat × List Nat)) (hI : MkI M base w sv fv S (fol L)) (hbw : base ≤ w.heap.size) (hN : NtO S.length L) (hg : rightN x = true) (hcm : S.length + (setsN x).length ≤ m) (hz : KdX (fun k => k < base) w (.slice za 1 ca) [x])
    (HR : ∀ xa ka, NodC M base m x xa ka) :
    Calls Tryd.prog 46 #[.pointer (some ⟨M, 0, none⟩), .agg #[.int .i64 3, .int .i64 s, .slice za 1 ca]] w (EdgA M base w sv S L (setsN x) (sgnS 3 (prtN x S.length))) := by
  obtain ⟨ga, oa, cc, z', hza, hcc, hga, p0, p1, p2, hkd⟩ := hz.at 0 (by simp)
  obtain ⟨rfl, rfl⟩ : za = some ⟨ga, oa, none⟩ ∧ ca = cc := by simpa using hza
  obtain ⟨xa, ka, rfl, _⟩ := hkd.slice
  obtain ⟨W0, hW0⟩ : ∃ W, W = (w.alloc (.cells #[.int .i64 3, .int .i64 s, .slice (some ⟨ga, oa, none⟩) 1 ca] 24)).alloc (.cells #[.bool false, .slice none 0 0, .slice none 0 0] 78) := ⟨_, rfl⟩
  obtain ⟨h0, h1, hB, hs⟩ := alloc2 hW0
  have hc := HR xa ka W0 sv fv S L (hI.below hB) (by omega) hN hcm (hkd.to (fun k hk => ⟨hB.block k (by omega), hk⟩))
  have HR0 : Hid (EBox W0 (w.heap.size + 1) false (.slice none 0 0) (.slice none 0 0)) := h1
  have HX0 : Hid (Box W0 w.heap.size 3 s (.slice (some ⟨ga, oa, none⟩) 1 ca)) := h0
  have HB0 : Hid (Below w.heap.size w W0) := hB
  have HS0 : Hid (W0.heap.size = w.heap.size + 2) := hs
  have HOK : Hid (Okp S.length (prtN x S.length) ∧ (prtN x S.length).upTo ≤ m ∧ (prtN x S.length).upTo = (S ++ setsN x).length) := by
    have := gd_all x hg S.length
    exact ⟨this.1, by rw [this.2]; exact hcm, by rw [this.2, List.length_append]⟩
  obtain ⟨p, hp⟩ : ∃ P, P = prtN x S.length := ⟨_, rfl⟩
  rw [← hp] at hc HOK ⊢
  have p0' : w.cell? ⟨ga, oa, none⟩ = some (.int .i64 x.k) := by simpa using p0
  have p1' : w.cell? ⟨ga, oa + 1, none⟩ = some (.int .i64 x.s) := by simpa using p1
  have p2' : w.cell? ⟨ga, oa + 2, none⟩ = some (.slice xa x.kids.length ka) := by simpa using p2
  have hga2 : ga < w.heap.size := by omega
  obtain ⟨yk, hyk⟩ : ∃ y, y = x.k := ⟨_, rfl⟩
  obtain ⟨ys, hys⟩ : ∃ y, y = x.s := ⟨_, rfl⟩
  obtain ⟨yl, hyl⟩ : ∃ y, y = x.kids.length := ⟨_, rfl⟩
  rw [← hyk, ← hys, ← hyl] at hc
  rw [← hyk] at p0'
  rw [← hys] at p1'
  rw [← hyl] at p2'
  have HW0 : Hid (W0 = _) := hW0
  rw [hW0] at hc
  have hca1 : 1 ≤ ca := by simpa using hcc
  clear h0 h1 hB hs hW0 hI hN hg hcm hz HR hp hza hcc p0 p1 p2 hkd hyk hys hyl
  go_enter Tryd.func46, Tryd.ntmps46
  go_wp2_with fail
  refine hc.mono ?_
  rw [← HW0.out]
  rintro e w1 ⟨sv1, fv1, pf, pl, rfl, hI1, hF1, hpf, hpl⟩
  obtain ⟨fa, fn', fc, rfl⟩ := hpf.any
  obtain ⟨la, ln, lc, rfl⟩ := hpl.any
  obtain ⟨pn, hpn⟩ : ∃ x, x = p.null := ⟨_, rfl⟩
  have HPU : Hid (pn = p.null) := hpn
  rw [← hpn]
  obtain ⟨W1, hW1⟩ : ∃ W, W = w1.alloc (.cells #[.bool pn, .slice fa fn' fc, .slice la ln lc] 78) := ⟨_, rfl⟩
  have hB1 : Below w1.heap.size w1 W1 := by rw [hW1]; exact below_alloc _ _
  have hs1 : w.heap.size + 2 ≤ w1.heap.size := by have := hF1.size; have := HS0.out; omega
  have HQ1 : Hid (XBx base w1.heap.size W1 sv1 pn (.slice fa fn' fc) (.slice la ln lc) p.first p.last) := ⟨by rw [hW1]; exact ebox_new _ _ _ _, hpf.below hB1, hpl.below hB1⟩
  have HR1 : Hid (EBox W1 (w.heap.size + 1) false (.slice none 0 0) (.slice none 0 0)) := (HR0.out.fr hF1).below hB1
  have HX1 : Hid (Box W1 w.heap.size 3 s (.slice (some ⟨ga, oa, none⟩) 1 ca)) := (show Box w1 w.heap.size 3 s (.slice (some ⟨ga, oa, none⟩) 1 ca) from (hF1.typ _ _ _ _ HX0.out node_not).trans HX0.out).below hB1
  have HF1 : Hid (FrM base w sv W1 sv1) := (FrM.of sv HB0.out hbw).trans (hF1.trans (FrM.of sv1 hB1 (by omega)))
  have HI1 : Hid (MkI M base W1 sv1 fv1 (S ++ setsN x) (fol (L ++ p.notes))) := hI1.below hB1
  have hsW : w1.heap.size < W1.heap.size := by rw [hW1]; simp
  have HW1 : Hid (W1 = w1.alloc (.cells #[.bool pn, .slice fa fn' fc, .slice la ln lc] 78)) := hW1
  clear hc hpf hpl hI1 hF1 hB1 hpn p0' p1' p2' hW1
  go_upto_region 20 with fail
  rw [← HW1.out]
  clear HW1
  have x0 : W1.cell? ⟨w.heap.size, 0, none⟩ = some (.int .i64 3) := HX1.out.c0
  have hnt := after_any M base W1 sv1 fv1 _ _ (.slice la ln lc) (.slice fa fn' fc) p.last p.first HI1.out HQ1.out.hb HQ1.out.ha (by rw [← HOK.out.2.2]; exact HOK.out.1.last.wide (Nat.zero_le _) (Nat.le_refl _)) (by rw [← HOK.out.2.2]; exact HOK.out.1.first.wide (Nat.zero_le _) (Nat.le_refl _)) (by rw [← HOK.out.2.2]; have := HOK.out.2.1; omega)
  have t2 : W1.cell? ⟨w1.heap.size, 2, none⟩ = some (.slice la ln lc) := HQ1.out.bx.c2
  have t1 : W1.cell? ⟨w1.heap.size, 1, none⟩ = some (.slice fa fn' fc) := HQ1.out.bx.c1
  go_wp2_with fail
  refine hnt.mono ?_
  rintro e w2 ⟨rfl, hI2, hF2⟩
  have HQ2 : Hid (XBx base w1.heap.size w2 sv1 pn (.slice fa fn' fc) (.slice la ln lc) p.first p.last) := HQ1.out.fr hF2
  have HR2 : Hid (EBox w2 (w.heap.size + 1) false (.slice none 0 0) (.slice none 0 0)) := HR1.out.fr hF2
  have HX2 : Hid (Box w2 w.heap.size 3 s (.slice (some ⟨ga, oa, none⟩) 1 ca)) := (show Box w2 w.heap.size 3 s (.slice (some ⟨ga, oa, none⟩) 1 ca) from (hF2.typ _ _ _ _ HX1.out node_not).trans HX1.out)
  have HF2 : Hid (FrM base w sv w2 sv1) := HF1.out.trans hF2
  have HI2 : Hid (MkI M base w2 sv1 fv1 (S ++ setsN x) (fol (L ++ (sgnS 3 p).notes))) := by
    have e : (sgnS 3 p).notes = p.notes ++ [(p.last, p.first)] := by simp [sgnS]
    show MkI _ _ _ _ _ _ _
    rw [e, ← List.append_assoc]
    exact hI2.same (fun i y _ => by rw [fol_app _ [(p.last, p.first)], fol_one])
  clear hnt hI2 hF2 t1 t2 x0 hsW
  have hlt2 : w1.heap.size < w2.heap.size := HQ2.out.bx.lt
  have x0 : w2.cell? ⟨w.heap.size, 0, none⟩ = some (.int .i64 3) := HX2.out.c0
  have q0 : w2.cell? ⟨w1.heap.size, 0, none⟩ = some (.bool pn) := HQ2.out.bx.c0
  have q1 : w2.cell? ⟨w1.heap.size, 1, none⟩ = some (.slice fa fn' fc) := HQ2.out.bx.c1
  have q2 : w2.cell? ⟨w1.heap.size, 2, none⟩ = some (.slice la ln lc) := HQ2.out.bx.c2
  have qf : w2.frozen? ⟨w1.heap.size, 0, none⟩ = false := HQ2.out.bx.nf 0
  have e0 : w2.cell? ⟨w.heap.size + 1, 0, none⟩ = some (.bool false) := HR2.out.c0
  have e1 : w2.cell? ⟨w.heap.size + 1, 1, none⟩ = some (.slice none 0 0) := HR2.out.c1
  have e2 : w2.cell? ⟨w.heap.size + 1, 2, none⟩ = some (.slice none 0 0) := HR2.out.c2
  have f0 : w2.frozen? ⟨w.heap.size + 1, 0, none⟩ = false := HR2.out.nf 0
  have f1 : w2.frozen? ⟨w.heap.size + 1, 1, none⟩ = false := HR2.out.nf 1
  have f2 : w2.frozen? ⟨w.heap.size + 1, 2, none⟩ = false := HR2.out.nf 2
  have hne : ¬ w1.heap.size = w.heap.size + 1 := by omega
  have hne' : ¬ w.heap.size + 1 = w1.heap.size := by omega
  have HNN : Hid ((sgnS 3 p).null = true) := by
    show (p.null || decide ((3 : Int) ≠ 4)) = _
    simp
  have HFIN : Hid (∀ nn : Bool, (sgnS 3 p).null = nn → EBox ((((w2.setCell ⟨w1.heap.size, 0, none⟩ (.bool nn)).setCell ⟨w.heap.size + 1, 0, none⟩ (.bool nn)).setCell ⟨w.heap.size + 1, 1, none⟩ (.slice fa fn' fc)).setCell ⟨w.heap.size + 1, 2, none⟩ (.slice la ln lc)) (w.heap.size + 1) nn (.slice fa fn' fc) (.slice la ln lc) ∧ EdgA M base w sv S L (setsN x) (sgnS 3 p) (.returned (.agg #[.bool nn, .slice fa fn' fc, .slice la ln lc])) ((((w2.setCell ⟨w1.heap.size, 0, none⟩ (.bool nn)).setCell ⟨w.heap.size + 1, 0, none⟩ (.bool nn)).setCell ⟨w.heap.size + 1, 1, none⟩ (.slice fa fn' fc)).setCell ⟨w.heap.size + 1, 2, none⟩ (.slice la ln lc))) := fun nn hn => by
    have o1 : OnlyB w1.heap.size w2 (w2.setCell ⟨w1.heap.size, 0, none⟩ (.bool nn)) := (OnlyB.refl _ _).set _ _
    have r1 := HR2.out.only o1 hne'
    subst hn
    exact edg_fin (p := sgnS 3 p) (HI2.out.only o1 HQ2.out.bx edge_not) (HF2.out.only o1 (by omega) hbw HQ2.out.bx (by decide)) r1 (Nat.le_succ _) hbw (HQ2.out.ha.only o1 HQ2.out.bx) (HQ2.out.hb.only o1 HQ2.out.bx)
  cases pn with
  | true =>
    go_wp2
    refine bodyPost_ret (results_cell_row rfl _ _ (w.heap.size + 1) 78 #[.bool true, .slice fa fn' fc, .slice la ln lc] (0, 0) _ rfl ?_ Tryd.underlying78 rfl (by kernel_rfl)) rfl ?_
    · exact (HFIN.out true HNN.out).1
    · exact (HFIN.out true HNN.out).2
  | false =>
    go_wp2
    refine bodyPost_ret (results_cell_row rfl _ _ (w.heap.size + 1) 78 #[.bool true, .slice fa fn' fc, .slice la ln lc] (0, 0) _ rfl ?_ Tryd.underlying78 rfl (by kernel_rfl)) rfl ?_
    · exact (HFIN.out true HNN.out).1
    · exact (HFIN.out true HNN.out).2

set_option maxRecDepth 100000 in
set_option maxHeartbeats 16000000 in
theorem rnode_sgn4 {M base m : Nat} (hm : m ≤ 400) (s : Int) (x : Nd) (za : Option Addr) (ca : Nat) (w : World) (sv fv : Value) (S : List Int) (L : List (List Nat × List Nat)) (hI : MkI M base w sv fv S (fol L)) (hbw : base ≤ w.heap.size) (hN : NtO S.length L) (hg : rightN x = true) (hcm : S.length + (setsN x).length ≤ m) (hz : KdX (fun k => k < base) w (.slice za 1 ca) [x])
    (HR : ∀ xa ka, NodC M base m x xa ka) :
    Calls Tryd.prog 46 #[.pointer (some ⟨M, 0, none⟩), .agg #[.int .i64 4, .int .i64 s, .slice za 1 ca]] w (EdgA M base w sv S L (setsN x) (sgnS 4 (prtN x S.length))) := by
  obtain ⟨ga, oa, cc, z', hza, hcc, hga, p0, p1, p2, hkd⟩ := hz.at 0 (by simp)
  obtain ⟨rfl, rfl⟩ : za = some ⟨ga, oa, none⟩ ∧ ca = cc := by simpa using hza
  obtain ⟨xa, ka, rfl, _⟩ := hkd.slice
  obtain ⟨W0, hW0⟩ : ∃ W, W = (w.alloc (.cells #[.int .i64 4, .int .i64 s, .slice (some ⟨ga, oa, none⟩) 1 ca] 24)).alloc (.cells #[.bool false, .slice none 0 0, .slice none 0 0] 78) := ⟨_, rfl⟩
  obtain ⟨h0, h1, hB, hs⟩ := alloc2 hW0
  have hc := HR xa ka W0 sv fv S L (hI.below hB) (by omega) hN hcm (hkd.to (fun k hk => ⟨hB.block k (by omega), hk⟩))
  have HR0 : Hid (EBox W0 (w.heap.size + 1) false (.slice none 0 0) (.slice none 0 0)) := h1
  have HX0 : Hid (Box W0 w.heap.size 4 s (.slice (some ⟨ga, oa, none⟩) 1 ca)) := h0
  have HB0 : Hid (Below w.heap.size w W0) := hB
  have HS0 : Hid (W0.heap.size = w.heap.size + 2) := hs
  have HOK : Hid (Okp S.length (prtN x S.length) ∧ (prtN x S.length).upTo ≤ m ∧ (prtN x S.length).upTo = (S ++ setsN x).length) := by
    have := gd_all x hg S.length
    exact ⟨this.1, by rw [this.2]; exact hcm, by rw [this.2, List.length_append]⟩
  obtain ⟨p, hp⟩ : ∃ P, P = prtN x S.length := ⟨_, rfl⟩
  rw [← hp] at hc HOK ⊢
  have p0' : w.cell? ⟨ga, oa, none⟩ = some (.int .i64 x.k) := by simpa using p0
  have p1' : w.cell? ⟨ga, oa + 1, none⟩ = some (.int .i64 x.s) := by simpa using p1
  have p2' : w.cell? ⟨ga, oa + 2, none⟩ = some (.slice xa x.kids.length ka) := by simpa using p2
  have hga2 : ga < w.heap.size := by omega
  obtain ⟨yk, hyk⟩ : ∃ y, y = x.k := ⟨_, rfl⟩
  obtain ⟨ys, hys⟩ : ∃ y, y = x.s := ⟨_, rfl⟩
  obtain ⟨yl, hyl⟩ : ∃ y, y = x.kids.length := ⟨_, rfl⟩
  rw [← hyk, ← hys, ← hyl] at hc
  rw [← hyk] at p0'
  rw [← hys] at p1'
  rw [← hyl] at p2'
  have HW0 : Hid (W0 = _) := hW0
  rw [hW0] at hc
  have hca1 : 1 ≤ ca := by simpa using hcc
  clear h0 h1 hB hs hW0 hI hN hg hcm hz HR hp hza hcc p0 p1 p2 hkd hyk hys hyl
  go_enter Tryd.func46, Tryd.ntmps46
  go_wp2_with fail
  refine hc.mono ?_
  rw [← HW0.out]
  rintro e w1 ⟨sv1, fv1, pf, pl, rfl, hI1, hF1, hpf, hpl⟩
  obtain ⟨fa, fn', fc, rfl⟩ := hpf.any
  obtain ⟨la, ln, lc, rfl⟩ := hpl.any
  obtain ⟨pn, hpn⟩ : ∃ x, x = p.null := ⟨_, rfl⟩
  have HPU : Hid (pn = p.null) := hpn
  rw [← hpn]
  obtain ⟨W1, hW1⟩ : ∃ W, W = w1.alloc (.cells #[.bool pn, .slice fa fn' fc, .slice la ln lc] 78) := ⟨_, rfl⟩
  have hB1 : Below w1.heap.size w1 W1 := by rw [hW1]; exact below_alloc _ _
  have hs1 : w.heap.size + 2 ≤ w1.heap.size := by have := hF1.size; have := HS0.out; omega
  have HQ1 : Hid (XBx base w1.heap.size W1 sv1 pn (.slice fa fn' fc) (.slice la ln lc) p.first p.last) := ⟨by rw [hW1]; exact ebox_new _ _ _ _, hpf.below hB1, hpl.below hB1⟩
  have HR1 : Hid (EBox W1 (w.heap.size + 1) false (.slice none 0 0) (.slice none 0 0)) := (HR0.out.fr hF1).below hB1
  have HX1 : Hid (Box W1 w.heap.size 4 s (.slice (some ⟨ga, oa, none⟩) 1 ca)) := (show Box w1 w.heap.size 4 s (.slice (some ⟨ga, oa, none⟩) 1 ca) from (hF1.typ _ _ _ _ HX0.out node_not).trans HX0.out).below hB1
  have HF1 : Hid (FrM base w sv W1 sv1) := (FrM.of sv HB0.out hbw).trans (hF1.trans (FrM.of sv1 hB1 (by omega)))
  have HI1 : Hid (MkI M base W1 sv1 fv1 (S ++ setsN x) (fol (L ++ p.notes))) := hI1.below hB1
  have hsW : w1.heap.size < W1.heap.size := by rw [hW1]; simp
  have HW1 : Hid (W1 = w1.alloc (.cells #[.bool pn, .slice fa fn' fc, .slice la ln lc] 78)) := hW1
  clear hc hpf hpl hI1 hF1 hB1 hpn p0' p1' p2' hW1
  go_upto_region 20 with fail
  rw [← HW1.out]
  clear HW1
  have x0 : W1.cell? ⟨w.heap.size, 0, none⟩ = some (.int .i64 4) := HX1.out.c0
  have hnt := after_any M base W1 sv1 fv1 _ _ (.slice la ln lc) (.slice fa fn' fc) p.last p.first HI1.out HQ1.out.hb HQ1.out.ha (by rw [← HOK.out.2.2]; exact HOK.out.1.last.wide (Nat.zero_le _) (Nat.le_refl _)) (by rw [← HOK.out.2.2]; exact HOK.out.1.first.wide (Nat.zero_le _) (Nat.le_refl _)) (by rw [← HOK.out.2.2]; have := HOK.out.2.1; omega)
  have t2 : W1.cell? ⟨w1.heap.size, 2, none⟩ = some (.slice la ln lc) := HQ1.out.bx.c2
  have t1 : W1.cell? ⟨w1.heap.size, 1, none⟩ = some (.slice fa fn' fc) := HQ1.out.bx.c1
  go_wp2_with fail
  refine hnt.mono ?_
  rintro e w2 ⟨rfl, hI2, hF2⟩
  have HQ2 : Hid (XBx base w1.heap.size w2 sv1 pn (.slice fa fn' fc) (.slice la ln lc) p.first p.last) := HQ1.out.fr hF2
  have HR2 : Hid (EBox w2 (w.heap.size + 1) false (.slice none 0 0) (.slice none 0 0)) := HR1.out.fr hF2
  have HX2 : Hid (Box w2 w.heap.size 4 s (.slice (some ⟨ga, oa, none⟩) 1 ca)) := (show Box w2 w.heap.size 4 s (.slice (some ⟨ga, oa, none⟩) 1 ca) from (hF2.typ _ _ _ _ HX1.out node_not).trans HX1.out)
  have HF2 : Hid (FrM base w sv w2 sv1) := HF1.out.trans hF2
  have HI2 : Hid (MkI M base w2 sv1 fv1 (S ++ setsN x) (fol (L ++ (sgnS 4 p).notes))) := by
    have e : (sgnS 4 p).notes = p.notes ++ [(p.last, p.first)] := by simp [sgnS]
    show MkI _ _ _ _ _ _ _
    rw [e, ← List.append_assoc]
    exact hI2.same (fun i y _ => by rw [fol_app _ [(p.last, p.first)], fol_one])
  clear hnt hI2 hF2 t1 t2 x0 hsW
  have hlt2 : w1.heap.size < w2.heap.size := HQ2.out.bx.lt
  have x0 : w2.cell? ⟨w.heap.size, 0, none⟩ = some (.int .i64 4) := HX2.out.c0
  have q0 : w2.cell? ⟨w1.heap.size, 0, none⟩ = some (.bool pn) := HQ2.out.bx.c0
  have q1 : w2.cell? ⟨w1.heap.size, 1, none⟩ = some (.slice fa fn' fc) := HQ2.out.bx.c1
  have q2 : w2.cell? ⟨w1.heap.size, 2, none⟩ = some (.slice la ln lc) := HQ2.out.bx.c2
  have qf : w2.frozen? ⟨w1.heap.size, 0, none⟩ = false := HQ2.out.bx.nf 0
  have e0 : w2.cell? ⟨w.heap.size + 1, 0, none⟩ = some (.bool false) := HR2.out.c0
  have e1 : w2.cell? ⟨w.heap.size + 1, 1, none⟩ = some (.slice none 0 0) := HR2.out.c1
  have e2 : w2.cell? ⟨w.heap.size + 1, 2, none⟩ = some (.slice none 0 0) := HR2.out.c2
  have f0 : w2.frozen? ⟨w.heap.size + 1, 0, none⟩ = false := HR2.out.nf 0
  have f1 : w2.frozen? ⟨w.heap.size + 1, 1, none⟩ = false := HR2.out.nf 1
  have f2 : w2.frozen? ⟨w.heap.size + 1, 2, none⟩ = false := HR2.out.nf 2
  have hne : ¬ w1.heap.size = w.heap.size + 1 := by omega
  have hne' : ¬ w.heap.size + 1 = w1.heap.size := by omega
  have HNN : Hid ((sgnS 4 p).null = pn) := by
    show (p.null || decide ((4 : Int) ≠ 4)) = _
    rw [HPU.out]; simp
  have HFIN : Hid (∀ nn : Bool, (sgnS 4 p).null = nn → EBox ((((w2.setCell ⟨w1.heap.size, 0, none⟩ (.bool nn)).setCell ⟨w.heap.size + 1, 0, none⟩ (.bool nn)).setCell ⟨w.heap.size + 1, 1, none⟩ (.slice fa fn' fc)).setCell ⟨w.heap.size + 1, 2, none⟩ (.slice la ln lc)) (w.heap.size + 1) nn (.slice fa fn' fc) (.slice la ln lc) ∧ EdgA M base w sv S L (setsN x) (sgnS 4 p) (.returned (.agg #[.bool nn, .slice fa fn' fc, .slice la ln lc])) ((((w2.setCell ⟨w1.heap.size, 0, none⟩ (.bool nn)).setCell ⟨w.heap.size + 1, 0, none⟩ (.bool nn)).setCell ⟨w.heap.size + 1, 1, none⟩ (.slice fa fn' fc)).setCell ⟨w.heap.size + 1, 2, none⟩ (.slice la ln lc))) := fun nn hn => by
    have o1 : OnlyB w1.heap.size w2 (w2.setCell ⟨w1.heap.size, 0, none⟩ (.bool nn)) := (OnlyB.refl _ _).set _ _
    have r1 := HR2.out.only o1 hne'
    subst hn
    exact edg_fin (p := sgnS 4 p) (HI2.out.only o1 HQ2.out.bx edge_not) (HF2.out.only o1 (by omega) hbw HQ2.out.bx (by decide)) r1 (Nat.le_succ _) hbw (HQ2.out.ha.only o1 HQ2.out.bx) (HQ2.out.hb.only o1 HQ2.out.bx)
  cases pn with
  | true =>
    go_wp2
    refine bodyPost_ret (results_cell_row rfl _ _ (w.heap.size + 1) 78 #[.bool true, .slice fa fn' fc, .slice la ln lc] (0, 0) _ rfl ?_ Tryd.underlying78 rfl (by kernel_rfl)) rfl ?_
    · exact (HFIN.out true HNN.out).1
    · exact (HFIN.out true HNN.out).2
  | false =>
    go_wp2
    refine bodyPost_ret (results_cell_row rfl _ _ (w.heap.size + 1) 78 #[.bool false, .slice fa fn' fc, .slice la ln lc] (0, 0) _ rfl ?_ Tryd.underlying78 rfl (by kernel_rfl)) rfl ?_
    · exact (HFIN.out false HNN.out).1
    · exact (HFIN.out false HNN.out).2

set_option maxRecDepth 100000 in
set_option maxHeartbeats 16000000 in
theorem rnode_sgn5 {M base m : Nat} (hm : m ≤ 400) (s : Int) (x : Nd) (za : Option Addr) (ca : Nat) (w : World) (sv fv : Value) (S : List Int) (L : List (List Nat × List Nat)) (hI : MkI M base w sv fv S (fol L)) (hbw : base ≤ w.heap.size) (hN : NtO S.length L) (hg : rightN x = true) (hcm : S.length + (setsN x).length ≤ m) (hz : KdX (fun k => k < base) w (.slice za 1 ca) [x])
    (HR : ∀ xa ka, NodC M base m x xa ka) :
    Calls Tryd.prog 46 #[.pointer (some ⟨M, 0, none⟩), .agg #[.int .i64 5, .int .i64 s, .slice za 1 ca]] w (EdgA M base w sv S L (setsN x) (sgnS 5 (prtN x S.length))) := by
  obtain ⟨ga, oa, cc, z', hza, hcc, hga, p0, p1, p2, hkd⟩ := hz.at 0 (by simp)
  obtain ⟨rfl, rfl⟩ : za = some ⟨ga, oa, none⟩ ∧ ca = cc := by simpa using hza
  obtain ⟨xa, ka, rfl, _⟩ := hkd.slice
  obtain ⟨W0, hW0⟩ : ∃ W, W = (w.alloc (.cells #[.int .i64 5, .int .i64 s, .slice (some ⟨ga, oa, none⟩) 1 ca] 24)).alloc (.cells #[.bool false, .slice none 0 0, .slice none 0 0] 78) := ⟨_, rfl⟩
  obtain ⟨h0, h1, hB, hs⟩ := alloc2 hW0
  have hc := HR xa ka W0 sv fv S L (hI.below hB) (by omega) hN hcm (hkd.to (fun k hk => ⟨hB.block k (by omega), hk⟩))
  have HR0 : Hid (EBox W0 (w.heap.size + 1) false (.slice none 0 0) (.slice none 0 0)) := h1
  have HX0 : Hid (Box W0 w.heap.size 5 s (.slice (some ⟨ga, oa, none⟩) 1 ca)) := h0
  have HB0 : Hid (Below w.heap.size w W0) := hB
  have HS0 : Hid (W0.heap.size = w.heap.size + 2) := hs
  have HOK : Hid (Okp S.length (prtN x S.length) ∧ (prtN x S.length).upTo ≤ m ∧ (prtN x S.length).upTo = (S ++ setsN x).length) := by
    have := gd_all x hg S.length
    exact ⟨this.1, by rw [this.2]; exact hcm, by rw [this.2, List.length_append]⟩
  obtain ⟨p, hp⟩ : ∃ P, P = prtN x S.length := ⟨_, rfl⟩
  rw [← hp] at hc HOK ⊢
  have p0' : w.cell? ⟨ga, oa, none⟩ = some (.int .i64 x.k) := by simpa using p0
  have p1' : w.cell? ⟨ga, oa + 1, none⟩ = some (.int .i64 x.s) := by simpa using p1
  have p2' : w.cell? ⟨ga, oa + 2, none⟩ = some (.slice xa x.kids.length ka) := by simpa using p2
  have hga2 : ga < w.heap.size := by omega
  obtain ⟨yk, hyk⟩ : ∃ y, y = x.k := ⟨_, rfl⟩
  obtain ⟨ys, hys⟩ : ∃ y, y = x.s := ⟨_, rfl⟩
  obtain ⟨yl, hyl⟩ : ∃ y, y = x.kids.length := ⟨_, rfl⟩
  rw [← hyk, ← hys, ← hyl] at hc
  rw [← hyk] at p0'
  rw [← hys] at p1'
  rw [← hyl] at p2'
  have HW0 : Hid (W0 = _) := hW0
  rw [hW0] at hc
  have hca1 : 1 ≤ ca := by simpa using hcc
  clear h0 h1 hB hs hW0 hI hN hg hcm hz HR hp hza hcc p0 p1 p2 hkd hyk hys hyl
  go_enter Tryd.func46, Tryd.ntmps46
  go_wp2_with fail
  refine hc.mono ?_
  rw [← HW0.out]
  rintro e w1 ⟨sv1, fv1, pf, pl, rfl, hI1, hF1, hpf, hpl⟩
  obtain ⟨fa, fn', fc, rfl⟩ := hpf.any
  obtain ⟨la, ln, lc, rfl⟩ := hpl.any
  obtain ⟨pn, hpn⟩ : ∃ x, x = p.null := ⟨_, rfl⟩
  have HPU : Hid (pn = p.null) := hpn
  rw [← hpn]
  obtain ⟨W1, hW1⟩ : ∃ W, W = w1.alloc (.cells #[.bool pn, .slice fa fn' fc, .slice la ln lc] 78) := ⟨_, rfl⟩
  have hB1 : Below w1.heap.size w1 W1 := by rw [hW1]; exact below_alloc _ _
  have hs1 : w.heap.size + 2 ≤ w1.heap.size := by have := hF1.size; have := HS0.out; omega
  have HQ1 : Hid (XBx base w1.heap.size W1 sv1 pn (.slice fa fn' fc) (.slice la ln lc) p.first p.last) := ⟨by rw [hW1]; exact ebox_new _ _ _ _, hpf.below hB1, hpl.below hB1⟩
  have HR1 : Hid (EBox W1 (w.heap.size + 1) false (.slice none 0 0) (.slice none 0 0)) := (HR0.out.fr hF1).below hB1
  have HX1 : Hid (Box W1 w.heap.size 5 s (.slice (some ⟨ga, oa, none⟩) 1 ca)) := (show Box w1 w.heap.size 5 s (.slice (some ⟨ga, oa, none⟩) 1 ca) from (hF1.typ _ _ _ _ HX0.out node_not).trans HX0.out).below hB1
  have HF1 : Hid (FrM base w sv W1 sv1) := (FrM.of sv HB0.out hbw).trans (hF1.trans (FrM.of sv1 hB1 (by omega)))
  have HI1 : Hid (MkI M base W1 sv1 fv1 (S ++ setsN x) (fol (L ++ p.notes))) := hI1.below hB1
  have hsW : w1.heap.size < W1.heap.size := by rw [hW1]; simp
  have HW1 : Hid (W1 = w1.alloc (.cells #[.bool pn, .slice fa fn' fc, .slice la ln lc] 78)) := hW1
  clear hc hpf hpl hI1 hF1 hB1 hpn p0' p1' p2' hW1
  go_upto_region 20 with fail
  rw [← HW1.out]
  clear HW1
  have x0 : W1.cell? ⟨w.heap.size, 0, none⟩ = some (.int .i64 5) := HX1.out.c0
  obtain ⟨w2, hw2⟩ : ∃ W, W = W1 := ⟨_, rfl⟩
  have HQ2 : Hid (XBx base w1.heap.size w2 sv1 pn (.slice fa fn' fc) (.slice la ln lc) p.first p.last) := by rw [hw2]; exact HQ1.out
  have HR2 : Hid (EBox w2 (w.heap.size + 1) false (.slice none 0 0) (.slice none 0 0)) := by rw [hw2]; exact HR1.out
  have HX2 : Hid (Box w2 w.heap.size 5 s (.slice (some ⟨ga, oa, none⟩) 1 ca)) := by rw [hw2]; exact HX1.out
  have HF2 : Hid (FrM base w sv w2 sv1) := by rw [hw2]; exact HF1.out
  have HI2 : Hid (MkI M base w2 sv1 fv1 (S ++ setsN x) (fol (L ++ (sgnS 5 p).notes))) := by
    have e : (sgnS 5 p).notes = p.notes := by simp [sgnS]
    show MkI _ _ _ _ _ _ _
    rw [e, hw2]
    exact HI1.out
  rw [← hw2] at hsW x0 ⊢
  clear hw2 hsW x0
  have hlt2 : w1.heap.size < w2.heap.size := HQ2.out.bx.lt
  have x0 : w2.cell? ⟨w.heap.size, 0, none⟩ = some (.int .i64 5) := HX2.out.c0
  have q0 : w2.cell? ⟨w1.heap.size, 0, none⟩ = some (.bool pn) := HQ2.out.bx.c0
  have q1 : w2.cell? ⟨w1.heap.size, 1, none⟩ = some (.slice fa fn' fc) := HQ2.out.bx.c1
  have q2 : w2.cell? ⟨w1.heap.size, 2, none⟩ = some (.slice la ln lc) := HQ2.out.bx.c2
  have qf : w2.frozen? ⟨w1.heap.size, 0, none⟩ = false := HQ2.out.bx.nf 0
  have e0 : w2.cell? ⟨w.heap.size + 1, 0, none⟩ = some (.bool false) := HR2.out.c0
  have e1 : w2.cell? ⟨w.heap.size + 1, 1, none⟩ = some (.slice none 0 0) := HR2.out.c1
  have e2 : w2.cell? ⟨w.heap.size + 1, 2, none⟩ = some (.slice none 0 0) := HR2.out.c2
  have f0 : w2.frozen? ⟨w.heap.size + 1, 0, none⟩ = false := HR2.out.nf 0
  have f1 : w2.frozen? ⟨w.heap.size + 1, 1, none⟩ = false := HR2.out.nf 1
  have f2 : w2.frozen? ⟨w.heap.size + 1, 2, none⟩ = false := HR2.out.nf 2
  have hne : ¬ w1.heap.size = w.heap.size + 1 := by omega
  have hne' : ¬ w.heap.size + 1 = w1.heap.size := by omega
  have HNN : Hid ((sgnS 5 p).null = true) := by
    show (p.null || decide ((5 : Int) ≠ 4)) = _
    simp
  have HFIN : Hid (∀ nn : Bool, (sgnS 5 p).null = nn → EBox ((((w2.setCell ⟨w1.heap.size, 0, none⟩ (.bool nn)).setCell ⟨w.heap.size + 1, 0, none⟩ (.bool nn)).setCell ⟨w.heap.size + 1, 1, none⟩ (.slice fa fn' fc)).setCell ⟨w.heap.size + 1, 2, none⟩ (.slice la ln lc)) (w.heap.size + 1) nn (.slice fa fn' fc) (.slice la ln lc) ∧ EdgA M base w sv S L (setsN x) (sgnS 5 p) (.returned (.agg #[.bool nn, .slice fa fn' fc, .slice la ln lc])) ((((w2.setCell ⟨w1.heap.size, 0, none⟩ (.bool nn)).setCell ⟨w.heap.size + 1, 0, none⟩ (.bool nn)).setCell ⟨w.heap.size + 1, 1, none⟩ (.slice fa fn' fc)).setCell ⟨w.heap.size + 1, 2, none⟩ (.slice la ln lc))) := fun nn hn => by
    have o1 : OnlyB w1.heap.size w2 (w2.setCell ⟨w1.heap.size, 0, none⟩ (.bool nn)) := (OnlyB.refl _ _).set _ _
    have r1 := HR2.out.only o1 hne'
    subst hn
    exact edg_fin (p := sgnS 5 p) (HI2.out.only o1 HQ2.out.bx edge_not) (HF2.out.only o1 (by omega) hbw HQ2.out.bx (by decide)) r1 (Nat.le_succ _) hbw (HQ2.out.ha.only o1 HQ2.out.bx) (HQ2.out.hb.only o1 HQ2.out.bx)
  cases pn with
  | true =>
    go_wp2
    refine bodyPost_ret (results_cell_row rfl _ _ (w.heap.size + 1) 78 #[.bool true, .slice fa fn' fc, .slice la ln lc] (0, 0) _ rfl ?_ Tryd.underlying78 rfl (by kernel_rfl)) rfl ?_
    · exact (HFIN.out true HNN.out).1
    · exact (HFIN.out true HNN.out).2
  | false =>
    go_wp2
    refine bodyPost_ret (results_cell_row rfl _ _ (w.heap.size + 1) 78 #[.bool true, .slice fa fn' fc, .slice la ln lc] (0, 0) _ rfl ?_ Tryd.underlying78 rfl (by kernel_rfl)) rfl ?_
    · exact (HFIN.out true HNN.out).1
    · exact (HFIN.out true HNN.out).2
end Go.Proofs.YtehkaiohmcenbaaDoor
