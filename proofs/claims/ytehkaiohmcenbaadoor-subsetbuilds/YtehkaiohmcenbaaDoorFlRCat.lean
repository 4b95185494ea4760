/-
  The document's maker reads parts that stand in turn.
-/
import Derived.Test.YtehkaiohmcenbaaDoorFlEdge
namespace Go.Proofs.YtehkaiohmcenbaaDoor
open Go.RowKit Go.Shelf
set_option linter.unusedVariables false

set_option maxRecDepth 100000 in
set_option maxHeartbeats 32000000 in
theorem rcat_any {M base m : Nat} (hm : m ≤ 400) (l : List Nd) (za : Option Addr) (ca : Nat) (w : World) (sv fv : Value) (S : List Int) (L : List (List Nat × List Nat)) (hI : MkI M base w sv fv S (fol L)) (hbw : base ≤ w.heap.size) (hN : NtO S.length L) (hg : ∀ x ∈ l, rightN x = true) (hcm : S.length + (setsL l).length ≤ m) (hl : l.length ≤ 1000) (hz : KdX (fun k => k < base) w (.slice za l.length ca) l)
    (HR : ∀ i, (h : i < l.length) → ∀ xa ka, NodC M base m l[i] xa ka) :
    Calls Tryd.prog 69 #[.pointer (some ⟨M, 0, none⟩), .slice za l.length ca] w (EdgA M base w sv S L (setsL l) (catL l (cat0 S.length))) := by
  obtain ⟨W0, hW0⟩ : ∃ W, W = (w.alloc (.cells #[.bool false, .slice none 0 0, .slice none 0 0] 78)).alloc (.cells #[.bool true, .slice none 0 0, .slice none 0 0] 78) := ⟨_, rfl⟩
  obtain ⟨hE0, hE1, hB0, hs0⟩ := alloc2 hW0
  obtain ⟨len, hlen⟩ : ∃ len, len = l.length := ⟨_, rfl⟩
  have HLEN : Hid (len = l.length) := hlen
  have HK : Hid (KdX (fun k => k < base) w (.slice za len ca) l) := by rw [hlen]; exact hz
  rw [← hlen] at hl ⊢
  obtain ⟨c, hc⟩ : ∃ c, c = S.length := ⟨_, rfl⟩
  have HC : Hid (c = S.length) := hc
  rw [← hc] at hcm hN ⊢
  have HRR : Hid (∀ i, (h : i < l.length) → ∀ xa ka, NodC M base m l[i] xa ka) := HR
  have HG : Hid (∀ x ∈ l, rightN x = true) := hg
  have HNT : Hid (NtO c L) := hN
  have HC0 : Hid (CSt M base w.heap.size (w.heap.size + 1) w sv W0 sv fv (S ++ setsL (l.take 0)) (L ++ (catL (l.take 0) (cat0 c)).notes) (catL (l.take 0) (cat0 c)).null (.slice none 0 0) (.slice none 0 0) (catL (l.take 0) (cat0 c)).first (catL (l.take 0) (cat0 c)).last) := by
    have e1 : S ++ setsL (l.take 0) = S := by simp [setsL]
    have e2 : L ++ (catL (l.take 0) (cat0 c)).notes = L := by simp [catL, catF, cat0]
    show CSt _ _ _ _ _ _ _ _ _ _ _ _ _ _ _ _
    rw [e1, e2]
    exact ⟨hI.below hB0, FrM.of sv hB0 hbw, hE0, hE1, LstO.nil _ _ _, LstO.nil _ _ _, Nat.le_refl _, by omega, by omega, hbw⟩
  have HW0 : Hid (W0 = (w.alloc (.cells #[.bool false, .slice none 0 0, .slice none 0 0] 78)).alloc (.cells #[.bool true, .slice none 0 0, .slice none 0 0] 78)) := hW0
  -- what is known of the first parts
  have HGD : Hid (∀ j, j ≤ l.length → Okp c (catL (l.take j) (cat0 c)) ∧ (catL (l.take j) (cat0 c)).upTo ≤ m ∧ c ≤ m ∧ (catL (l.take j) (cat0 c)).upTo = (S ++ setsL (l.take j)).length) := fun j hj => by
    have := gd_cat (l.take j) (fun x hx => gd_all x (hg x (List.mem_of_mem_take hx))) c (cat0 c) (okp_cat0 c)
    have h2 : (setsL (l.take j)).length ≤ (setsL l).length := by
      have e : setsL l = setsL (l.take j) ++ setsL (l.drop j) := by rw [← setsL_app, List.take_append_drop]
      rw [e, List.length_append]; omega
    refine ⟨this.1, ?_, by omega, ?_⟩
    · rw [this.2]
      show c + _ ≤ m
      omega
    · rw [this.2, List.length_append, ← hc]
      rfl
  have HGK : Hid (∀ j, (h : j < l.length) → (catL (l.take j) (cat0 c)).upTo + (setsN l[j]).length ≤ m) := fun j hj => by
    have h1 := (HGD.out (j + 1) hj).2.1
    rw [take_snoc hj, catL_snoc] at h1
    have h2 := (gd_all l[j] (hg _ (List.getElem_mem hj)) (catL (l.take j) (cat0 c)).upTo).2
    have h3 : (catS (catL (l.take j) (cat0 c)) (prtN l[j] (catL (l.take j) (cat0 c)).upTo)).upTo = (prtN l[j] (catL (l.take j) (cat0 c)).upTo).upTo := rfl
    rw [h3] at h1
    omega
  clear hE0 hE1 hB0 hs0 hW0 hlen hz HR hg hcm hI hN hc
  go_enter Tryd.func69, Tryd.ntmps69
  go_wp2
  rw [← HW0.out]
  go_loopw [6] (fun x6 wr => ∃ (j : Nat) (sv' fv' va vb : Value), j ≤ len ∧ x6 = .int .i64 (j : Int) ∧ Hid (CSt M base w.heap.size (w.heap.size + 1) w sv wr sv' fv' (S ++ setsL (l.take j)) (L ++ (catL (l.take j) (cat0 c)).notes) (catL (l.take j) (cat0 c)).null va vb (catL (l.take j) (cat0 c)).first (catL (l.take j) (cat0 c)).last)) (fun x6 _ => len - (intOf x6).toNat)
  case atStart => exact ⟨0, _, _, _, _, Nat.zero_le _, rfl, HC0⟩
  case round =>
    obtain ⟨j, sv', fv', va, vb, hj, rfl, HCr⟩ := hrel
    have hws : w.heap.size + 1 < wr.heap.size := HCr.out.lt
    obtain ⟨fa, fn', fc, rfl⟩ := HCr.out.ha.any
    obtain ⟨la, ln, lc, rfl⟩ := HCr.out.hb.any
    by_cases hjl : j < len
    · have hjn : j < l.length := by rw [← HLEN.out]; exact hjl
      obtain ⟨P, hP⟩ : ∃ P, P = catL (l.take j) (cat0 c) := ⟨_, rfl⟩
      have HNX : Hid (catL (l.take (j + 1)) (cat0 c) = catS P (prtN l[j] P.upTo)) := by show _ = _; rw [take_snoc hjn, catL_snoc, ← hP]
      have HOK : Hid (Okp c P ∧ P.upTo ≤ m ∧ c ≤ m ∧ P.upTo = (S ++ setsL (l.take j)).length) := by rw [hP]; exact HGD.out j (Nat.le_of_lt hjn)
      have HGK2 : Hid (P.upTo + (setsN l[j]).length ≤ m) := by rw [hP]; exact HGK.out j hjn
      have HST : Hid (S ++ setsL (l.take (j + 1)) = (S ++ setsL (l.take j)) ++ setsN l[j]) := by
        show _ = _
        rw [take_snoc hjn, setsL_app, List.append_assoc]
        simp [setsL]
      rw [← hP] at HCr
      obtain ⟨ga, oa, cc, z', hza, hcc, hga, p0, p1, p2, hkd⟩ := HK.out.at j hjn
      obtain ⟨rfl, hqq, rfl⟩ : za = some ⟨ga, oa, none⟩ ∧ len = l.length ∧ ca = cc := by simpa using hza
      clear hqq
      have hcca : len ≤ ca := by have := HLEN.out; omega
      obtain ⟨xa, ka, rfl, _⟩ := hkd.slice
      have HKC := HRR.out j hjn xa ka
      have HOKK : Hid (Okp P.upTo (prtN l[j] P.upTo) ∧ (prtN l[j] P.upTo).upTo ≤ m ∧ (prtN l[j] P.upTo).upTo = ((S ++ setsL (l.take j)) ++ setsN l[j]).length) := by
        have := gd_all l[j] (HG.out _ (List.getElem_mem hjn)) P.upTo
        refine ⟨this.1, by rw [this.2]; exact HGK2.out, ?_⟩
        rw [this.2, HOK.out.2.2.2, ← List.length_append]
      obtain ⟨yk, hyk⟩ : ∃ y, y = l[j].k := ⟨_, rfl⟩
      obtain ⟨ys, hys⟩ : ∃ y, y = l[j].s := ⟨_, rfl⟩
      obtain ⟨yl, hyl⟩ : ∃ y, y = l[j].kids.length := ⟨_, rfl⟩
      unfold NodC at HKC
      rw [← hyk, ← hys, ← hyl] at HKC
      rw [← hyk] at p0
      rw [← hys] at p1
      rw [← hyl] at p2 hkd
      have hlow := HCr.out.fr.low
      have hrd := HKC wr _ _ _ _ HCr.out.mki (by have := hbw; omega) (((HNT.out.wide (by have := HOK.out.1.up; omega)).app (NtO.prt HOK.out.1)) |> fun h => by rw [← HOK.out.2.2.2]; exact h) (by rw [← HOK.out.2.2.2]; exact HGK2.out) (hkd.to (fun k hk => ⟨hlow k hk, hk⟩))
      rw [← HOK.out.2.2.2] at hrd
      obtain ⟨p, hp⟩ : ∃ p, p = prtN l[j] P.upTo := ⟨_, rfl⟩
      rw [← hp] at hrd HNX HOKK
      have r0 : wr.cell? ⟨ga, oa + j * 3, none⟩ = some (.int .i64 yk) := (World.cell?_of_block (a := ⟨ga, _, none⟩) (hlow ga hga)).trans p0
      have r1 : wr.cell? ⟨ga, oa + j * 3 + 1, none⟩ = some (.int .i64 ys) := (World.cell?_of_block (a := ⟨ga, _, none⟩) (hlow ga hga)).trans p1
      have r2 : wr.cell? ⟨ga, oa + j * 3 + 2, none⟩ = some (.slice xa yl ka) := (World.cell?_of_block (a := ⟨ga, _, none⟩) (hlow ga hga)).trans p2
      have hga2 : ga < wr.heap.size := by omega
      obtain ⟨nl, hnl⟩ : ∃ x, x = P.null := ⟨_, rfl⟩
      rw [← hnl] at HCr
      have HUN : Hid (nl = P.null) := hnl
      have hj0 : (0 : Int) ≤ (j : Int) := by omega
      have hj1 : (j : Int) < (len : Int) := by omega
      clear hP hp hnl hza hcc p0 p1 p2 hkd HKC hyk hys hyl hlow
      go_wp2_with fail
      refine hrd.mono ?_
      rintro e w1 ⟨sv1, fv1, pf, pl, rfl, hI1, hF1, hpf, hpl⟩
      obtain ⟨pa, pna, pc, rfl⟩ := hpf.any
      obtain ⟨qa, qn, qc, rfl⟩ := hpl.any
      obtain ⟨pn, hpn⟩ : ∃ x, x = p.null := ⟨_, rfl⟩
      have HPU : Hid (pn = p.null) := hpn
      rw [← hpn]
      obtain ⟨W1, hW1⟩ : ∃ W, W = w1.alloc (.cells #[.bool pn, (.slice pa pna pc), (.slice qa qn qc)] 78) := ⟨_, rfl⟩
      have hB1 : Below w1.heap.size w1 W1 := by rw [hW1]; exact below_alloc _ _
      have HC1 : Hid (CSt M base w.heap.size (w.heap.size + 1) w sv W1 sv1 fv1 ((S ++ setsL (l.take j)) ++ setsN l[j]) ((L ++ P.notes) ++ p.notes) nl (.slice fa fn' fc) (.slice la ln lc) P.first P.last) := (HCr.out.call hI1 hF1).below hB1
      have HX1 : Hid (XBx base w1.heap.size W1 sv1 pn (.slice pa pna pc) (.slice qa qn qc) p.first p.last) := ⟨by rw [hW1]; exact ebox_new _ _ _ _, hpf.below hB1, hpl.below hB1⟩
      have hs1 : w.heap.size + 1 < w1.heap.size := Nat.lt_of_lt_of_le hws hF1.size
      have hM1 : Hid (M < W1.heap.size ∧ W1.heap.size = w1.heap.size + 1) := ⟨HC1.out.mki.lt, by rw [hW1]; simp⟩
      have HT : Hid (p.upTo = ((S ++ setsL (l.take j)) ++ setsN l[j]).length) := HOKK.out.2.2
      have hnt := after_any M base W1 sv1 fv1 _ _ (.slice la ln lc) (.slice pa pna pc) P.last p.first HC1.out.mki HC1.out.hb HX1.out.ha (by rw [← HT.out]; exact HOK.out.1.last.wide (Nat.zero_le _) HOKK.out.1.up) (by rw [← HT.out]; exact HOKK.out.1.first.wide (Nat.zero_le _) (Nat.le_refl _)) (by rw [← HT.out]; have := HOKK.out.2.1; omega)
      have t2 : W1.cell? ⟨w.heap.size + 1, 2, none⟩ = some (.slice la ln lc) := HC1.out.ob.c2
      have t1 : W1.cell? ⟨w1.heap.size, 1, none⟩ = some (.slice pa pna pc) := HX1.out.bx.c1
      have hW1' : Hid (W1 = w1.alloc (.cells #[.bool pn, (.slice pa pna pc), (.slice qa qn qc)] 78)) := hW1
      rw [hW1] at t1 t2 hnt
      clear hrd hpf hpl hI1 hF1 hB1 hpn r0 r1 r2 hW1
      go_wp2_with fail
      refine hnt.mono ?_
      rintro e w2 ⟨rfl, hI2, hF2⟩
      rw [← hW1'.out] at hF2
      have HC2 : Hid (CSt M base w.heap.size (w.heap.size + 1) w sv w2 sv1 fv1 (S ++ setsL (l.take (j + 1))) (L ++ (catS P p).notes) nl (.slice fa fn' fc) (.slice la ln lc) P.first P.last) := by
        have e : (catS P p).notes = P.notes ++ (p.notes ++ [(P.last, p.first)]) := rfl
        have e2 : L ++ (catS P p).notes = ((L ++ P.notes) ++ p.notes) ++ [(P.last, p.first)] := by rw [e]; simp
        show CSt _ _ _ _ _ _ _ _ _ _ _ _ _ _ _ _
        rw [HST.out, e2]
        exact HC1.out.call (hI2.same (fun i y _ => by rw [fol_app _ [(P.last, p.first)], fol_one])) hF2
      have HX2 : Hid (XBx base w1.heap.size w2 sv1 pn (.slice pa pna pc) (.slice qa qn qc) p.first p.last) := HX1.out.fr hF2
      have HFT : Hid ((catS P p).null = (nl && pn) ∧ (catS P p).first = (if nl then P.first ++ p.first else P.first) ∧ (catS P p).last = (if pn then P.last ++ p.last else p.last)) := by
        rw [HUN.out, HPU.out]; exact ⟨rfl, rfl, rfl⟩
      have HBD : Hid ((∀ x ∈ P.first, x < 1000) ∧ (∀ x ∈ p.first, x < 1000) ∧ (∀ x ∈ P.last, x < 1000) ∧ (∀ x ∈ p.last, x < 1000) ∧ p.first.length ≤ 2000 ∧ p.last.length ≤ 2000) := by
        have a1 := HOKK.out.2.1
        have a2 := HOKK.out.1.up
        have k1 := HOKK.out.1.first.len a2
        have k2 := HOKK.out.1.last.len a2
        exact ⟨fun x hx => by have := HOK.out.1.first.2 x hx; omega, fun x hx => by have := HOKK.out.1.first.2 x hx; omega, fun x hx => by have := HOK.out.1.last.2 x hx; omega, fun x hx => by have := HOKK.out.1.last.2 x hx; omega, by omega, by omega⟩
      have hs2 : w1.heap.size < w2.heap.size := HX2.out.bx.lt
      have b0 : w2.cell? ⟨w.heap.size + 1, 0, none⟩ = some (.bool nl) := HC2.out.ob.c0
      have hne : ¬ w1.heap.size = w.heap.size + 1 := by omega
      clear hnt hI2 hF2 t1 t2
      cases nl with
      | true =>
        have b1 : w2.cell? ⟨w.heap.size + 1, 1, none⟩ = some (.slice fa fn' fc) := HC2.out.ob.c1
        have b2 : w2.cell? ⟨w1.heap.size, 1, none⟩ = some (.slice pa pna pc) := HX2.out.bx.c1
        have hjn1 := both_any (.slice fa fn' fc) (.slice pa pna pc) P.first p.first base w2 HC2.out.ha.1 HX2.out.ha.1 (by have := HC2.out.wsz; omega) HOK.out.1.first.1 HBD.out.1 HBD.out.2.1 HBD.out.2.2.2.2.1
        go_wp2_with fail
        refine hjn1.mono ?_
        rintro e w3 ⟨v3, rfl, l3, hv3, hr3, hk3, hB3⟩
        obtain rfl := both_app hr3 HOK.out.1.first HOKK.out.1.first HOK.out.1.up HOKK.out.1.up
        have hv3' : LstO base w3 sv1 v3 (P.first ++ p.first) := ⟨hv3, hk3.off HC2.out.mki.sets (Nat.le_refl _) HC2.out.ha.2⟩
        obtain ⟨ta, tn, tc, rfl⟩ := hv3'.any
        have hC3 := HC2.out.below hB3
        have hX3 := HX2.out.below hB3
        have f1 : w3.frozen? ⟨w.heap.size + 1, 1, none⟩ = false := hC3.ob.nf 1
        have f2 : w3.cell? ⟨w.heap.size + 1, 1, none⟩ = some (.slice fa fn' fc) := hC3.ob.c1
        obtain ⟨w4, hw4⟩ : ∃ W, W = w3.setCell ⟨w.heap.size + 1, 1, none⟩ (.slice ta tn tc) := ⟨_, rfl⟩
        have HC4 : Hid (CSt M base w.heap.size (w.heap.size + 1) w sv w4 sv1 fv1 (S ++ setsL (l.take (j + 1))) (L ++ (catS P p).notes) true (.slice ta tn tc) (.slice la ln lc) (catS P p).first P.last) := by
          show CSt _ _ _ _ _ _ _ _ _ _ _ _ _ _ _ _
          rw [HFT.out.2.1, hw4]
          exact hC3.s1 hv3'
        have HX4 : Hid (XBx base w1.heap.size w4 sv1 pn (.slice pa pna pc) (.slice qa qn qc) p.first p.last) := by rw [hw4]; exact hX3.only ((OnlyB.refl _ _).set _ _) hC3.ob hne
        have g0 : w4.cell? ⟨w1.heap.size, 0, none⟩ = some (.bool pn) := HX4.out.bx.c0
        have hs4 : w1.heap.size < w4.heap.size := HX4.out.bx.lt
        have HW4 : Hid (w4 = w3.setCell ⟨w.heap.size + 1, 1, none⟩ (.slice ta tn tc)) := hw4
        rw [hw4] at g0 hs4
        clear hjn1 hv3 hv3' hr3 hk3 hB3 hC3 hX3 b0 b1 b2
        cases pn with
        | true =>
          have b2 : w4.cell? ⟨w.heap.size + 1, 2, none⟩ = some (.slice la ln lc) := HC4.out.ob.c2
          have b3 : w4.cell? ⟨w1.heap.size, 2, none⟩ = some (.slice qa qn qc) := HX4.out.bx.c2
          have hjn2 := both_any (.slice la ln lc) (.slice qa qn qc) P.last p.last base w4 HC4.out.hb.1 HX4.out.hb.1 (by have := HC4.out.wsz; omega) HOK.out.1.last.1 HBD.out.2.2.1 HBD.out.2.2.2.1 HBD.out.2.2.2.2.2
          rw [hw4] at b2 b3 hjn2
          clear hw4
          go_wp2_with fail
          refine hjn2.mono ?_
          rw [← HW4.out]
          rintro e w5 ⟨v5, rfl, l5, hv5, hr5, hk5, hB5⟩
          obtain rfl := both_app hr5 HOK.out.1.last HOKK.out.1.last HOK.out.1.up HOKK.out.1.up
          have hv5' : LstO base w5 sv1 v5 (P.last ++ p.last) := ⟨hv5, hk5.off HC4.out.mki.sets (Nat.le_refl _) HC4.out.hb.2⟩
          obtain ⟨sa, sn, sc, rfl⟩ := hv5'.any
          have hC5 := HC4.out.below hB5
          have hX5 := HX4.out.below hB5
          have f3 : w5.frozen? ⟨w.heap.size + 1, 2, none⟩ = false := hC5.ob.nf 2
          have f4 : w5.cell? ⟨w.heap.size + 1, 2, none⟩ = some (.slice la ln lc) := hC5.ob.c2
          obtain ⟨w6, hw6⟩ : ∃ W, W = w5.setCell ⟨w.heap.size + 1, 2, none⟩ (.slice sa sn sc) := ⟨_, rfl⟩
          have hC6 : CSt M base w.heap.size (w.heap.size + 1) w sv w6 sv1 fv1 (S ++ setsL (l.take (j + 1))) (L ++ (catS P p).notes) true (.slice ta tn tc) (.slice sa sn sc) (catS P p).first (catS P p).last := by
            rw [HFT.out.2.2, hw6]
            exact hC5.s2 hv5'
          have hX6 : XBx base w1.heap.size w6 sv1 true (.slice pa pna pc) (.slice qa qn qc) p.first p.last := by rw [hw6]; exact hX5.only ((OnlyB.refl _ _).set _ _) hC5.ob hne
          have g1 : w6.cell? ⟨w1.heap.size, 0, none⟩ = some (.bool true) := hX6.bx.c0
          have g2 : w6.cell? ⟨w.heap.size + 1, 0, none⟩ = some (.bool true) := hC6.ob.c0
          have g3 : w6.frozen? ⟨w.heap.size + 1, 0, none⟩ = false := hC6.ob.nf 0
          have hs6 : w1.heap.size < w6.heap.size := hX6.bx.lt
          have HC7 : Hid (CSt M base w.heap.size (w.heap.size + 1) w sv (w6.setCell ⟨w.heap.size + 1, 0, none⟩ (.bool true)) sv1 fv1 (S ++ setsL (l.take (j + 1))) (L ++ (catL (l.take (j + 1)) (cat0 c)).notes) (catL (l.take (j + 1)) (cat0 c)).null (.slice ta tn tc) (.slice sa sn sc) (catL (l.take (j + 1)) (cat0 c)).first (catL (l.take (j + 1)) (cat0 c)).last) := by
            show CSt _ _ _ _ _ _ _ _ _ _ _ _ _ _ _ _
            rw [HNX.out, HFT.out.1]
            exact hC6.s0 _
          rw [hw6] at g1 g2 g3 hs6 HC7
          clear hjn2 hv5 hv5' hr5 hk5 hB5 hC5 hX5 hC6 hX6 b2 b3 g0 hw6
          go_wp2
          go_roundw
          case rel => exact ⟨j + 1, _, _, (.slice ta tn tc), (.slice sa sn sc), by omega, by go_num, HC7⟩
          case measure => simp [intOf]; omega
        | false =>
          have b3 : w4.cell? ⟨w1.heap.size, 2, none⟩ = some (.slice qa qn qc) := HX4.out.bx.c2
          have f3 : w4.frozen? ⟨w.heap.size + 1, 2, none⟩ = false := HC4.out.ob.nf 2
          have f4 : w4.cell? ⟨w.heap.size + 1, 2, none⟩ = some (.slice la ln lc) := HC4.out.ob.c2
          obtain ⟨w6, hw6⟩ : ∃ W, W = w4.setCell ⟨w.heap.size + 1, 2, none⟩ (.slice qa qn qc) := ⟨_, rfl⟩
          have hC6 : CSt M base w.heap.size (w.heap.size + 1) w sv w6 sv1 fv1 (S ++ setsL (l.take (j + 1))) (L ++ (catS P p).notes) true (.slice ta tn tc) (.slice qa qn qc) (catS P p).first (catS P p).last := by
            rw [HFT.out.2.2, hw6]
            exact HC4.out.s2 HX4.out.hb
          have hX6 : XBx base w1.heap.size w6 sv1 false (.slice pa pna pc) (.slice qa qn qc) p.first p.last := by rw [hw6]; exact HX4.out.only ((OnlyB.refl _ _).set _ _) HC4.out.ob hne
          have g1 : w6.cell? ⟨w1.heap.size, 0, none⟩ = some (.bool false) := hX6.bx.c0
          have g2 : w6.cell? ⟨w.heap.size + 1, 0, none⟩ = some (.bool true) := hC6.ob.c0
          have g3 : w6.frozen? ⟨w.heap.size + 1, 0, none⟩ = false := hC6.ob.nf 0
          have hs6 : w1.heap.size < w6.heap.size := hX6.bx.lt
          have HC7 : Hid (CSt M base w.heap.size (w.heap.size + 1) w sv (w6.setCell ⟨w.heap.size + 1, 0, none⟩ (.bool false)) sv1 fv1 (S ++ setsL (l.take (j + 1))) (L ++ (catL (l.take (j + 1)) (cat0 c)).notes) (catL (l.take (j + 1)) (cat0 c)).null (.slice ta tn tc) (.slice qa qn qc) (catL (l.take (j + 1)) (cat0 c)).first (catL (l.take (j + 1)) (cat0 c)).last) := by
            show CSt _ _ _ _ _ _ _ _ _ _ _ _ _ _ _ _
            rw [HNX.out, HFT.out.1]
            exact hC6.s0 _
          rw [hw6, hw4] at g1 g2 g3 hs6 HC7
          rw [hw4] at b3 f3 f4
          clear hC6 hX6 hw6 hw4
          go_wp2
          go_roundw
          case rel => exact ⟨j + 1, _, _, (.slice ta tn tc), (.slice qa qn qc), by omega, by go_num, HC7⟩
          case measure => simp [intOf]; omega
      | false =>
        obtain ⟨w4, hw4⟩ : ∃ W, W = w2 := ⟨_, rfl⟩
        have HC4 : Hid (CSt M base w.heap.size (w.heap.size + 1) w sv w4 sv1 fv1 (S ++ setsL (l.take (j + 1))) (L ++ (catS P p).notes) false (.slice fa fn' fc) (.slice la ln lc) (catS P p).first P.last) := by
          show CSt _ _ _ _ _ _ _ _ _ _ _ _ _ _ _ _
          rw [HFT.out.2.1, hw4]
          exact HC2.out
        have HX4 : Hid (XBx base w1.heap.size w4 sv1 pn (.slice pa pna pc) (.slice qa qn qc) p.first p.last) := by rw [hw4]; exact HX2.out
        have g0 : w2.cell? ⟨w1.heap.size, 0, none⟩ = some (.bool pn) := HX2.out.bx.c0
        have HW4 : Hid (w4 = w2) := hw4
        cases pn with
        | true =>
          have b2 : w4.cell? ⟨w.heap.size + 1, 2, none⟩ = some (.slice la ln lc) := HC4.out.ob.c2
          have b3 : w4.cell? ⟨w1.heap.size, 2, none⟩ = some (.slice qa qn qc) := HX4.out.bx.c2
          have hjn2 := both_any (.slice la ln lc) (.slice qa qn qc) P.last p.last base w4 HC4.out.hb.1 HX4.out.hb.1 (by have := HC4.out.wsz; omega) HOK.out.1.last.1 HBD.out.2.2.1 HBD.out.2.2.2.1 HBD.out.2.2.2.2.2
          rw [hw4] at b2 b3 hjn2
          clear hw4
          go_wp2_with fail
          refine hjn2.mono ?_
          rw [← HW4.out]
          rintro e w5 ⟨v5, rfl, l5, hv5, hr5, hk5, hB5⟩
          obtain rfl := both_app hr5 HOK.out.1.last HOKK.out.1.last HOK.out.1.up HOKK.out.1.up
          have hv5' : LstO base w5 sv1 v5 (P.last ++ p.last) := ⟨hv5, hk5.off HC4.out.mki.sets (Nat.le_refl _) HC4.out.hb.2⟩
          obtain ⟨sa, sn, sc, rfl⟩ := hv5'.any
          have hC5 := HC4.out.below hB5
          have hX5 := HX4.out.below hB5
          have f3 : w5.frozen? ⟨w.heap.size + 1, 2, none⟩ = false := hC5.ob.nf 2
          have f4 : w5.cell? ⟨w.heap.size + 1, 2, none⟩ = some (.slice la ln lc) := hC5.ob.c2
          obtain ⟨w6, hw6⟩ : ∃ W, W = w5.setCell ⟨w.heap.size + 1, 2, none⟩ (.slice sa sn sc) := ⟨_, rfl⟩
          have hC6 : CSt M base w.heap.size (w.heap.size + 1) w sv w6 sv1 fv1 (S ++ setsL (l.take (j + 1))) (L ++ (catS P p).notes) false (.slice fa fn' fc) (.slice sa sn sc) (catS P p).first (catS P p).last := by
            rw [HFT.out.2.2, hw6]
            exact hC5.s2 hv5'
          have hX6 : XBx base w1.heap.size w6 sv1 true (.slice pa pna pc) (.slice qa qn qc) p.first p.last := by rw [hw6]; exact hX5.only ((OnlyB.refl _ _).set _ _) hC5.ob hne
          have g1 : w6.cell? ⟨w1.heap.size, 0, none⟩ = some (.bool true) := hX6.bx.c0
          have g2 : w6.cell? ⟨w.heap.size + 1, 0, none⟩ = some (.bool false) := hC6.ob.c0
          have g3 : w6.frozen? ⟨w.heap.size + 1, 0, none⟩ = false := hC6.ob.nf 0
          have hs6 : w1.heap.size < w6.heap.size := hX6.bx.lt
          have HC7 : Hid (CSt M base w.heap.size (w.heap.size + 1) w sv (w6.setCell ⟨w.heap.size + 1, 0, none⟩ (.bool false)) sv1 fv1 (S ++ setsL (l.take (j + 1))) (L ++ (catL (l.take (j + 1)) (cat0 c)).notes) (catL (l.take (j + 1)) (cat0 c)).null (.slice fa fn' fc) (.slice sa sn sc) (catL (l.take (j + 1)) (cat0 c)).first (catL (l.take (j + 1)) (cat0 c)).last) := by
            show CSt _ _ _ _ _ _ _ _ _ _ _ _ _ _ _ _
            rw [HNX.out, HFT.out.1]
            exact hC6.s0 _
          rw [hw6] at g1 g2 g3 hs6 HC7
          clear hjn2 hv5 hv5' hr5 hk5 hB5 hC5 hX5 hC6 hX6 b2 b3 g0 hw6
          go_wp2
          go_roundw
          case rel => exact ⟨j + 1, _, _, (.slice fa fn' fc), (.slice sa sn sc), by omega, by go_num, HC7⟩
          case measure => simp [intOf]; omega
        | false =>
          have b3 : w4.cell? ⟨w1.heap.size, 2, none⟩ = some (.slice qa qn qc) := HX4.out.bx.c2
          have f3 : w4.frozen? ⟨w.heap.size + 1, 2, none⟩ = false := HC4.out.ob.nf 2
          have f4 : w4.cell? ⟨w.heap.size + 1, 2, none⟩ = some (.slice la ln lc) := HC4.out.ob.c2
          obtain ⟨w6, hw6⟩ : ∃ W, W = w4.setCell ⟨w.heap.size + 1, 2, none⟩ (.slice qa qn qc) := ⟨_, rfl⟩
          have hC6 : CSt M base w.heap.size (w.heap.size + 1) w sv w6 sv1 fv1 (S ++ setsL (l.take (j + 1))) (L ++ (catS P p).notes) false (.slice fa fn' fc) (.slice qa qn qc) (catS P p).first (catS P p).last := by
            rw [HFT.out.2.2, hw6]
            exact HC4.out.s2 HX4.out.hb
          have hX6 : XBx base w1.heap.size w6 sv1 false (.slice pa pna pc) (.slice qa qn qc) p.first p.last := by rw [hw6]; exact HX4.out.only ((OnlyB.refl _ _).set _ _) HC4.out.ob hne
          have g1 : w6.cell? ⟨w1.heap.size, 0, none⟩ = some (.bool false) := hX6.bx.c0
          have g2 : w6.cell? ⟨w.heap.size + 1, 0, none⟩ = some (.bool false) := hC6.ob.c0
          have g3 : w6.frozen? ⟨w.heap.size + 1, 0, none⟩ = false := hC6.ob.nf 0
          have hs6 : w1.heap.size < w6.heap.size := hX6.bx.lt
          have HC7 : Hid (CSt M base w.heap.size (w.heap.size + 1) w sv (w6.setCell ⟨w.heap.size + 1, 0, none⟩ (.bool false)) sv1 fv1 (S ++ setsL (l.take (j + 1))) (L ++ (catL (l.take (j + 1)) (cat0 c)).notes) (catL (l.take (j + 1)) (cat0 c)).null (.slice fa fn' fc) (.slice qa qn qc) (catL (l.take (j + 1)) (cat0 c)).first (catL (l.take (j + 1)) (cat0 c)).last) := by
            show CSt _ _ _ _ _ _ _ _ _ _ _ _ _ _ _ _
            rw [HNX.out, HFT.out.1]
            exact hC6.s0 _
          rw [hw6, hw4] at g1 g2 g3 hs6 HC7
          rw [hw4] at b3 f3 f4
          clear hC6 hX6 hw6 hw4
          go_wp2
          go_roundw
          case rel => exact ⟨j + 1, _, _, (.slice fa fn' fc), (.slice qa qn qc), by omega, by go_num, HC7⟩
          case measure => simp [intOf]; omega
    · obtain rfl : j = len := by omega
      have HEQ : Hid (l.take j = l) := List.take_of_length_le (by rw [← HLEN.out]; exact Nat.le_refl _)
      obtain ⟨P, hP⟩ : ∃ P, P = catL l (cat0 c) := ⟨_, rfl⟩
      rw [HEQ.out, ← hP] at HCr
      have HPP : Hid (P = catL l (cat0 c)) := hP
      have d0 : wr.cell? ⟨w.heap.size + 1, 0, none⟩ = some (.bool P.null) := HCr.out.ob.c0
      have d1 : wr.cell? ⟨w.heap.size + 1, 1, none⟩ = some (.slice fa fn' fc) := HCr.out.ob.c1
      have d2 : wr.cell? ⟨w.heap.size + 1, 2, none⟩ = some (.slice la ln lc) := HCr.out.ob.c2
      have e0 : wr.cell? ⟨w.heap.size, 0, none⟩ = some (.bool false) := HCr.out.rb.c0
      have e1 : wr.cell? ⟨w.heap.size, 1, none⟩ = some (.slice none 0 0) := HCr.out.rb.c1
      have e2 : wr.cell? ⟨w.heap.size, 2, none⟩ = some (.slice none 0 0) := HCr.out.rb.c2
      have f0 : wr.frozen? ⟨w.heap.size, 0, none⟩ = false := HCr.out.rb.nf 0
      have f1 : wr.frozen? ⟨w.heap.size, 1, none⟩ = false := HCr.out.rb.nf 1
      have f2 : wr.frozen? ⟨w.heap.size, 2, none⟩ = false := HCr.out.rb.nf 2
      have HQ : Hid (OnlyB w.heap.size wr (((wr.setCell ⟨w.heap.size, 0, none⟩ (.bool P.null)).setCell ⟨w.heap.size, 1, none⟩ (.slice fa fn' fc)).setCell ⟨w.heap.size, 2, none⟩ (.slice la ln lc))) := (((OnlyB.refl _ _).set _ _).set _ _).set _ _
      have HX : Hid (EBox (((wr.setCell ⟨w.heap.size, 0, none⟩ (.bool P.null)).setCell ⟨w.heap.size, 1, none⟩ (.slice fa fn' fc)).setCell ⟨w.heap.size, 2, none⟩ (.slice la ln lc)) w.heap.size P.null (.slice fa fn' fc) (.slice la ln lc)) := ((HCr.out.rb.s0 _).s1 _).s2 _
      clear hP
      go_wp2
      refine bodyPost_ret (results_cell_row rfl _ _ w.heap.size 78 #[.bool P.null, (.slice fa fn' fc), (.slice la ln lc)] (0, 0) _ rfl ?_ Tryd.underlying78 rfl (by kernel_rfl)) rfl ?_
      · exact HX.out
      · rw [← HPP.out]
        exact ⟨_, _, (.slice fa fn' fc), (.slice la ln lc), rfl, HCr.out.mki.only HQ.out HCr.out.rb edge_not, HCr.out.fr.only HQ.out (Nat.le_refl _) hbw HCr.out.rb (by decide), HCr.out.ha.only HQ.out HCr.out.rb, HCr.out.hb.only HQ.out HCr.out.rb⟩
end Go.Proofs.YtehkaiohmcenbaaDoor
