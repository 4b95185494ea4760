/-
  The end of the document's reading of a part; and where it hands on to cat. The document's maker reads parts any of which may stand.
-/
import Derived.Test.YtehkaiohmcenbaaDoorFlRCat
namespace Go.Proofs.YtehkaiohmcenbaaDoor
open Go.RowKit Go.Shelf
set_option linter.unusedVariables false

theorem edg_fin {M base r : Nat} {w w1 : World} {sv sv1 fv1 va vb x0 y0 : Value} {S T : List Int} {L : List (List Nat × List Nat)} {p : Prt} {n0 : Bool} (hI : MkI M base w1 sv1 fv1 (S ++ T) (fol (L ++ p.notes))) (hF : FrM base w sv w1 sv1) (hr : EBox w1 r n0 x0 y0) (hrw : w.heap.size ≤ r) (hb : base ≤ w.heap.size) (h1 : LstO base w1 sv1 va p.first) (h2 : LstO base w1 sv1 vb p.last) :
    EBox (((w1.setCell ⟨r, 0, none⟩ (.bool p.null)).setCell ⟨r, 1, none⟩ va).setCell ⟨r, 2, none⟩ vb) r p.null va vb ∧ EdgA M base w sv S L T p (.returned (.agg #[.bool p.null, va, vb])) (((w1.setCell ⟨r, 0, none⟩ (.bool p.null)).setCell ⟨r, 1, none⟩ va).setCell ⟨r, 2, none⟩ vb) := by
  have hO : OnlyB r w1 (((w1.setCell ⟨r, 0, none⟩ (.bool p.null)).setCell ⟨r, 1, none⟩ va).setCell ⟨r, 2, none⟩ vb) := (((OnlyB.refl _ _).set _ _).set _ _).set _ _
  exact ⟨((hr.s0 _).s1 _).s2 _, _, _, _, _, rfl, hI.only hO hr edge_not, hF.only hO hrw hb hr (by decide), h1.only hO hr, h2.only hO hr⟩
theorem EdgA.lift {M base : Nat} {w W : World} {sv : Value} {S T : List Int} {L : List (List Nat × List Nat)} {p : Prt} {e : Ending} {w' : World} (h : EdgA M base W sv S L T p e w') (hb : Below w.heap.size w W) (hbw : base ≤ w.heap.size) : EdgA M base w sv S L T p e w' := by
  obtain ⟨sv', fv', va, vb, h1, h2, h3, h4, h5⟩ := h
  exact ⟨sv', fv', va, vb, h1, h2, (FrM.of sv hb hbw).trans h3, h4, h5⟩

set_option maxRecDepth 100000 in
set_option maxHeartbeats 16000000 in
theorem rnode_cat {M base m : Nat} (hm : m ≤ 400) (s : Int) (l : List Nd) (za : Option Addr) (ca : Nat) (w : World) (sv fv : Value) (S : List Int) (L : List (List Nat × List Nat)) (hI : MkI M base w sv fv S (fol L)) (hbw : base ≤ w.heap.size) (hN : NtO S.length L) (hg : ∀ x ∈ l, rightN x = true) (hcm : S.length + (setsL l).length ≤ m) (hl : l.length ≤ 1000) (hz : KdX (fun k => k < base) w (.slice za l.length ca) l)
    (HR : ∀ i, (h : i < l.length) → ∀ xa ka, NodC M base m l[i] xa ka) :
    Calls Tryd.prog 46 #[.pointer (some ⟨M, 0, none⟩), .agg #[.int .i64 0, .int .i64 s, .slice za l.length ca]] w (EdgA M base w sv S L (setsL l) (catL l (cat0 S.length))) := by
  obtain ⟨len, hlen⟩ : ∃ len, len = l.length := ⟨_, rfl⟩
  obtain ⟨W0, hW0⟩ : ∃ W, W = (w.alloc (.cells #[.int .i64 0, .int .i64 s, .slice za len ca] 24)).alloc (.cells #[.bool false, .slice none 0 0, .slice none 0 0] 78) := ⟨_, rfl⟩
  obtain ⟨hE0, hE1, hB0, hs0⟩ := alloc2 hW0
  have hcat := rcat_any hm l za ca W0 sv fv S L (hI.below hB0) (by omega) hN hg hcm hl (hz.to (fun k hk => ⟨hB0.block k (by omega), hk⟩)) HR
  rw [← hlen] at hcat ⊢
  have HB0 : Hid (Below w.heap.size w W0) := hB0
  have HE1 : Hid (EBox W0 (w.heap.size + 1) false (.slice none 0 0) (.slice none 0 0)) := hE1
  have n2 : W0.cell? ⟨w.heap.size, 2, none⟩ = some (.slice za len ca) := cell_in hE0 2
  have hlt0 : w.heap.size + 1 < W0.heap.size := by omega
  obtain ⟨p, hp⟩ : ∃ p, p = catL l (cat0 S.length) := ⟨_, rfl⟩
  rw [← hp] at hcat ⊢
  have HW0 : Hid (W0 = _) := hW0
  rw [hW0] at hcat n2 hlt0
  clear hE0 hE1 hB0 hs0 hlen hp hN hcm hg hl hz HR hI
  go_enter Tryd.func46, Tryd.ntmps46
  go_wp2_with fail
  refine hcat.mono ?_
  rw [← HW0.out]
  rintro e w1 ⟨sv1, fv1, va, vb, rfl, hI1, hF1, hv1, hv2⟩
  obtain ⟨fa, fn', fc, rfl⟩ := hv1.any
  obtain ⟨la, ln, lc, rfl⟩ := hv2.any
  have hE := HE1.out.fr hF1
  have e0 : w1.cell? ⟨w.heap.size + 1, 0, none⟩ = some (.bool false) := hE.c0
  have e1 : w1.cell? ⟨w.heap.size + 1, 1, none⟩ = some (.slice none 0 0) := hE.c1
  have e2 : w1.cell? ⟨w.heap.size + 1, 2, none⟩ = some (.slice none 0 0) := hE.c2
  have f0 : w1.frozen? ⟨w.heap.size + 1, 0, none⟩ = false := hE.nf 0
  have f1 : w1.frozen? ⟨w.heap.size + 1, 1, none⟩ = false := hE.nf 1
  have f2 : w1.frozen? ⟨w.heap.size + 1, 2, none⟩ = false := hE.nf 2
  have HFIN : Hid (_ ∧ _) := edg_fin (T := setsL l) (L := L) hI1 ((FrM.of sv HB0.out hbw).trans hF1) hE (Nat.le_succ _) hbw hv1 hv2
  clear hcat hI1 hF1 hv1 hv2 hE n2 hlt0
  go_wp2
  refine bodyPost_ret (results_cell_row rfl _ _ (w.heap.size + 1) 78 #[.bool p.null, (.slice fa fn' fc), (.slice la ln lc)] (0, 0) _ rfl ?_ Tryd.underlying78 rfl (by kernel_rfl)) rfl ?_
  · exact HFIN.out.1
  · exact HFIN.out.2
end Go.Proofs.YtehkaiohmcenbaaDoor

namespace Go.Proofs.YtehkaiohmcenbaaDoor
open Go.RowKit Go.Shelf
set_option linter.unusedVariables false

set_option maxRecDepth 100000 in
set_option maxHeartbeats 32000000 in
theorem rnode_alt {M base m : Nat} (hm : m ≤ 400) (s : Int) (l : List Nd) (za : Option Addr) (ca : Nat) (w : World) (sv fv : Value) (S : List Int) (L : List (List Nat × List Nat)) (hI : MkI M base w sv fv S (fol L)) (hbw : base ≤ w.heap.size) (hN : NtO S.length L) (hg : ∀ x ∈ l, rightN x = true) (hcm : S.length + (setsL l).length ≤ m) (hl : l.length ≤ 1000) (hz : KdX (fun k => k < base) w (.slice za l.length ca) l)
    (HR : ∀ i, (h : i < l.length) → ∀ xa ka, NodC M base m l[i] xa ka) :
    Calls Tryd.prog 46 #[.pointer (some ⟨M, 0, none⟩), .agg #[.int .i64 2, .int .i64 s, .slice za l.length ca]] w (EdgA M base w sv S L (setsL l) (altL l (alt0 S.length))) := by
  obtain ⟨len, hlen⟩ : ∃ len, len = l.length := ⟨_, rfl⟩
  obtain ⟨W0, hW0⟩ : ∃ W, W = ((w.alloc (.cells #[.int .i64 2, .int .i64 s, .slice za len ca] 24)).alloc (.cells #[.bool false, .slice none 0 0, .slice none 0 0] 78)).alloc (.cells #[.bool false, .slice none 0 0, .slice none 0 0] 78) := ⟨_, rfl⟩
  obtain ⟨hNB, hE0, hE1, hB0, hs0⟩ := alloc3 hW0
  have HNB : Hid (Box W0 w.heap.size 2 s (.slice za len ca)) := hNB
  have HLEN : Hid (len = l.length) := hlen
  have HK : Hid (KdX (fun k => k < base) w (.slice za len ca) l) := by rw [hlen]; exact hz
  rw [← hlen] at hl ⊢
  obtain ⟨c, hc⟩ : ∃ c, c = S.length := ⟨_, rfl⟩
  have HC : Hid (c = S.length) := hc
  rw [← hc] at hcm hN ⊢
  have HRR : Hid (∀ i, (h : i < l.length) → ∀ xa ka, NodC M base m l[i] xa ka) := HR
  have HG : Hid (∀ x ∈ l, rightN x = true) := hg
  have HNT : Hid (NtO c L) := hN
  have HC0 : Hid (CSt M base (w.heap.size + 1) (w.heap.size + 2) w sv W0 sv fv (S ++ setsL (l.take 0)) (L ++ (altL (l.take 0) (alt0 c)).notes) (altL (l.take 0) (alt0 c)).null (.slice none 0 0) (.slice none 0 0) (altL (l.take 0) (alt0 c)).first (altL (l.take 0) (alt0 c)).last) := by
    have e1 : S ++ setsL (l.take 0) = S := by simp [setsL]
    have e2 : L ++ (altL (l.take 0) (alt0 c)).notes = L := by simp [altL, altF, alt0]
    show CSt _ _ _ _ _ _ _ _ _ _ _ _ _ _ _ _
    rw [e1, e2]
    exact ⟨hI.below hB0, FrM.of sv hB0 hbw, hE0, hE1, LstO.nil _ _ _, LstO.nil _ _ _, by omega, by omega, by omega, hbw⟩
  have HW0 : Hid (W0 = _) := hW0
  -- what is known of the first parts
  have HGD : Hid (∀ j, j ≤ l.length → Okp c (altL (l.take j) (alt0 c)) ∧ (altL (l.take j) (alt0 c)).upTo ≤ m ∧ c ≤ m ∧ (altL (l.take j) (alt0 c)).upTo = (S ++ setsL (l.take j)).length) := fun j hj => by
    have := gd_alt (l.take j) (fun x hx => gd_all x (hg x (List.mem_of_mem_take hx))) c (alt0 c) (okp_alt0 c)
    have h2 : (setsL (l.take j)).length ≤ (setsL l).length := by
      have e : setsL l = setsL (l.take j) ++ setsL (l.drop j) := by rw [← setsL_app, List.take_append_drop]
      rw [e, List.length_append]; omega
    refine ⟨this.1, ?_, by omega, ?_⟩
    · rw [this.2]
      show c + _ ≤ m
      omega
    · rw [this.2, List.length_append, ← hc]
      rfl
  have HGK : Hid (∀ j, (h : j < l.length) → (altL (l.take j) (alt0 c)).upTo + (setsN l[j]).length ≤ m) := fun j hj => by
    have h1 := (HGD.out (j + 1) hj).2.1
    rw [take_snoc hj, altL_snoc] at h1
    have h2 := (gd_all l[j] (hg _ (List.getElem_mem hj)) (altL (l.take j) (alt0 c)).upTo).2
    have h3 : (altS (altL (l.take j) (alt0 c)) (prtN l[j] (altL (l.take j) (alt0 c)).upTo)).upTo = (prtN l[j] (altL (l.take j) (alt0 c)).upTo).upTo := rfl
    rw [h3] at h1
    omega
  clear hNB hE0 hE1 hB0 hs0 hW0 hlen hz HR hg hcm hI hN hc
  go_enter Tryd.func46, Tryd.ntmps46
  go_wp2
  rw [← HW0.out]
  go_loopw [7] (fun x6 wr => ∃ (j : Nat) (sv' fv' va vb : Value), j ≤ len ∧ x6 = .int .i64 (j : Int) ∧ Hid (Box wr w.heap.size 2 s (.slice za len ca)) ∧ Hid (CSt M base (w.heap.size + 1) (w.heap.size + 2) w sv wr sv' fv' (S ++ setsL (l.take j)) (L ++ (altL (l.take j) (alt0 c)).notes) (altL (l.take j) (alt0 c)).null va vb (altL (l.take j) (alt0 c)).first (altL (l.take j) (alt0 c)).last)) (fun x6 _ => len - (intOf x6).toNat)
  case atStart => exact ⟨0, _, _, _, _, Nat.zero_le _, rfl, HNB, HC0⟩
  case round =>
    obtain ⟨j, sv', fv', va, vb, hj, rfl, HNr, HCr⟩ := hrel
    have hws : w.heap.size + 2 < wr.heap.size := HCr.out.lt
    have nb2 : wr.cell? ⟨w.heap.size, 2, none⟩ = some (.slice za len ca) := HNr.out.c2
    obtain ⟨fa, fn', fc, rfl⟩ := HCr.out.ha.any
    obtain ⟨la, ln, lc, rfl⟩ := HCr.out.hb.any
    by_cases hjl : j < len
    · have hjn : j < l.length := by rw [← HLEN.out]; exact hjl
      obtain ⟨P, hP⟩ : ∃ P, P = altL (l.take j) (alt0 c) := ⟨_, rfl⟩
      have HNX : Hid (altL (l.take (j + 1)) (alt0 c) = altS P (prtN l[j] P.upTo)) := by show _ = _; rw [take_snoc hjn, altL_snoc, ← hP]
      have HOK : Hid (Okp c P ∧ P.upTo ≤ m ∧ c ≤ m ∧ P.upTo = (S ++ setsL (l.take j)).length) := by rw [hP]; exact HGD.out j (Nat.le_of_lt hjn)
      have HGK2 : Hid (P.upTo + (setsN l[j]).length ≤ m) := by rw [hP]; exact HGK.out j hjn
      have HST : Hid (S ++ setsL (l.take (j + 1)) = (S ++ setsL (l.take j)) ++ setsN l[j]) := by
        show _ = _
        rw [take_snoc hjn, setsL_app, List.append_assoc]
        simp [setsL]
      rw [← hP] at HCr
      obtain ⟨ga, oa, cc, z', hza, hcc, hga, p0, p1, p2, hkd⟩ := HK.out.at j hjn
      obtain ⟨rfl, hqq, rfl⟩ : za = some ⟨ga, oa, none⟩ ∧ len = l.length ∧ ca = cc := by simpa using hza
      clear hqq
      have hcca : len ≤ ca := by have := HLEN.out; omega
      obtain ⟨xa, ka, rfl, _⟩ := hkd.slice
      have HKC := HRR.out j hjn xa ka
      have HOKK : Hid (Okp P.upTo (prtN l[j] P.upTo) ∧ (prtN l[j] P.upTo).upTo ≤ m ∧ (prtN l[j] P.upTo).upTo = ((S ++ setsL (l.take j)) ++ setsN l[j]).length) := by
        have := gd_all l[j] (HG.out _ (List.getElem_mem hjn)) P.upTo
        refine ⟨this.1, by rw [this.2]; exact HGK2.out, ?_⟩
        rw [this.2, HOK.out.2.2.2, ← List.length_append]
      obtain ⟨yk, hyk⟩ : ∃ y, y = l[j].k := ⟨_, rfl⟩
      obtain ⟨ys, hys⟩ : ∃ y, y = l[j].s := ⟨_, rfl⟩
      obtain ⟨yl, hyl⟩ : ∃ y, y = l[j].kids.length := ⟨_, rfl⟩
      unfold NodC at HKC
      rw [← hyk, ← hys, ← hyl] at HKC
      rw [← hyk] at p0
      rw [← hys] at p1
      rw [← hyl] at p2 hkd
      have hlow := HCr.out.fr.low
      have hrd := HKC wr _ _ _ _ HCr.out.mki (by have := hbw; omega) (((HNT.out.wide (by have := HOK.out.1.up; omega)).app (NtO.prt HOK.out.1)) |> fun h => by rw [← HOK.out.2.2.2]; exact h) (by rw [← HOK.out.2.2.2]; exact HGK2.out) (hkd.to (fun k hk => ⟨hlow k hk, hk⟩))
      rw [← HOK.out.2.2.2] at hrd
      obtain ⟨p, hp⟩ : ∃ p, p = prtN l[j] P.upTo := ⟨_, rfl⟩
      rw [← hp] at hrd HNX HOKK
      have r0 : wr.cell? ⟨ga, oa + j * 3, none⟩ = some (.int .i64 yk) := (World.cell?_of_block (a := ⟨ga, _, none⟩) (hlow ga hga)).trans p0
      have r1 : wr.cell? ⟨ga, oa + j * 3 + 1, none⟩ = some (.int .i64 ys) := (World.cell?_of_block (a := ⟨ga, _, none⟩) (hlow ga hga)).trans p1
      have r2 : wr.cell? ⟨ga, oa + j * 3 + 2, none⟩ = some (.slice xa yl ka) := (World.cell?_of_block (a := ⟨ga, _, none⟩) (hlow ga hga)).trans p2
      have hga2 : ga < wr.heap.size := by omega
      obtain ⟨nl, hnl⟩ : ∃ x, x = P.null := ⟨_, rfl⟩
      rw [← hnl] at HCr
      have HUN : Hid (nl = P.null) := hnl
      have hj0 : (0 : Int) ≤ (j : Int) := by omega
      have hj1 : (j : Int) < (len : Int) := by omega
      clear hP hp hnl hza hcc p0 p1 p2 hkd HKC hyk hys hyl hlow
      go_wp2_with fail
      refine hrd.mono ?_
      rintro e w1 ⟨sv1, fv1, pf, pl, rfl, hI1, hF1, hpf, hpl⟩
      obtain ⟨pa, pna, pc, rfl⟩ := hpf.any
      obtain ⟨qa, qn, qc, rfl⟩ := hpl.any
      obtain ⟨pn, hpn⟩ : ∃ x, x = p.null := ⟨_, rfl⟩
      have HPU : Hid (pn = p.null) := hpn
      rw [← hpn]
      obtain ⟨W1, hW1⟩ : ∃ W, W = w1.alloc (.cells #[.bool pn, (.slice pa pna pc), (.slice qa qn qc)] 78) := ⟨_, rfl⟩
      have hB1 : Below w1.heap.size w1 W1 := by rw [hW1]; exact below_alloc _ _
      have HC1 : Hid (CSt M base (w.heap.size + 1) (w.heap.size + 2) w sv W1 sv1 fv1 ((S ++ setsL (l.take j)) ++ setsN l[j]) ((L ++ P.notes) ++ p.notes) nl (.slice fa fn' fc) (.slice la ln lc) P.first P.last) := (HCr.out.call hI1 hF1).below hB1
      have HX1 : Hid (XBx base w1.heap.size W1 sv1 pn (.slice pa pna pc) (.slice qa qn qc) p.first p.last) := ⟨by rw [hW1]; exact ebox_new _ _ _ _, hpf.below hB1, hpl.below hB1⟩
      have hs1 : w.heap.size + 2 < w1.heap.size := Nat.lt_of_lt_of_le hws hF1.size
      have HN1 : Hid (Box W1 w.heap.size 2 s (.slice (some ⟨ga, oa, none⟩) len ca)) := ((hF1.typ _ _ _ _ HNr.out node_not).trans HNr.out |> fun h => (show Box w1 w.heap.size 2 s (.slice (some ⟨ga, oa, none⟩) len ca) from h)).below hB1
      have HSW : Hid (W1.heap.size = w1.heap.size + 1) := by show _ = _; rw [hW1]; simp
      have HFT : Hid ((altS P p).null = (nl || pn) ∧ (altS P p).first = P.first ++ p.first ∧ (altS P p).last = P.last ++ p.last) := by
        rw [HUN.out, HPU.out]; exact ⟨rfl, rfl, rfl⟩
      have HC2 : Hid (CSt M base (w.heap.size + 1) (w.heap.size + 2) w sv (W1.setCell ⟨w.heap.size + 2, 0, none⟩ (.bool (nl || pn))) sv1 fv1 (S ++ setsL (l.take (j + 1))) (L ++ (altS P p).notes) (altS P p).null (.slice fa fn' fc) (.slice la ln lc) P.first P.last) := by
        have e : (altS P p).notes = P.notes ++ p.notes := rfl
        have e2 : L ++ (altS P p).notes = (L ++ P.notes) ++ p.notes := by rw [e]; simp
        show CSt _ _ _ _ _ _ _ _ _ _ _ _ _ _ _ _
        rw [HST.out, e2, HFT.out.1]
        exact HC1.out.s0 _
      have hne : ¬ w1.heap.size = w.heap.size + 2 := by omega
      have HX2 : Hid (XBx base w1.heap.size (W1.setCell ⟨w.heap.size + 2, 0, none⟩ (.bool (nl || pn))) sv1 pn (.slice pa pna pc) (.slice qa qn qc) p.first p.last) := HX1.out.only ((OnlyB.refl _ _).set _ _) HC1.out.ob hne
      have HN2 : Hid (Box (W1.setCell ⟨w.heap.size + 2, 0, none⟩ (.bool (nl || pn))) w.heap.size 2 s (.slice (some ⟨ga, oa, none⟩) len ca)) := ((OnlyB.refl _ W1).set _ _).block w.heap.size (by omega) |> fun h => h.trans HN1.out
      have HBD : Hid ((∀ x ∈ P.first, x < 1000) ∧ (∀ x ∈ p.first, x < 1000) ∧ (∀ x ∈ P.last, x < 1000) ∧ (∀ x ∈ p.last, x < 1000) ∧ p.first.length ≤ 2000 ∧ p.last.length ≤ 2000) := by
        have a1 := HOKK.out.2.1
        have a2 := HOKK.out.1.up
        have k1 := HOKK.out.1.first.len a2
        have k2 := HOKK.out.1.last.len a2
        exact ⟨fun x hx => by have := HOK.out.1.first.2 x hx; omega, fun x hx => by have := HOKK.out.1.first.2 x hx; omega, fun x hx => by have := HOK.out.1.last.2 x hx; omega, fun x hx => by have := HOKK.out.1.last.2 x hx; omega, by omega, by omega⟩
      have b0 : W1.cell? ⟨w.heap.size + 2, 0, none⟩ = some (.bool nl) := HC1.out.ob.c0
      have b1 : W1.cell? ⟨w1.heap.size, 0, none⟩ = some (.bool pn) := HX1.out.bx.c0
      have bf : W1.frozen? ⟨w.heap.size + 2, 0, none⟩ = false := HC1.out.ob.nf 0
      have hW1' : Hid (W1 = w1.alloc (.cells #[.bool pn, (.slice pa pna pc), (.slice qa qn qc)] 78)) := hW1
      clear hrd hpf hpl hI1 hF1 hB1 hpn r0 r1 r2 nb2
      go_upto_region 15 with fail
      rw [← hW1]
      have hlt1 : w1.heap.size < W1.heap.size := by rw [hW1]; simp
      clear hW1
      obtain ⟨w2, hw2⟩ : ∃ W, W = W1.setCell ⟨w.heap.size + 2, 0, none⟩ (.bool (nl || pn)) := ⟨_, rfl⟩
      have HW2 : Hid (w2 = W1.setCell ⟨w.heap.size + 2, 0, none⟩ (.bool (nl || pn))) := hw2
      rw [← hw2] at HC2 HX2 HN2
      clear hw2
      go_cut [] from 52 to 84 (fun wx => wx = w2)
      case first =>
        cases nl with
        | true =>
          go_wp2
          go_meet
          exact HW2.out.symm
        | false =>
          go_wp2
          go_meet
          exact HW2.out.symm
      case rest =>
        obtain rfl := hcut
        have hs2 : w1.heap.size < wc.heap.size := HX2.out.bx.lt
        have c1 : wc.cell? ⟨w.heap.size + 2, 1, none⟩ = some (.slice fa fn' fc) := HC2.out.ob.c1
        have c2 : wc.cell? ⟨w1.heap.size, 1, none⟩ = some (.slice pa pna pc) := HX2.out.bx.c1
        have hjn1 := both_any (.slice fa fn' fc) (.slice pa pna pc) P.first p.first base wc HC2.out.ha.1 HX2.out.ha.1 (by have := HC2.out.wsz; omega) HOK.out.1.first.1 HBD.out.1 HBD.out.2.1 HBD.out.2.2.2.2.1
        clear b0 b1 bf HW2
        go_wp2_with fail
        refine hjn1.mono ?_
        rintro e w3 ⟨v3, rfl, l3, hv3, hr3, hk3, hB3⟩
        obtain rfl := both_app hr3 HOK.out.1.first HOKK.out.1.first HOK.out.1.up HOKK.out.1.up
        have hv3' : LstO base w3 sv1 v3 (P.first ++ p.first) := ⟨hv3, hk3.off HC2.out.mki.sets (Nat.le_refl _) HC2.out.ha.2⟩
        obtain ⟨ta, tn, tc, rfl⟩ := hv3'.any
        have hC3 := HC2.out.below hB3
        have hX3 := HX2.out.below hB3
        have hN3 := HN2.out.below hB3
        have f1 : w3.frozen? ⟨w.heap.size + 2, 1, none⟩ = false := hC3.ob.nf 1
        have f2 : w3.cell? ⟨w.heap.size + 2, 1, none⟩ = some (.slice fa fn' fc) := hC3.ob.c1
        obtain ⟨w4, hw4⟩ : ∃ W, W = w3.setCell ⟨w.heap.size + 2, 1, none⟩ (.slice ta tn tc) := ⟨_, rfl⟩
        have hO4 : OnlyB (w.heap.size + 2) w3 w4 := by rw [hw4]; exact (OnlyB.refl _ _).set _ _
        have HC4 : Hid (CSt M base (w.heap.size + 1) (w.heap.size + 2) w sv w4 sv1 fv1 (S ++ setsL (l.take (j + 1))) (L ++ (altS P p).notes) (altS P p).null (.slice ta tn tc) (.slice la ln lc) (altS P p).first P.last) := by
          show CSt _ _ _ _ _ _ _ _ _ _ _ _ _ _ _ _
          rw [HFT.out.2.1, hw4]
          exact hC3.s1 hv3'
        have HX4 : Hid (XBx base w1.heap.size w4 sv1 pn (.slice pa pna pc) (.slice qa qn qc) p.first p.last) := hX3.only hO4 hC3.ob hne
        have HN4 : Hid (Box w4 w.heap.size 2 s (.slice (some ⟨ga, oa, none⟩) len ca)) := (hO4.block w.heap.size (by omega)).trans hN3
        have hs4 : w1.heap.size < w4.heap.size := HX4.out.bx.lt
        have b2 : w4.cell? ⟨w.heap.size + 2, 2, none⟩ = some (.slice la ln lc) := HC4.out.ob.c2
        have b3 : w4.cell? ⟨w1.heap.size, 2, none⟩ = some (.slice qa qn qc) := HX4.out.bx.c2
        have hjn2 := both_any (.slice la ln lc) (.slice qa qn qc) P.last p.last base w4 HC4.out.hb.1 HX4.out.hb.1 (by have := HC4.out.wsz; omega) HOK.out.1.last.1 HBD.out.2.2.1 HBD.out.2.2.2.1 HBD.out.2.2.2.2.2
        have HW4 : Hid (w4 = w3.setCell ⟨w.heap.size + 2, 1, none⟩ (.slice ta tn tc)) := hw4
        rw [hw4] at b2 b3 hjn2 hs4
        clear hjn1 hv3 hv3' hr3 hk3 hB3 hC3 hX3 hN3 c1 c2 hO4 hw4
        go_wp2_with fail
        refine hjn2.mono ?_
        rw [← HW4.out]
        rintro e w5 ⟨v5, rfl, l5, hv5, hr5, hk5, hB5⟩
        obtain rfl := both_app hr5 HOK.out.1.last HOKK.out.1.last HOK.out.1.up HOKK.out.1.up
        have hv5' : LstO base w5 sv1 v5 (P.last ++ p.last) := ⟨hv5, hk5.off HC4.out.mki.sets (Nat.le_refl _) HC4.out.hb.2⟩
        obtain ⟨sa, sn, sc, rfl⟩ := hv5'.any
        have hC5 := HC4.out.below hB5
        have hN5 := HN4.out.below hB5
        have f3 : w5.frozen? ⟨w.heap.size + 2, 2, none⟩ = false := hC5.ob.nf 2
        have f4 : w5.cell? ⟨w.heap.size + 2, 2, none⟩ = some (.slice la ln lc) := hC5.ob.c2
        have HC7 : Hid (CSt M base (w.heap.size + 1) (w.heap.size + 2) w sv (w5.setCell ⟨w.heap.size + 2, 2, none⟩ (.slice sa sn sc)) sv1 fv1 (S ++ setsL (l.take (j + 1))) (L ++ (altL (l.take (j + 1)) (alt0 c)).notes) (altL (l.take (j + 1)) (alt0 c)).null (.slice ta tn tc) (.slice sa sn sc) (altL (l.take (j + 1)) (alt0 c)).first (altL (l.take (j + 1)) (alt0 c)).last) := by
          show CSt _ _ _ _ _ _ _ _ _ _ _ _ _ _ _ _
          rw [HNX.out]
          have := hC5.s2 hv5'
          rw [← HFT.out.2.2] at this
          exact this
        have HN7 : Hid (Box (w5.setCell ⟨w.heap.size + 2, 2, none⟩ (.slice sa sn sc)) w.heap.size 2 s (.slice (some ⟨ga, oa, none⟩) len ca)) := (((OnlyB.refl _ w5).set _ _).block w.heap.size (by omega)).trans hN5
        clear hjn2 hv5 hv5' hr5 hk5 hB5 hC5 hN5 b2 b3
        go_wp2
        go_roundw
        case rel => exact ⟨j + 1, _, _, (.slice ta tn tc), (.slice sa sn sc), by omega, by go_num, HN7, HC7⟩
        case measure => simp [intOf]; omega
    · obtain rfl : j = len := by omega
      have HEQ : Hid (l.take j = l) := List.take_of_length_le (by rw [← HLEN.out]; exact Nat.le_refl _)
      obtain ⟨P, hP⟩ : ∃ P, P = altL l (alt0 c) := ⟨_, rfl⟩
      rw [HEQ.out, ← hP] at HCr
      have HPP : Hid (P = altL l (alt0 c)) := hP
      have d0 : wr.cell? ⟨w.heap.size + 2, 0, none⟩ = some (.bool P.null) := HCr.out.ob.c0
      have d1 : wr.cell? ⟨w.heap.size + 2, 1, none⟩ = some (.slice fa fn' fc) := HCr.out.ob.c1
      have d2 : wr.cell? ⟨w.heap.size + 2, 2, none⟩ = some (.slice la ln lc) := HCr.out.ob.c2
      have e0 : wr.cell? ⟨w.heap.size + 1, 0, none⟩ = some (.bool false) := HCr.out.rb.c0
      have e1 : wr.cell? ⟨w.heap.size + 1, 1, none⟩ = some (.slice none 0 0) := HCr.out.rb.c1
      have e2 : wr.cell? ⟨w.heap.size + 1, 2, none⟩ = some (.slice none 0 0) := HCr.out.rb.c2
      have f0 : wr.frozen? ⟨w.heap.size + 1, 0, none⟩ = false := HCr.out.rb.nf 0
      have f1 : wr.frozen? ⟨w.heap.size + 1, 1, none⟩ = false := HCr.out.rb.nf 1
      have f2 : wr.frozen? ⟨w.heap.size + 1, 2, none⟩ = false := HCr.out.rb.nf 2
      have HFIN : Hid (_ ∧ _) := edg_fin (T := setsL l) (L := L) HCr.out.mki HCr.out.fr HCr.out.rb (Nat.le_succ _) hbw HCr.out.ha HCr.out.hb
      clear hP
      go_wp2
      refine bodyPost_ret (results_cell_row rfl _ _ (w.heap.size + 1) 78 #[.bool P.null, (.slice fa fn' fc), (.slice la ln lc)] (0, 0) _ rfl ?_ Tryd.underlying78 rfl (by kernel_rfl)) rfl ?_
      · exact HFIN.out.1
      · rw [← HPP.out]
        exact HFIN.out.2
end Go.Proofs.YtehkaiohmcenbaaDoor
