/-
  The end of the document's reading of a part; and where it hands on to cat.
-/
import Derived.Test.YtehkaiohmcenbaaDoorFlRCat
namespace Go.Proofs.YtehkaiohmcenbaaDoor
open Go.RowKit Go.Shelf
set_option linter.unusedVariables false

theorem edg_fin {M base r : Nat} {w w1 : World} {sv sv1 fv1 va vb x0 y0 : Value} {S T : List Int} {L : List (List Nat × List Nat)} {p : Prt} {n0 : Bool} (hI : MkI M base w1 sv1 fv1 (S ++ T) (fol (L ++ p.notes))) (hF : FrM base w sv w1 sv1) (hr : EBox w1 r n0 x0 y0) (hrw : w.heap.size ≤ r) (hb : base ≤ w.heap.size) (h1 : LstO base w1 sv1 va p.first) (h2 : LstO base w1 sv1 vb p.last) :
    EBox (((w1.setCell ⟨r, 0, none⟩ (.bool p.null)).setCell ⟨r, 1, none⟩ va).setCell ⟨r, 2, none⟩ vb) r p.null va vb ∧ EdgA M base w sv S L T p (.returned (.agg #[.bool p.null, va, vb])) (((w1.setCell ⟨r, 0, none⟩ (.bool p.null)).setCell ⟨r, 1, none⟩ va).setCell ⟨r, 2, none⟩ vb) := by
  have hO : OnlyB r w1 (((w1.setCell ⟨r, 0, none⟩ (.bool p.null)).setCell ⟨r, 1, none⟩ va).setCell ⟨r, 2, none⟩ vb) := (((OnlyB.refl _ _).set _ _).set _ _).set _ _
  exact ⟨((hr.s0 _).s1 _).s2 _, _, _, _, _, rfl, hI.only hO hr edge_not, hF.only hO hrw hb hr (by decide), h1.only hO hr, h2.only hO hr⟩
theorem EdgA.lift {M base : Nat} {w W : World} {sv : Value} {S T : List Int} {L : List (List Nat × List Nat)} {p : Prt} {e : Ending} {w' : World} (h : EdgA M base W sv S L T p e w') (hb : Below w.heap.size w W) (hbw : base ≤ w.heap.size) : EdgA M base w sv S L T p e w' := by
  obtain ⟨sv', fv', va, vb, h1, h2, h3, h4, h5⟩ := h
  exact ⟨sv', fv', va, vb, h1, h2, (FrM.of sv hb hbw).trans h3, h4, h5⟩

set_option maxRecDepth 100000 in
set_option maxHeartbeats 16000000 in
theorem rnode_cat {M base m : Nat} (hm : m ≤ 400) (s : Int) (l : List Nd) (za : Option Addr) (ca : Nat) (w : World) (sv fv : Value) (S : List Int) (L : List (List Nat × List Nat)) (hI : MkI M base w sv fv S (fol L)) (hbw : base ≤ w.heap.size) (hN : NtO S.length L) (hg : ∀ x ∈ l, rightN x = true) (hcm : S.length + (setsL l).length ≤ m) (hl : l.length ≤ 1000) (hz : KdX (fun k => k < base) w (.slice za l.length ca) l)
    (HR : ∀ i, (h : i < l.length) → ∀ xa ka, NodC M base m l[i] xa ka) :
    Calls Tryd.prog 46 #[.pointer (some ⟨M, 0, none⟩), .agg #[.int .i64 0, .int .i64 s, .slice za l.length ca]] w (EdgA M base w sv S L (setsL l) (catL l (cat0 S.length))) := by
  obtain ⟨len, hlen⟩ : ∃ len, len = l.length := ⟨_, rfl⟩
  obtain ⟨W0, hW0⟩ : ∃ W, W = (w.alloc (.cells #[.int .i64 0, .int .i64 s, .slice za len ca] 24)).alloc (.cells #[.bool false, .slice none 0 0, .slice none 0 0] 78) := ⟨_, rfl⟩
  obtain ⟨hE0, hE1, hB0, hs0⟩ := alloc2 hW0
  have hcat := rcat_any hm l za ca W0 sv fv S L (hI.below hB0) (by omega) hN hg hcm hl (hz.to (fun k hk => ⟨hB0.block k (by omega), hk⟩)) HR
  rw [← hlen] at hcat ⊢
  have HB0 : Hid (Below w.heap.size w W0) := hB0
  have HE1 : Hid (EBox W0 (w.heap.size + 1) false (.slice none 0 0) (.slice none 0 0)) := hE1
  have n2 : W0.cell? ⟨w.heap.size, 2, none⟩ = some (.slice za len ca) := cell_in hE0 2
  have hlt0 : w.heap.size + 1 < W0.heap.size := by omega
  obtain ⟨p, hp⟩ : ∃ p, p = catL l (cat0 S.length) := ⟨_, rfl⟩
  rw [← hp] at hcat ⊢
  have HW0 : Hid (W0 = _) := hW0
  rw [hW0] at hcat n2 hlt0
  clear hE0 hE1 hB0 hs0 hlen hp hN hcm hg hl hz HR hI
  go_enter Tryd.func46, Tryd.ntmps46
  go_wp2_with fail
  refine hcat.mono ?_
  rw [← HW0.out]
  rintro e w1 ⟨sv1, fv1, va, vb, rfl, hI1, hF1, hv1, hv2⟩
  obtain ⟨fa, fn', fc, rfl⟩ := hv1.any
  obtain ⟨la, ln, lc, rfl⟩ := hv2.any
  have hE := HE1.out.fr hF1
  have e0 : w1.cell? ⟨w.heap.size + 1, 0, none⟩ = some (.bool false) := hE.c0
  have e1 : w1.cell? ⟨w.heap.size + 1, 1, none⟩ = some (.slice none 0 0) := hE.c1
  have e2 : w1.cell? ⟨w.heap.size + 1, 2, none⟩ = some (.slice none 0 0) := hE.c2
  have f0 : w1.frozen? ⟨w.heap.size + 1, 0, none⟩ = false := hE.nf 0
  have f1 : w1.frozen? ⟨w.heap.size + 1, 1, none⟩ = false := hE.nf 1
  have f2 : w1.frozen? ⟨w.heap.size + 1, 2, none⟩ = false := hE.nf 2
  have HFIN : Hid (_ ∧ _) := edg_fin (T := setsL l) (L := L) hI1 ((FrM.of sv HB0.out hbw).trans hF1) hE (Nat.le_succ _) hbw hv1 hv2
  clear hcat hI1 hF1 hv1 hv2 hE n2 hlt0
  go_wp2
  refine bodyPost_ret (results_cell_row rfl _ _ (w.heap.size + 1) 78 #[.bool p.null, (.slice fa fn' fc), (.slice la ln lc)] (0, 0) _ rfl ?_ Tryd.underlying78 rfl (by kernel_rfl)) rfl ?_
  · exact HFIN.out.1
  · exact HFIN.out.2
end Go.Proofs.YtehkaiohmcenbaaDoor
