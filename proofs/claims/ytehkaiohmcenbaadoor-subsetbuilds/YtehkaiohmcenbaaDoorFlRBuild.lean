/-
  The document's Build.
-/
import Derived.Test.YtehkaiohmcenbaaDoorFlRSet
import Derived.Test.YtehkaiohmcenbaaDoorGM
import Derived.Test.YtehkaiohmcenbaaDoorFlRSgn
import Derived.Test.YtehkaiohmcenbaaDoorGI
import Derived.Deep.CutRange
namespace Go.Proofs.YtehkaiohmcenbaaDoor
open Go.RowKit Go.Shelf
set_option linter.unusedVariables false

theorem rnode_any {M base m : Nat} (hm : m ≤ 400) : ∀ (d : Nat) (n : Nd) (xa : Option Addr) (ka : Nat), Dp d n.kids → rightN n = true → NodC M base m n xa ka
  | d, n, xa, ka, hd, hr => by
    intro W sv fv S L hI hbw hN hcm hz
    obtain ⟨k, s, l⟩ := n
    obtain ⟨hmy, hl⟩ := right_kids hr
    have hlen : l.length ≤ 1000 := hd.len
    have HR : ∀ i, (h : i < l.length) → ∀ xa ka, NodC M base m l[i] xa ka := fun i h xa ka => by
      match d, hd with
      | 0, hd => rw [show l = [] from hd] at h; cases h
      | d + 1, hd => exact rnode_any hm d l[i] xa ka (hd.2 _ (List.getElem_mem h)) (hl _ (List.getElem_mem h))
    rw [setsN_mk] at hcm ⊢
    rw [prtN_mk]
    by_cases h1 : k = 1
    · subst h1
      rw [if_pos rfl] at hcm ⊢
      rw [if_pos rfl]
      exact rnode_set s xa _ ka W sv fv S L hI hbw hN (by simp at hcm; omega)
    rw [if_neg h1] at hcm ⊢
    rw [if_neg h1]
    by_cases h0 : k = 0
    · subst h0
      rw [if_pos rfl]
      exact rnode_cat hm s l xa ka W sv fv S L hI hbw hN hl hcm hlen hz HR
    rw [if_neg h0]
    by_cases h2 : k = 2
    · subst h2
      rw [if_pos rfl]
      exact rnode_alt hm s l xa ka W sv fv S L hI hbw hN hl hcm hlen hz HR
    rw [if_neg h2]
    obtain ⟨hk, x, rfl⟩ := sgn_kid hmy h0 h1 h2
    rw [hdL_cons]
    have es : setsL [x] = setsN x := by rw [setsL, setsL, List.append_nil]
    rw [es] at hcm ⊢
    have hx := hl x (by simp)
    have HX : ∀ xa ka, NodC M base m x xa ka := fun xa ka => HR 0 (by simp) xa ka
    rcases hk with rfl | rfl | rfl
    · exact rnode_sgn3 hm s x xa ka W sv fv S L hI hbw hN hx hcm hz HX
    · exact rnode_sgn4 hm s x xa ka W sv fv S L hI hbw hN hx hcm hz HX
    · exact rnode_sgn5 hm s x xa ka W sv fv S L hI hbw hN hx hcm hz HX

theorem bldA_zero2 {n : Nd} {w w' : World} {er : Int} (hE : errF n = er) (h0 : er ≠ 0) (hB : Below w.heap.size w w') : BldA n w (.returned (.tuple #[.agg #[.bool false, .slice none 0 0, .slice none 0 0, .slice none 0 0, .slice none 0 0], .int .i64 er])) w' := by
  refine ⟨_, by rw [hE], ?_, hB⟩
  have e : autF n = autZ := by unfold autF; rw [hE, if_neg h0]
  rw [e]; exact autZ_at _
def five (w : World) (A : Nat) (v0 v1 v2 v3 v4 : Value) : World := (((((w.setCell ⟨A, 0, none⟩ v0).setCell ⟨A, 1, none⟩ v1).setCell ⟨A, 2, none⟩ v2).setCell ⟨A, 3, none⟩ v3).setCell ⟨A, 4, none⟩ v4)
theorem lst_as {base : Nat} {w : World} {v : Value} {l l' : List Nat} (h : LstAt base w v l) (e : l = l') : LstAt base w v l' := e ▸ h
/-- What the maker has made is the automaton. -/
theorem mk_aut {M base : Nat} {w : World} {sv fv va vb : Value} {n : Nd} (hr : rightN n = true) (h : MkI M base w sv fv (setsN n) (fol (prtN n 0).notes)) (h1 : LstAt base w va (prtN n 0).first) (h2 : LstAt base w vb (prtN n 0).last) : AutAt w (.agg #[.bool (prtN n 0).null, sv, va, vb, fv]) (autN n) := by
  obtain ⟨a1, a2, a3, vs, a4, a5, a6⟩ := h
  refine ⟨_, _, _, _, rfl, ints_of_row a3, h1.plc.less (Nat.zero_le _), h2.plc.less (Nat.zero_le _), ?_⟩
  have hl : (folN n).length = (setsN n).length := by simp [folN]
  refine fol_of_row (base := base) (hi := base) (xs := vs) (by rw [a4]; exact a5) (by show vs.length = (folN n).length; omega) (fun k k1 k2 => ?_)
  obtain ⟨l, q1, q2, q3, q4⟩ := a6 k k1
  have e : l = rgF (fol (prtN n 0).notes (k + 1)) ((setsN n).length + 1) := ris_same _ _ q2 (rgF_ris _ _) (fun y => by
    rw [rgF_mem, q4]
    constructor
    · intro hy
      have := ((gd_all n hr 0).1.fol hy).2
      have h3 := (gd_all n hr 0).2
      exact ⟨by omega, hy⟩
    · exact fun hy => hy.2)
  have e2 : l = (autN n).fol[k] := by
    rw [e]
    show _ = (folN n)[k]'(by omega)
    simp [folN]
  exact lst_as q1.1 e2

set_option maxRecDepth 100000 in
set_option maxHeartbeats 16000000 in
theorem rbuild_any (d : Nat) (n : Nd) (za : Option Addr) (ca : Nat) (w : World) (hdp : Dp d n.kids) (hz : KdX (fun k => k < w.heap.size) w (.slice za n.kids.length ca) n.kids) :
    Calls Tryd.prog 12 #[.agg #[.int .i64 n.k, .int .i64 n.s, .slice za n.kids.length ca]] w (BldA n w) := by
  obtain ⟨W0, hW0⟩ : ∃ W, W = (w.alloc (.cells #[.int .i64 n.k, .int .i64 n.s, .slice za n.kids.length ca] 24)).alloc (.cells #[.bool false, .slice none 0 0, .slice none 0 0, .slice none 0 0, .slice none 0 0] 30) := ⟨_, rfl⟩
  obtain ⟨h0, h1, hB0, hs0⟩ := alloc2 hW0
  have hz0 : KdX (fun k => k < W0.heap.size) W0 (.slice za n.kids.length ca) n.kids := kdx_below hz hB0
  have hrt := refRight_any d n (.slice za n.kids.length ca) W0 hdp hz0
  have HPL : Hid (∀ W, Below W0.heap.size W0 W → Calls Tryd.prog 45 #[.agg #[.int .i64 n.k, .int .i64 n.s, .slice za n.kids.length ca], .int .i64 301] W fun e w' => e = .returned (.int .i64 ((min (setsN n).length 301 : Nat) : Int)) ∧ Below W.heap.size W w') := fun W hb => rplaces_any d n (.slice za n.kids.length ca) 301 W (by omega) (by omega) hdp (kdx_below hz0 hb)
  have HZ : Hid (KdX (fun k => k < w.heap.size) w (.slice za n.kids.length ca) n.kids) := hz
  have HX0 : Hid (Box W0 w.heap.size n.k n.s (.slice za n.kids.length ca)) := h0
  have HA0 : Hid (ABox W0 (w.heap.size + 1) false (.slice none 0 0) (.slice none 0 0) (.slice none 0 0) (.slice none 0 0)) := h1
  have HB0 : Hid (Below w.heap.size w W0) := hB0
  have HS0 : Hid (W0.heap.size = w.heap.size + 2) := hs0
  have HND : Hid (rightN n = true → ∀ M base, NodC M base 300 n za ca) := fun hr M base => rnode_any (by omega) d n za ca hdp hr
  unfold ndV at hrt
  unfold NodC at HND
  obtain ⟨nk, hnk⟩ : ∃ x, x = n.k := ⟨_, rfl⟩
  obtain ⟨ns, hns⟩ : ∃ x, x = n.s := ⟨_, rfl⟩
  obtain ⟨nl, hnl⟩ : ∃ x, x = n.kids.length := ⟨_, rfl⟩
  rw [← hnk, ← hns, ← hnl] at hrt HPL hW0 HX0 HND ⊢
  rw [← hnl] at HZ
  obtain ⟨rt, hrt'⟩ : ∃ b, b = rightN n := ⟨_, rfl⟩
  rw [← hrt'] at hrt
  have HRT : Hid (rt = rightN n) := hrt'
  have HW0 : Hid (W0 = _) := hW0
  rw [hW0] at hrt
  clear h0 h1 hB0 hs0 hz0 hz hdp hnk hns hnl hrt' hW0
  cases rt with
  | false =>
    go_enter Tryd.func12, Tryd.ntmps12
    go_wp2_with fail
    refine hrt.mono ?_
    rintro e w1 ⟨rfl, hB1⟩
    rw [← HW0.out] at hB1
    have hA1 := HA0.out.below hB1
    have HA1 : Hid (ABox w1 (w.heap.size + 1) false (.slice none 0 0) (.slice none 0 0) (.slice none 0 0) (.slice none 0 0)) := hA1
    have HB1 : Hid (Below w.heap.size w w1) := HB0.out.trans (hB1.mono (by have := HS0.out; omega))
    have e0 := hA1.c0
    have e1 := hA1.c1
    have e2 := hA1.c2
    have e3 := hA1.c3
    have e4 := hA1.c4
    have f0 := hA1.nf 0
    have f1 := hA1.nf 1
    have f2 := hA1.nf 2
    have f3 := hA1.nf 3
    have f4 := hA1.nf 4
    have hlt := hA1.lt
    clear hrt hB1 hA1
    go_wp2
    refine bodyPost_ret (results_cell_tmp_row rfl _ _ (w.heap.size + 1) 30 #[.bool false, .slice none 0 0, .slice none 0 0, .slice none 0 0, .slice none 0 0] (0, 0) _ rfl ?_ Tryd.underlying30 rfl (by kernel_rfl)) rfl ?_
    · exact ((((HA1.out.s0 _).s1 _).s2 _).s3 _).s4 _
    · exact bldA_zero2 (errF_bad HRT.out.symm) (by decide) (((((HB1.out.setCell (Nat.le_succ _) _).setCell (Nat.le_succ _) _).setCell (Nat.le_succ _) _).setCell (Nat.le_succ _) _).setCell (Nat.le_succ _) _)
  | true =>
    go_enter Tryd.func12, Tryd.ntmps12
    go_wp2_with fail
    refine hrt.mono ?_
    rintro e w1 ⟨rfl, hB1⟩
    rw [← HW0.out] at hB1
    have HA1 : Hid (ABox w1 (w.heap.size + 1) false (.slice none 0 0) (.slice none 0 0) (.slice none 0 0) (.slice none 0 0)) := HA0.out.below hB1
    have HX1 : Hid (Box w1 w.heap.size nk ns (.slice za nl ca)) := HX0.out.below hB1
    have HB1 : Hid (Below w.heap.size w w1) := HB0.out.trans (hB1.mono (by have := HS0.out; omega))
    have hs1 : w.heap.size + 2 ≤ w1.heap.size := by have := hB1.size; have := HS0.out; omega
    have hpl := HPL.out w1 hB1
    have x0 := HX1.out.c0
    have x1 := HX1.out.c1
    have x2 := HX1.out.c2
    obtain ⟨m, hm⟩ : ∃ m, m = (setsN n).length := ⟨_, rfl⟩
    obtain ⟨mm, hmm⟩ : ∃ mm, mm = min (setsN n).length 301 := ⟨_, rfl⟩
    have HM : Hid (m = (setsN n).length ∧ mm = min m 301) := ⟨hm, by rw [hm]; exact hmm⟩
    rw [← hmm] at hpl
    clear hrt hB1 hm hmm
    by_cases hfull : 300 < mm
    · have hg : decide ((mm : Int) > 300) = true := decide_eq_true (by omega)
      go_wp2_with fail
      refine hpl.mono ?_
      rintro e w2 ⟨rfl, hB2⟩
      have hA2 := HA1.out.below hB2
      have HA2 : Hid (ABox w2 (w.heap.size + 1) false (.slice none 0 0) (.slice none 0 0) (.slice none 0 0) (.slice none 0 0)) := hA2
      have HB2 : Hid (Below w.heap.size w w2) := HB1.out.trans (hB2.mono (by omega))
      have e0 := hA2.c0
      have e1 := hA2.c1
      have e2 := hA2.c2
      have e3 := hA2.c3
      have e4 := hA2.c4
      have f0 := hA2.nf 0
      have f1 := hA2.nf 1
      have f2 := hA2.nf 2
      have f3 := hA2.nf 3
      have f4 := hA2.nf 4
      have hlt := hA2.lt
      clear hpl hB2 hA2
      go_wp2
      refine bodyPost_ret (results_cell_tmp_row rfl _ _ (w.heap.size + 1) 30 #[.bool false, .slice none 0 0, .slice none 0 0, .slice none 0 0, .slice none 0 0] (0, 0) _ rfl ?_ Tryd.underlying30 rfl (by kernel_rfl)) rfl ?_
      · exact ((((HA2.out.s0 _).s1 _).s2 _).s3 _).s4 _
      · exact bldA_zero2 (errF_full HRT.out.symm (by have h1 := HM.out.1; have h2 := HM.out.2; omega)) (by decide) (((((HB2.out.setCell (Nat.le_succ _) _).setCell (Nat.le_succ _) _).setCell (Nat.le_succ _) _).setCell (Nat.le_succ _) _).setCell (Nat.le_succ _) _)
    · have hg : decide ((mm : Int) > 300) = false := decide_eq_false (by omega)
      have hm3 : m ≤ 300 := by have := HM.out.2; omega
      go_upto_region 6 with fail
      refine hpl.mono ?_
      rintro e w2 ⟨rfl, hB2⟩
      have HA2 : Hid (ABox w2 (w.heap.size + 1) false (.slice none 0 0) (.slice none 0 0) (.slice none 0 0) (.slice none 0 0)) := HA1.out.below hB2
      have HX2 : Hid (Box w2 w.heap.size nk ns (.slice za nl ca)) := HX1.out.below hB2
      have HB2 : Hid (Below w.heap.size w w2) := HB1.out.trans (hB2.mono (by omega))
      have hs2 : w.heap.size + 2 ≤ w2.heap.size := by have := hB2.size; omega
      obtain ⟨W3, hW3⟩ : ∃ W, W = w2.alloc (.cells #[.slice none 0 0, .slice none 0 0] 76) := ⟨_, rfl⟩
      have hB3 : Below w2.heap.size w2 W3 := by rw [hW3]; exact below_alloc _ _
      have hs3 : W3.heap.size = w2.heap.size + 1 := by rw [hW3]; simp
      have hI3 : MkI w2.heap.size w2.heap.size W3 (.slice none 0 0) (.slice none 0 0) [] (fol []) := ⟨Nat.le_refl _, by rw [hW3]; exact heap_new' _ _, World.ownsRow_nil _ _ _ _, [], rfl, World.ownsRow_nil _ _ _ _, fun i hi => (by cases hi)⟩
      have hBw3 : Below w.heap.size w W3 := HB2.out.trans (hB3.mono (by omega))
      have hnd := HND.out HRT.out.symm w2.heap.size w2.heap.size W3 _ _ [] [] hI3 (by omega) (fun x hx => (by cases hx)) (by have := HM.out.1; simp; omega) (HZ.out.to (fun k hk => ⟨hBw3.block k hk, by omega⟩))
      have HB3 : Hid (Below w2.heap.size w2 W3) := hB3
      have HBW3 : Hid (Below w.heap.size w W3) := hBw3
      have HS3 : Hid (W3.heap.size = w2.heap.size + 1) := hs3
      have hlt2 : w.heap.size < w2.heap.size := by omega
      have x0 := HX2.out.c0
      have x1 := HX2.out.c1
      have x2 := HX2.out.c2
      have HW3 : Hid (W3 = _) := hW3
      rw [hW3] at hnd
      obtain ⟨p, hp⟩ : ∃ p, p = prtN n 0 := ⟨_, rfl⟩
      have e0 : ([] : List Int).length = 0 := rfl
      rw [e0, ← hp] at hnd
      have HP : Hid (p = prtN n 0) := hp
      clear hpl hB2 hB3 hs3 hI3 hBw3 hW3 hp e0
      go_wp2_with fail
      refine hnd.mono ?_
      rw [← HW3.out]
      rintro e w4 ⟨sv, fv, va, vb, rfl, hI4, hF4, hv1, hv2⟩
      rw [List.nil_append, List.nil_append] at hI4
      obtain ⟨sa, sc, fa, fc, rfl, rfl⟩ := hI4.fr
      obtain ⟨ya, yn, yc, rfl⟩ := hv1.any
      obtain ⟨qa, qn, qc, rfl⟩ := hv2.any
      obtain ⟨pn, hpn⟩ : ∃ x, x = p.null := ⟨_, rfl⟩
      have HPN : Hid (pn = p.null) := hpn
      rw [← hpn]
      obtain ⟨sl, hsl⟩ : ∃ x, x = (setsN n).length := ⟨_, rfl⟩
      rw [← hsl] at hI4 hF4 hv1 hv2
      obtain ⟨W5, hW5⟩ : ∃ W, W = w4.alloc (.cells #[.bool pn, .slice ya yn yc, .slice qa qn qc] 78) := ⟨_, rfl⟩
      have hB5 : Below w4.heap.size w4 W5 := by rw [hW5]; exact below_alloc _ _
      have HE5 : Hid (EBox W5 w4.heap.size pn (.slice ya yn yc) (.slice qa qn qc)) := by rw [hW5]; exact ebox_new _ _ _ _
      have HI5 : Hid (MkI w2.heap.size w2.heap.size W5 (.slice sa sl sc) (.slice fa sl fc) (setsN n) (fol p.notes)) := hI4.below hB5
      have HL1 : Hid (LstAt w2.heap.size W5 (.slice ya yn yc) p.first) := hv1.1.below hB5
      have HL2 : Hid (LstAt w2.heap.size W5 (.slice qa qn qc) p.last) := hv2.1.below hB5
      have hs4 : w2.heap.size < w4.heap.size := by have := hF4.size; have := HS3.out; omega
      have hB25 : Below w2.heap.size w2 W5 := (HB3.out.trans hF4.below).trans (hB5.mono (by omega))
      have HA5 : Hid (ABox W5 (w.heap.size + 1) false (.slice none 0 0) (.slice none 0 0) (.slice none 0 0) (.slice none 0 0)) := HA2.out.below hB25
      have HB5 : Hid (Below w.heap.size w W5) := HB2.out.trans (hB25.mono (by omega))
      have HW5 : Hid (W5 = _) := hW5
      clear hnd hI4 hF4 hv1 hv2 hpn hsl hB5 hB25 hW5 x0 x1 x2
      go_upto_region 8 with fail
      rw [← HW5.out]
      have hlt5 : w4.heap.size < W5.heap.size := HE5.out.lt
      have hne1 : ¬ w2.heap.size = w.heap.size + 1 := by omega
      have hne2 : ¬ w4.heap.size = w.heap.size + 1 := by omega
      have q0 := HE5.out.c0
      have q1 := HE5.out.c1
      have q2 := HE5.out.c2
      have m0 := HI5.out.c0
      have m1 := HI5.out.c1
      have HA6 : Hid (ABox W5.drew (w.heap.size + 1) false (.slice none 0 0) (.slice none 0 0) (.slice none 0 0) (.slice none 0 0)) := HA5.out
      have e0 := HA6.out.c0
      have e1 := HA6.out.c1
      have e2 := HA6.out.c2
      have e3 := HA6.out.c3
      have e4 := HA6.out.c4
      have f0 := HA6.out.nf 0
      have f1 := HA6.out.nf 1
      have f2 := HA6.out.nf 2
      have f3 := HA6.out.nf 3
      have f4 := HA6.out.nf 4
      have e0' := HA5.out.c0
      have e1' := HA5.out.c1
      have e2' := HA5.out.c2
      have e3' := HA5.out.c3
      have e4' := HA5.out.c4
      have f0' := HA5.out.nf 0
      have f1' := HA5.out.nf 1
      have f2' := HA5.out.nf 2
      have f3' := HA5.out.nf 3
      have f4' := HA5.out.nf 4
      clear HW5
      have HKP : Hid (∀ W', OnlyB (w.heap.size + 1) W5.drew W' → W'.cell? ⟨w4.heap.size, 0, none⟩ = some (.bool pn) ∧ W'.cell? ⟨w4.heap.size, 1, none⟩ = some (.slice ya yn yc) ∧ W'.cell? ⟨w4.heap.size, 2, none⟩ = some (.slice qa qn qc) ∧ W'.cell? ⟨w2.heap.size, 0, none⟩ = some (.slice sa sl sc) ∧ W'.cell? ⟨w2.heap.size, 1, none⟩ = some (.slice fa sl fc)) := fun W' hO => ⟨(World.cell?_of_block (a := ⟨w4.heap.size, 0, none⟩) (hO.block _ hne2)).trans q0, (World.cell?_of_block (a := ⟨w4.heap.size, 1, none⟩) (hO.block _ hne2)).trans q1, (World.cell?_of_block (a := ⟨w4.heap.size, 2, none⟩) (hO.block _ hne2)).trans q2, (World.cell?_of_block (a := ⟨w2.heap.size, 0, none⟩) (hO.block _ hne1)).trans m0, (World.cell?_of_block (a := ⟨w2.heap.size, 1, none⟩) (hO.block _ hne1)).trans m1⟩
      go_region_held3 (fun W => W.cell? ⟨w4.heap.size, 0, none⟩ = some (.bool pn) ∧ W.cell? ⟨w4.heap.size, 1, none⟩ = some (.slice ya yn yc) ∧ W.cell? ⟨w4.heap.size, 2, none⟩ = some (.slice qa qn qc) ∧ W.cell? ⟨w2.heap.size, 0, none⟩ = some (.slice sa sl sc) ∧ W.cell? ⟨w2.heap.size, 1, none⟩ = some (.slice fa sl fc)) (first | (with_reducible exact HKP.out _ (five_only _ _ _ _ _ _ _)) | go_keep) (fail)
      obtain ⟨WF, hWF⟩ : ∃ W, W = (((((W5.setCell ⟨w.heap.size + 1, 0, none⟩ (.bool pn)).setCell ⟨w.heap.size + 1, 1, none⟩ (.slice sa sl sc)).setCell ⟨w.heap.size + 1, 2, none⟩ (.slice ya yn yc)).setCell ⟨w.heap.size + 1, 3, none⟩ (.slice qa qn qc)).setCell ⟨w.heap.size + 1, 4, none⟩ (.slice fa sl fc)).drew := ⟨_, rfl⟩
      have hO : OnlyB (w.heap.size + 1) W5 WF := by rw [hWF]; exact (five_only _ _ _ _ _ _ _).drew
      have HAF : Hid (ABox WF (w.heap.size + 1) pn (.slice sa sl sc) (.slice ya yn yc) (.slice qa qn qc) (.slice fa sl fc)) := by rw [hWF]; exact ((((HA5.out.s0 _).s1 _).s2 _).s3 _).s4 _
      have hE : errF n = 0 := errF_ok HRT.out.symm (by have := HM.out.1; omega)
      have HBF : Hid (BldA n w (.returned (.tuple #[.agg #[.bool pn, .slice sa sl sc, .slice ya yn yc, .slice qa qn qc, .slice fa sl fc], .int .i64 0])) WF) := by
        refine ⟨.agg #[.bool pn, .slice sa sl sc, .slice ya yn yc, .slice qa qn qc, .slice fa sl fc], by rw [hE], ?_, ?_⟩
        · have e : autF n = autN n := by unfold autF; rw [if_pos hE]
          rw [e, HPN.out, HP.out]
          refine mk_aut (M := w2.heap.size) (base := w2.heap.size) HRT.out.symm ?_ ?_ ?_
          · rw [← HP.out]; exact HI5.out.only hO HA5.out (by unfold WrT; decide)
          · rw [← HP.out]; exact HL1.out.only hO HA5.out (by decide)
          · rw [← HP.out]; exact HL2.out.only hO HA5.out (by decide)
        · rw [hWF]
          exact (((((HB5.out.setCell (Nat.le_succ _) _).setCell (Nat.le_succ _) _).setCell (Nat.le_succ _) _).setCell (Nat.le_succ _) _).setCell (Nat.le_succ _) _).drew
      have HWF : Hid (WF = _) := hWF
      clear hWF hO hE e0 e1 e2 e3 e4 e0' e1' e2' e3' e4' f0 f1 f2 f3 f4 f0' f1' f2' f3' f4' q0 q1 q2 m0 m1
      go_wp2
      rw [← HWF.out]
      refine bodyPost_ret (results_cell_tmp_row rfl _ _ (w.heap.size + 1) 30 #[.bool pn, .slice sa sl sc, .slice ya yn yc, .slice qa qn qc, .slice fa sl fc] (0, 0) _ rfl ?_ Tryd.underlying30 rfl (by kernel_rfl)) rfl ?_
      · exact HAF.out
      · exact HBF.out
end Go.Proofs.YtehkaiohmcenbaaDoor
