/-
  An expression read part by part: oneOf.
-/
import Derived.Test.YtklhjjgnhigbiaaGreatDoorGJ
import Derived.Deep.CutRange
import Derived.Deep.RegionLaw
namespace Go.Proofs.YtklhjjgnhigbiaaGreatDoor
open Go.RowKit Go.Shelf
set_option linter.unusedVariables false

set_option maxRecDepth 100000 in
set_option maxHeartbeats 16000000 in
theorem oneOf_any {fn : Nat} {caps : Array Value} {lo hi m : Nat} {I : World → List (List Nat × List Nat) → Prop} (N : NoteT fn caps lo hi m I) (l : List Nd) (za : Option Addr) (ca c : Nat) (L : List (List Nat × List Nat)) (w : World) (hm : m ≤ 700) (hI : I w L) (hg : ∀ x ∈ l, rightN x = true) (hcm : c + (setsL l).length ≤ m) (hl : l.length ≤ 1000) (hz : KdX (fun k => k < lo) w (.slice za l.length ca) l)
    (HR : ∀ i, (h : i < l.length) → ∀ xa ka, KidC fn caps lo hi I m l[i] xa ka) :
    Calls Tryz.prog 40 #[.slice za l.length ca, .int .i64 (c : Int), .func (.func fn) #[] caps] w (RdA lo hi I (altL l (alt0 c)) L w) := by
  have hsz := N.size w L hI
  have hlh := N.le
  obtain ⟨W0, hW0⟩ : ∃ W, W = (w.alloc (.cells #[.bool false, .slice none 0 0, .slice none 0 0, .int .i64 0] 57)).alloc (.cells #[.bool false, .slice none 0 0, .slice none 0 0, .int .i64 (c : Int)] 57) := ⟨_, rfl⟩
  obtain ⟨hE0, hE1, hB0, hs0⟩ := alloc2 hW0
  obtain ⟨len, hlen⟩ : ∃ len, len = l.length := ⟨_, rfl⟩
  have HLEN : Hid (len = l.length) := hlen
  have HK : Hid (KdX (fun k => k < lo) w (.slice za len ca) l) := by rw [hlen]; exact hz
  rw [← hlen] at hl ⊢
  have HN : Hid (NoteT fn caps lo hi m I) := N
  have HRR : Hid (∀ i, (h : i < l.length) → ∀ xa ka, KidC fn caps lo hi I m l[i] xa ka) := HR
  have HG : Hid (∀ x ∈ l, rightN x = true) := hg
  have HCM : Hid (c + (setsL l).length ≤ m) := hcm
  have HR0 : Hid (PBox W0 w.heap.size false (.slice none 0 0) (.slice none 0 0) 0) := hE0
  have HP0 : Hid (PBox W0 (w.heap.size + 1) false (.slice none 0 0) (.slice none 0 0) c) := hE1
  have HI0 : Hid (I W0 (L ++ [])) := by rw [List.append_nil]; exact N.below hI hB0
  have HF0 : Hid (FrI lo hi w W0) := FrI.of hB0 (by omega)
  have HW0 : Hid (W0 = (w.alloc (.cells #[.bool false, .slice none 0 0, .slice none 0 0, .int .i64 0] 57)).alloc (.cells #[.bool false, .slice none 0 0, .slice none 0 0, .int .i64 (c : Int)] 57)) := hW0
  have eg := N.ent
  -- what is known of the first parts
  have HGD : Hid (∀ j, j ≤ l.length → Okp c (altL (l.take j) (alt0 c)) ∧ (altL (l.take j) (alt0 c)).upTo ≤ m ∧ c ≤ m) := fun j hj => by
    have := gd_alt (l.take j) (fun x hx => gd_all x (hg x (List.mem_of_mem_take hx))) c (alt0 c) (okp_alt0 c)
    have h2 : (setsL (l.take j)).length ≤ (setsL l).length := by
      have : setsL l = setsL (l.take j) ++ setsL (l.drop j) := by
        have key : ∀ a b : List Nd, setsL (a ++ b) = setsL a ++ setsL b := fun a b => by
          induction a with
          | nil => rfl
          | cons x a ih => rw [List.cons_append, setsL, setsL, ih, List.append_assoc]
        rw [← key, List.take_append_drop]
      rw [this, List.length_append]; omega
    refine ⟨this.1, ?_, by omega⟩
    rw [this.2]
    show c + _ ≤ m
    omega
  have HGK : Hid (∀ j, (h : j < l.length) → (altL (l.take j) (alt0 c)).upTo + (setsN l[j]).length ≤ m) := fun j hj => by
    have h1 := (HGD.out (j + 1) hj).2.1
    rw [take_snoc hj, altL_snoc] at h1
    have h2 := (gd_all l[j] (hg _ (List.getElem_mem hj)) (altL (l.take j) (alt0 c)).upTo).2
    have h3 : (altS (altL (l.take j) (alt0 c)) (prtN l[j] (altL (l.take j) (alt0 c)).upTo)).upTo = (prtN l[j] (altL (l.take j) (alt0 c)).upTo).upTo := rfl
    rw [h3] at h1
    omega
  clear hE0 hE1 hB0 hs0 hW0 hlen hz N HR hg hcm hI
  go_enter Tryz.func40, Tryz.ntmps40
  go_wp2
  rw [← HW0.out]
  go_loopw [15] (fun x15 wr => ∃ (j : Nat) (fv lv : Value), j ≤ len ∧ x15 = .int .i64 (j : Int) ∧ Hid (PBox wr (w.heap.size + 1) (altL (l.take j) (alt0 c)).null fv lv (altL (l.take j) (alt0 c)).upTo) ∧ Hid (LstAt hi wr fv (altL (l.take j) (alt0 c)).first) ∧ Hid (LstAt hi wr lv (altL (l.take j) (alt0 c)).last) ∧ Hid (I wr (L ++ (altL (l.take j) (alt0 c)).notes)) ∧ Hid (FrI lo hi w wr) ∧ Hid (PBox wr w.heap.size false (.slice none 0 0) (.slice none 0 0) 0)) (fun x15 _ => len - (intOf x15).toNat)
  case atStart => exact ⟨0, _, _, Nat.zero_le _, rfl, HP0, LstAt.nil _ _, LstAt.nil _ _, HI0, HF0, HR0⟩
  case round =>
    obtain ⟨j, fv, lv, hj, rfl, HP, HFV, HLV, HI, HFR, HRB⟩ := hrel
    have hws : w.heap.size + 1 < wr.heap.size := HP.out.lt
    obtain ⟨fa, fn', fc, rfl⟩ := HFV.out.any
    obtain ⟨la, ln, lc, rfl⟩ := HLV.out.any
    by_cases hjl : j < len
    · have hjn : j < l.length := by rw [← HLEN.out]; exact hjl
      obtain ⟨P, hP⟩ : ∃ P, P = altL (l.take j) (alt0 c) := ⟨_, rfl⟩
      have HNX : Hid (altL (l.take (j + 1)) (alt0 c) = altS P (prtN l[j] P.upTo)) := by show _ = _; rw [take_snoc hjn, altL_snoc, ← hP]
      have HOK : Hid (Okp c P ∧ P.upTo ≤ m ∧ c ≤ m) := by rw [hP]; exact HGD.out j (Nat.le_of_lt hjn)
      have HGK2 : Hid (P.upTo + (setsN l[j]).length ≤ m) := by rw [hP]; exact HGK.out j hjn
      rw [← hP] at HP HFV HLV HI
      obtain ⟨ga, oa, cc, z', hza, hcc, hga, p0, p1, p2, hkd⟩ := HK.out.at j hjn
      obtain ⟨rfl, hqq, rfl⟩ : za = some ⟨ga, oa, none⟩ ∧ len = l.length ∧ ca = cc := by simpa using hza
      clear hqq
      obtain ⟨xa, ka, rfl, _⟩ := hkd.slice
      have HKC := HRR.out j hjn xa ka
      have HOKK : Hid (Okp P.upTo (prtN l[j] P.upTo) ∧ (prtN l[j] P.upTo).upTo ≤ m) := by
        have := gd_all l[j] (HG.out _ (List.getElem_mem hjn)) P.upTo
        exact ⟨this.1, by rw [this.2]; exact HGK2.out⟩
      obtain ⟨yk, hyk⟩ : ∃ y, y = l[j].k := ⟨_, rfl⟩
      obtain ⟨ys, hys⟩ : ∃ y, y = l[j].s := ⟨_, rfl⟩
      obtain ⟨yl, hyl⟩ : ∃ y, y = l[j].kids.length := ⟨_, rfl⟩
      unfold KidC at HKC
      rw [← hyk, ← hys, ← hyl] at HKC
      rw [← hyk] at p0
      rw [← hys] at p1
      rw [← hyl] at p2 hkd
      obtain ⟨WA, hWA⟩ : ∃ W, W = wr.alloc (.cells #[.int .i64 yk, .int .i64 ys, .slice xa yl ka] 24) := ⟨_, rfl⟩
      have hBA : Below wr.heap.size wr WA := by rw [hWA]; exact below_alloc _ _
      have hFA : FrI lo hi w WA := HFR.out.below hBA (by omega)
      have hrd := HKC WA (L ++ P.notes) P.upTo (HN.out.below HI.out hBA) (Below.refl _ _) HGK2.out (hkd.to (fun k hk => ⟨(hFA.1.block k hk), hk⟩))
      obtain ⟨p, hp⟩ : ∃ p, p = prtN l[j] P.upTo := ⟨_, rfl⟩
      rw [← hp] at hrd HNX HOKK
      have r0 : wr.cell? ⟨ga, oa + j * 3, none⟩ = some (.int .i64 yk) := (HFR.out.1.cell (p := ⟨ga, _, none⟩) hga).trans p0
      have r1 : wr.cell? ⟨ga, oa + j * 3 + 1, none⟩ = some (.int .i64 ys) := (HFR.out.1.cell (p := ⟨ga, _, none⟩) hga).trans p1
      have r2 : wr.cell? ⟨ga, oa + j * 3 + 2, none⟩ = some (.slice xa yl ka) := (HFR.out.1.cell (p := ⟨ga, _, none⟩) hga).trans p2
      obtain ⟨up, hup⟩ : ∃ x, x = P.upTo := ⟨_, rfl⟩
      obtain ⟨nl, hnl⟩ : ∃ x, x = P.null := ⟨_, rfl⟩
      rw [← hup] at HP hrd
      rw [← hnl] at HP
      have HUN : Hid (up = P.upTo ∧ nl = P.null) := ⟨hup, hnl⟩
      have q3 : wr.cell? ⟨w.heap.size + 1, 3, none⟩ = some (.int .i64 (up : Int)) := HP.out.c3
      have hga2 : ga < wr.heap.size := by have := hlh; omega
      have hj0 : (0 : Int) ≤ (j : Int) := by omega
      have hj1 : (j : Int) < (len : Int) := by omega
      have HPA : Hid (PBox WA (w.heap.size + 1) nl (.slice fa fn' fc) (.slice la ln lc) up) := HP.out.below hBA
      have HRA : Hid (PBox WA w.heap.size false (.slice none 0 0) (.slice none 0 0) 0) := HRB.out.below hBA
      have HFVA : Hid (LstAt hi WA (.slice fa fn' fc) P.first) := HFV.out.below hBA
      have HLVA : Hid (LstAt hi WA (.slice la ln lc) P.last) := HLV.out.below hBA
      have HFA : Hid (FrI lo hi w WA) := hFA
      have HSA : Hid (w.heap.size + 1 < WA.heap.size) := HPA.out.lt
      rw [hWA] at hrd
      clear hP hp hup hnl hza hcc p0 p1 p2 hkd HKC hyk hys hyl hBA hFA
      go_wp2_with fail
      refine hrd.mono ?_
      rintro e w1 ⟨pf, pl, rfl, hpf, hpl, hI1, hF1⟩
      rw [← hWA] at hF1
      obtain ⟨pa, pna, pc, rfl⟩ := hpf.any
      obtain ⟨qa, qn, qc, rfl⟩ := hpl.any
      obtain ⟨pu, hpu⟩ : ∃ x, x = p.upTo := ⟨_, rfl⟩
      obtain ⟨pn, hpn⟩ : ∃ x, x = p.null := ⟨_, rfl⟩
      have HPU : Hid (pu = p.upTo ∧ pn = p.null) := ⟨hpu, hpn⟩
      unfold prtV
      rw [← hpu, ← hpn]
      have hs1 : w.heap.size + 1 < w1.heap.size := Nat.lt_of_lt_of_le HSA.out hF1.size
      obtain ⟨W1, hW1⟩ : ∃ W, W = w1.alloc (.cells #[.bool pn, (.slice pa pna pc), (.slice qa qn qc), .int .i64 (pu : Int)] 57) := ⟨_, rfl⟩
      have hB1 : Below w1.heap.size w1 W1 := by rw [hW1]; exact below_alloc _ _
      have HQ1 : Hid (PBox W1 w1.heap.size pn (.slice pa pna pc) (.slice qa qn qc) pu) := by rw [hW1]; exact pbox_new _ _ _ _ _
      have HP1 : Hid (PBox W1 (w.heap.size + 1) nl (.slice fa fn' fc) (.slice la ln lc) up) := (HPA.out.fr hF1 (by omega)).below hB1
      have HR1 : Hid (PBox W1 w.heap.size false (.slice none 0 0) (.slice none 0 0) 0) := (HRA.out.fr hF1 (by omega)).below hB1
      have HFV1 : Hid (LstAt hi W1 (.slice fa fn' fc) P.first) := (HFVA.out.fr hF1).below hB1
      have HLV1 : Hid (LstAt hi W1 (.slice la ln lc) P.last) := (HLVA.out.fr hF1).below hB1
      have HPF1 : Hid (LstAt hi W1 (.slice pa pna pc) p.first) := hpf.below hB1
      have HPL1 : Hid (LstAt hi W1 (.slice qa qn qc) p.last) := hpl.below hB1
      have HF1 : Hid (FrI lo hi w W1) := (HFA.out.trans hF1).below hB1 (by omega)
      have HI1 : Hid (I W1 (L ++ P.notes ++ p.notes)) := HN.out.below hI1 hB1
      have hsW : W1.heap.size = w1.heap.size + 1 := by rw [hW1]; simp
      have HSW : Hid (W1.heap.size = w1.heap.size + 1) := hsW
      have HLE : Hid (P.first.length + p.first.length ≤ 100000 ∧ P.last.length + p.last.length ≤ 100000) := by
        have a1 := HOK.out.1.first.len HOK.out.1.up
        have a2 := HOKK.out.1.first.len HOKK.out.1.up
        have a3 := HOK.out.1.last.len HOK.out.1.up
        have a4 := HOKK.out.1.last.len HOKK.out.1.up
        have a5 := HOK.out.2.1
        have a6 := HOKK.out.2
        constructor <;> omega
      have HNN : Hid ((altS P p).null = (nl || pn) ∧ (altS P p).upTo = pu) := by
        constructor
        · rw [HUN.out.2, HPU.out.2]; rfl
        · rw [HPU.out.1]; rfl
      have hiW : hi ≤ W1.heap.size := HN.out.size _ _ HI1.out
      have HJ1 : Hid (∀ W, Below W1.heap.size W1 W → Calls Tryz.prog 60 #[(.slice fa fn' fc), (.slice pa pna pc)] W fun e w' => ∃ v', e = .returned v' ∧ LstAt hi w' v' (P.first ++ p.first) ∧ Below W.heap.size W w') := fun W hb => pjoin_any _ _ _ _ hi W (HFV1.out.below hb) (HPF1.out.below hb) (by have := hb.size; omega) HLE.out.1
      have HJ2 : Hid (∀ W, Below W1.heap.size W1 W → Calls Tryz.prog 60 #[(.slice la ln lc), (.slice qa qn qc)] W fun e w' => ∃ v', e = .returned v' ∧ LstAt hi w' v' (P.last ++ p.last) ∧ Below W.heap.size W w') := fun W hb => pjoin_any _ _ _ _ hi W (HLV1.out.below hb) (HPL1.out.below hb) (by have := hb.size; omega) HLE.out.2
      have HCB : Hid (∀ W, Below W1.heap.size W1 W → (W.cell? ⟨w.heap.size + 1, 1, none⟩ = some (.slice fa fn' fc) ∧ W.cell? ⟨w.heap.size + 1, 2, none⟩ = some (.slice la ln lc) ∧ W.cell? ⟨w1.heap.size, 1, none⟩ = some (.slice pa pna pc) ∧ W.cell? ⟨w1.heap.size, 2, none⟩ = some (.slice qa qn qc) ∧ W.frozen? ⟨w.heap.size + 1, 1, none⟩ = false ∧ W.frozen? ⟨w.heap.size + 1, 2, none⟩ = false)) := fun W hb => ⟨(HP1.out.below hb).c1, (HP1.out.below hb).c2, (HQ1.out.below hb).c1, (HQ1.out.below hb).c2, (HP1.out.below hb).nf 1, (HP1.out.below hb).nf 2⟩
      have HFIN : Hid (∀ w5 wF ta tn tc sa sn sc, Below W1.heap.size W1 w5 → LstAt hi w5 (.slice ta tn tc) (P.first ++ p.first) → LstAt hi w5 (.slice sa sn sc) (P.last ++ p.last) → OnlyB (w.heap.size + 1) w5 wF → (PBox w5 (w.heap.size + 1) nl (.slice fa fn' fc) (.slice la ln lc) up → PBox wF (w.heap.size + 1) nl (.slice ta tn tc) (.slice sa sn sc) up) → ∃ ta tn tc sa sn sc, PBox wF (w.heap.size + 1) nl (.slice ta tn tc) (.slice sa sn sc) up ∧ LstAt hi wF (.slice ta tn tc) (altS P p).first ∧ LstAt hi wF (.slice sa sn sc) (altS P p).last ∧ PBox wF w1.heap.size pn (.slice pa pna pc) (.slice qa qn qc) pu ∧ PBox wF w.heap.size false (.slice none 0 0) (.slice none 0 0) 0 ∧ I wF (L ++ (altS P p).notes) ∧ FrI lo hi w wF) := fun w5 wF ta tn tc sa sn sc hb h1 h2 hO hP => by
        have hP5 := HP1.out.below hb
        refine ⟨ta, tn, tc, sa, sn, sc, hP hP5, h1.only hO hP5 (by decide), h2.only hO hP5 (by decide), (HQ1.out.below hb).only hO (by omega), (HR1.out.below hb).only hO (by omega), HN.out.only (HN.out.below ?_ hb) hO (by omega), (HF1.out.below hb (by omega)).only hO (by omega) (by omega)⟩
        have := HI1.out
        rw [List.append_assoc] at this
        exact this
      have e1 := HCB.out W1 (Below.refl _ _)
      have hsW' : w1.heap.size < W1.heap.size := HQ1.out.lt
      obtain ⟨t1, t2, t3, t4, t5, t6⟩ := e1
      rw [hW1] at t1 t2 t3 t4 t5 t6
      clear hrd hpf hpl hI1 hF1 hB1 hWA hpu hpn hsW r0 r1 r2 q3
      go_upto_region 6 with fail
      rw [← hW1]
      have hW1' := hW1
      clear t1 t2 t3 t4 t5 t6 hW1
      obtain ⟨t1, t2, t3, t4, t5, t6⟩ := HCB.out W1 (Below.refl _ _)
      go_cut [] from 16 to 46 (fun wx => Hid (∃ ta tn tc sa sn sc, PBox wx (w.heap.size + 1) nl (.slice ta tn tc) (.slice sa sn sc) up ∧ LstAt hi wx (.slice ta tn tc) (altS P p).first ∧ LstAt hi wx (.slice sa sn sc) (altS P p).last ∧ PBox wx w1.heap.size pn (.slice pa pna pc) (.slice qa qn qc) pu ∧ PBox wx w.heap.size false (.slice none 0 0) (.slice none 0 0) 0 ∧ I wx (L ++ (altS P p).notes) ∧ FrI lo hi w wx))
      case first =>
        clear hW1'
        go_region_law (first | (go_simp; (with_reducible refine (HJ1.out W1.drew (Below.refl _ _).drew).mono ?_); rintro e w3 ⟨v3, rfl, hv3, hB3⟩; obtain ⟨ta, tn, tc, rfl⟩ := hv3.any; have hB3' : Below W1.heap.size W1 w3 := ((Below.refl _ _).drew).trans hB3; obtain ⟨s1, s2, s3, s4, s5, s6⟩ := HCB.out w3 hB3'; try dsimp only) | (go_simp; (with_reducible refine (HJ2.out w3 hB3').mono ?_); rintro e w5 ⟨v5, rfl, hv5, hB5⟩; obtain ⟨sa, sn, sc, rfl⟩ := hv5.any; have hB5' := below_after hB3' hB5; obtain ⟨y1, y2, y3, y4, y5, y6⟩ := HCB.out w5 hB5'; have hv3' := hv3.below hB5; try dsimp only))
        all_goals (go_wp2_with fail; go_meet)
        all_goals (first | exact HFIN.out w5 _ _ _ _ _ _ _ hB5' hv3' hv5 (((OnlyB.refl _ _).set _ _).set _ _) (fun h => (h.s1 _).s2 _) | exact HFIN.out w5 _ _ _ _ _ _ _ hB5' hv3' hv5 (((OnlyB.refl _ _).set _ _).set _ _) (fun h => (h.s2 _).s1 _))
      case rest =>
        obtain ⟨ta, tn, tc, sa, sn, sc, hP5, hF5, hL5, hQ5, hR5, hI5, hFr5⟩ := hcut.out
        have HP5 : Hid (PBox wc (w.heap.size + 1) nl (.slice ta tn tc) (.slice sa sn sc) up) := hP5
        have HF5 : Hid (LstAt hi wc (.slice ta tn tc) (altS P p).first) := hF5
        have HL5 : Hid (LstAt hi wc (.slice sa sn sc) (altS P p).last) := hL5
        have HR5 : Hid (PBox wc w.heap.size false (.slice none 0 0) (.slice none 0 0) 0) := hR5
        have HI5 : Hid (I wc (L ++ (altS P p).notes)) := hI5
        have HFr5 : Hid (FrI lo hi w wc) := hFr5
        have c1 : wc.cell? ⟨w.heap.size + 1, 0, none⟩ = some (.bool nl) := hP5.c0
        have c2 : wc.frozen? ⟨w.heap.size + 1, 0, none⟩ = false := hP5.nf 0
        have c3 : wc.cell? ⟨w.heap.size + 1, 3, none⟩ = some (.int .i64 (up : Int)) := hP5.c3
        have c4 : wc.frozen? ⟨w.heap.size + 1, 3, none⟩ = false := hP5.nf 3
        have c5 : wc.cell? ⟨w1.heap.size, 0, none⟩ = some (.bool pn) := hQ5.c0
        have c6 : wc.cell? ⟨w1.heap.size, 3, none⟩ = some (.int .i64 (pu : Int)) := hQ5.c3
        have hne : ¬ w1.heap.size = w.heap.size + 1 := by omega
        have hs5 : w1.heap.size < wc.heap.size := hQ5.lt
        have HFIN2 : Hid (∀ wF, OnlyB (w.heap.size + 1) wc wF → PBox wF (w.heap.size + 1) (nl || pn) (.slice ta tn tc) (.slice sa sn sc) pu → Hid (PBox wF (w.heap.size + 1) (altL (l.take (j + 1)) (alt0 c)).null (.slice ta tn tc) (.slice sa sn sc) (altL (l.take (j + 1)) (alt0 c)).upTo) ∧ Hid (LstAt hi wF (.slice ta tn tc) (altL (l.take (j + 1)) (alt0 c)).first) ∧ Hid (LstAt hi wF (.slice sa sn sc) (altL (l.take (j + 1)) (alt0 c)).last) ∧ Hid (I wF (L ++ (altL (l.take (j + 1)) (alt0 c)).notes)) ∧ Hid (FrI lo hi w wF) ∧ Hid (PBox wF w.heap.size false (.slice none 0 0) (.slice none 0 0) 0)) := fun wF hO hPB => by
          rw [HNX.out]
          refine ⟨?_, HF5.out.only hO HP5.out (by decide), HL5.out.only hO HP5.out (by decide), HN.out.only HI5.out hO (by omega), HFr5.out.only hO (by omega) (by omega), HR5.out.only hO (by omega)⟩
          rw [HNN.out.1, HNN.out.2]
          exact hPB
        clear hcut hP5 hF5 hL5 hQ5 hR5 hI5 hFr5 hW1'
        cases nl with
        | true =>
          go_wp2
          go_roundw
          case rel => exact ⟨j + 1, _, _, by omega, by go_num, HFIN2.out _ (((OnlyB.refl _ _).set _ _).set _ _) ((HP5.out.s0 _).s3 _)⟩
          case measure => simp [intOf]; omega
        | false =>
          cases pn with
          | true =>
            go_wp2
            go_roundw
            case rel => exact ⟨j + 1, _, _, by omega, by go_num, HFIN2.out _ (((OnlyB.refl _ _).set _ _).set _ _) ((HP5.out.s0 _).s3 _)⟩
            case measure => simp [intOf]; omega
          | false =>
            go_wp2
            go_roundw
            case rel => exact ⟨j + 1, _, _, by omega, by go_num, HFIN2.out _ (((OnlyB.refl _ _).set _ _).set _ _) ((HP5.out.s0 _).s3 _)⟩
            case measure => simp [intOf]; omega
    · obtain rfl : j = len := by omega
      have HEQ : Hid (l.take j = l) := List.take_of_length_le (by rw [← HLEN.out]; exact Nat.le_refl _)
      obtain ⟨P, hP⟩ : ∃ P, P = altL l (alt0 c) := ⟨_, rfl⟩
      rw [HEQ.out, ← hP] at HP HFV HLV HI
      have HPP : Hid (P = altL l (alt0 c)) := hP
      have d0 : wr.cell? ⟨w.heap.size + 1, 0, none⟩ = some (.bool P.null) := HP.out.c0
      have d1 : wr.cell? ⟨w.heap.size + 1, 1, none⟩ = some (.slice fa fn' fc) := HP.out.c1
      have d2 : wr.cell? ⟨w.heap.size + 1, 2, none⟩ = some (.slice la ln lc) := HP.out.c2
      have d3 : wr.cell? ⟨w.heap.size + 1, 3, none⟩ = some (.int .i64 (P.upTo : Int)) := HP.out.c3
      have e0 : wr.cell? ⟨w.heap.size, 0, none⟩ = some (.bool false) := HRB.out.c0
      have e1 : wr.cell? ⟨w.heap.size, 1, none⟩ = some (.slice none 0 0) := HRB.out.c1
      have e2 : wr.cell? ⟨w.heap.size, 2, none⟩ = some (.slice none 0 0) := HRB.out.c2
      have e3 : wr.cell? ⟨w.heap.size, 3, none⟩ = some (.int .i64 0) := HRB.out.c3
      have f0 : wr.frozen? ⟨w.heap.size, 0, none⟩ = false := HRB.out.nf 0
      have f1 : wr.frozen? ⟨w.heap.size, 1, none⟩ = false := HRB.out.nf 1
      have f2 : wr.frozen? ⟨w.heap.size, 2, none⟩ = false := HRB.out.nf 2
      have f3 : wr.frozen? ⟨w.heap.size, 3, none⟩ = false := HRB.out.nf 3
      have HQ : Hid (OnlyB w.heap.size wr ((((wr.setCell ⟨w.heap.size, 0, none⟩ (.bool P.null)).setCell ⟨w.heap.size, 1, none⟩ (.slice fa fn' fc)).setCell ⟨w.heap.size, 2, none⟩ (.slice la ln lc)).setCell ⟨w.heap.size, 3, none⟩ (.int .i64 (P.upTo : Int)))) := ((((OnlyB.refl _ _).set _ _).set _ _).set _ _).set _ _
      have HX : Hid (PBox ((((wr.setCell ⟨w.heap.size, 0, none⟩ (.bool P.null)).setCell ⟨w.heap.size, 1, none⟩ (.slice fa fn' fc)).setCell ⟨w.heap.size, 2, none⟩ (.slice la ln lc)).setCell ⟨w.heap.size, 3, none⟩ (.int .i64 (P.upTo : Int))) w.heap.size P.null (.slice fa fn' fc) (.slice la ln lc) P.upTo) := (((HRB.out.s0 _).s1 _).s2 _).s3 _
      clear hP
      go_wp2
      refine bodyPost_ret (results_cell_row rfl _ _ w.heap.size 57 #[.bool P.null, (.slice fa fn' fc), (.slice la ln lc), .int .i64 (P.upTo : Int)] (0, 0) _ rfl ?_ Tryz.underlying57 rfl (by kernel_rfl)) rfl ?_
      · exact HX.out
      · rw [← HPP.out]
        exact ⟨(.slice fa fn' fc), (.slice la ln lc), rfl, HFV.out.only HQ.out HRB.out (by decide), HLV.out.only HQ.out HRB.out (by decide), HN.out.only HI.out HQ.out (by omega), HFR.out.only HQ.out (Nat.le_refl _) (by omega)⟩
end Go.Proofs.YtklhjjgnhigbiaaGreatDoor
