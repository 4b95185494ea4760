/-
  An expression read part by part: read.
-/
import Derived.Test.YtklhjjgnhigbiaaGreatDoorFlAlt
namespace Go.Proofs.YtklhjjgnhigbiaaGreatDoor
open Go.RowKit Go.Shelf
set_option linter.unusedVariables false

set_option maxRecDepth 100000 in
set_option maxHeartbeats 16000000 in
theorem read_set {lo hi m : Nat} {I : World → List (List Nat × List Nat) → Prop} {fn : Nat} {caps : Array Value} (N : NoteT fn caps lo hi m I) (s : Int) (za : Option Addr) (zl ca c : Nat) (L : List (List Nat × List Nat)) (w : World) (hm : m ≤ 700) (hI : I w L) (hcm : c + 1 ≤ m) :
    Calls Tryz.prog 15 #[.agg #[.int .i64 1, .int .i64 s, .slice za zl ca], .int .i64 (c : Int), .func (.func fn) #[] caps] w (RdA lo hi I (setP c) L w) := by
  have hsz := N.size w L hI
  have hlh := N.le
  obtain ⟨WF, hWF⟩ : ∃ W, W = ((w.alloc (.cells #[.int .i64 1, .int .i64 s, .slice za zl ca] 24)).alloc (.cells #[.bool false, .slice (some ⟨w.heap.size + 1 + 1, 0, none⟩) 1 1, .slice (some ⟨w.heap.size + 1 + 1, 0, none⟩) 1 1, .int .i64 ((c : Int) + 1)] 57)).alloc (.cells #[.int .i64 ((c : Int) + 1)] 3) := ⟨_, rfl⟩
  obtain ⟨h0, h1, h2, hB, hs⟩ := alloc3 hWF
  have HL : Hid (LstAt hi WF (.slice (some ⟨w.heap.size + 1 + 1, 0, none⟩) 1 1) [c + 1]) := ⟨_, 1, rfl, Nat.le_refl _, fun e => (by cases e), fun _ => ⟨w.heap.size + 2, 0, _, _, rfl, by omega, h2, fun i hi => by
    have h0 : i = 0 := by simpa using hi
    subst h0; rfl⟩⟩
  have HI : Hid (I WF (L ++ [])) := by rw [List.append_nil]; exact N.below hI hB
  have HF : Hid (FrI lo hi w WF) := FrI.of hB (by omega)
  have HE : Hid (WF.heap[w.heap.size + 1]? = some (.cells #[.bool false, .slice (some ⟨w.heap.size + 1 + 1, 0, none⟩) 1 1, .slice (some ⟨w.heap.size + 1 + 1, 0, none⟩) 1 1, .int .i64 ((c : Int) + 1)] 57 (0, 0))) := h1
  have HWF : Hid (WF = _) := hWF
  clear h0 h1 h2 hB hs hWF N hI
  go_enter Tryz.func15, Tryz.ntmps15
  go_wp2
  rw [← HWF.out]
  refine bodyPost_ret (results_cell_row rfl _ _ (w.heap.size + 1) 57 #[.bool false, .slice (some ⟨w.heap.size + 1 + 1, 0, none⟩) 1 1, .slice (some ⟨w.heap.size + 1 + 1, 0, none⟩) 1 1, .int .i64 ((c : Int) + 1)] (0, 0) _ rfl ?_ Tryz.underlying57 rfl (by kernel_rfl)) rfl ?_
  · exact HE.out
  · exact ⟨_, _, rfl, HL.out, HL.out, HI.out, HF.out⟩

set_option maxRecDepth 100000 in
set_option maxHeartbeats 16000000 in
theorem read_inTurn {lo hi m : Nat} {I : World → List (List Nat × List Nat) → Prop} {fn : Nat} {caps : Array Value} (N : NoteT fn caps lo hi m I) (s : Int) (l : List Nd) (za : Option Addr) (ca c : Nat) (L : List (List Nat × List Nat)) (w : World) (hm : m ≤ 700) (hI : I w L) (hg : ∀ x ∈ l, rightN x = true) (hcm : c + (setsL l).length ≤ m) (hl : l.length ≤ 1000) (hz : KdX (fun k => k < lo) w (.slice za l.length ca) l)
    (HR : ∀ i, (h : i < l.length) → ∀ xa ka, KidC fn caps lo hi I m l[i] xa ka) :
    Calls Tryz.prog 15 #[.agg #[.int .i64 0, .int .i64 s, .slice za l.length ca], .int .i64 (c : Int), .func (.func fn) #[] caps] w (RdA lo hi I (catL l (cat0 c)) L w) := by
  have hsz := N.size w L hI
  have hlh := N.le
  obtain ⟨W0, hW0⟩ : ∃ W, W = (w.alloc (.cells #[.int .i64 0, .int .i64 s, .slice za l.length ca] 24)).alloc (.cells #[.bool false, .slice none 0 0, .slice none 0 0, .int .i64 0] 57) := ⟨_, rfl⟩
  obtain ⟨h0, h1, hB, hs⟩ := alloc2 hW0
  have hc := inTurn_any N l za ca c L W0 hm (N.below hI hB) hg hcm hl (hz.to (fun k hk => ⟨hB.block k (by omega), hk⟩)) HR
  have HR0 : Hid (PBox W0 (w.heap.size + 1) false (.slice none 0 0) (.slice none 0 0) 0) := h1
  have HN : Hid (NoteT fn caps lo hi m I) := N
  have HF0 : Hid (FrI lo hi w W0) := FrI.of hB (by omega)
  have HS0 : Hid (W0.heap.size = w.heap.size + 2) := hs
  obtain ⟨len, hlen⟩ : ∃ x, x = l.length := ⟨_, rfl⟩
  obtain ⟨P, hP⟩ : ∃ P, P = catL l (cat0 c) := ⟨_, rfl⟩
  rw [← hlen] at hc hW0 ⊢
  rw [← hP] at hc ⊢
  have HW0 : Hid (W0 = _) := hW0
  rw [hW0] at hc
  clear h0 h1 hB hs hW0 N hI hg hcm hl hz HR hlen hP
  go_enter Tryz.func15, Tryz.ntmps15
  go_wp2_with fail
  refine hc.mono ?_
  rintro e w1 ⟨fv, lv, rfl, hf1, hl1, hI1, hF1⟩
  rw [← HW0.out] at hF1
  obtain ⟨fa, fn', fc, rfl⟩ := hf1.any
  obtain ⟨la, ln, lc, rfl⟩ := hl1.any
  have HRB : Hid (PBox w1 (w.heap.size + 1) false (.slice none 0 0) (.slice none 0 0) 0) := HR0.out.fr hF1 (by omega)
  have HFV : Hid (LstAt hi w1 (.slice fa fn' fc) P.first) := hf1
  have HLV : Hid (LstAt hi w1 (.slice la ln lc) P.last) := hl1
  have HI1 : Hid (I w1 (L ++ P.notes)) := hI1
  have HF1 : Hid (FrI lo hi w w1) := HF0.out.trans hF1
  have e0 : w1.cell? ⟨w.heap.size + 1, 0, none⟩ = some (.bool false) := HRB.out.c0
  have e1 : w1.cell? ⟨w.heap.size + 1, 1, none⟩ = some (.slice none 0 0) := HRB.out.c1
  have e2 : w1.cell? ⟨w.heap.size + 1, 2, none⟩ = some (.slice none 0 0) := HRB.out.c2
  have e3 : w1.cell? ⟨w.heap.size + 1, 3, none⟩ = some (.int .i64 0) := HRB.out.c3
  have f0 : w1.frozen? ⟨w.heap.size + 1, 0, none⟩ = false := HRB.out.nf 0
  have f1 : w1.frozen? ⟨w.heap.size + 1, 1, none⟩ = false := HRB.out.nf 1
  have f2 : w1.frozen? ⟨w.heap.size + 1, 2, none⟩ = false := HRB.out.nf 2
  have f3 : w1.frozen? ⟨w.heap.size + 1, 3, none⟩ = false := HRB.out.nf 3
  have hlt := HRB.out.lt
  clear hc hf1 hl1 hI1 hF1
  unfold prtV
  go_wp2
  refine bodyPost_ret (results_cell_row rfl _ _ (w.heap.size + 1) 57 #[.bool P.null, .slice fa fn' fc, .slice la ln lc, .int .i64 (P.upTo : Int)] (0, 0) _ rfl ?_ Tryz.underlying57 rfl (by kernel_rfl)) rfl ?_
  · exact (((HRB.out.s0 _).s1 _).s2 _).s3 _
  · have hO : OnlyB (w.heap.size + 1) w1 ((((w1.setCell ⟨w.heap.size + 1, 0, none⟩ (.bool P.null)).setCell ⟨w.heap.size + 1, 1, none⟩ (.slice fa fn' fc)).setCell ⟨w.heap.size + 1, 2, none⟩ (.slice la ln lc)).setCell ⟨w.heap.size + 1, 3, none⟩ (.int .i64 (P.upTo : Int))) := ((((OnlyB.refl _ _).set _ _).set _ _).set _ _).set _ _
    exact ⟨_, _, rfl, HFV.out.only hO HRB.out (by decide), HLV.out.only hO HRB.out (by decide), HN.out.only HI1.out hO (by omega), HF1.out.only hO (by omega) (by omega)⟩

set_option maxRecDepth 100000 in
set_option maxHeartbeats 16000000 in
theorem read_oneOf {lo hi m : Nat} {I : World → List (List Nat × List Nat) → Prop} {fn : Nat} {caps : Array Value} (N : NoteT fn caps lo hi m I) (s : Int) (l : List Nd) (za : Option Addr) (ca c : Nat) (L : List (List Nat × List Nat)) (w : World) (hm : m ≤ 700) (hI : I w L) (hg : ∀ x ∈ l, rightN x = true) (hcm : c + (setsL l).length ≤ m) (hl : l.length ≤ 1000) (hz : KdX (fun k => k < lo) w (.slice za l.length ca) l)
    (HR : ∀ i, (h : i < l.length) → ∀ xa ka, KidC fn caps lo hi I m l[i] xa ka) :
    Calls Tryz.prog 15 #[.agg #[.int .i64 2, .int .i64 s, .slice za l.length ca], .int .i64 (c : Int), .func (.func fn) #[] caps] w (RdA lo hi I (altL l (alt0 c)) L w) := by
  have hsz := N.size w L hI
  have hlh := N.le
  obtain ⟨W0, hW0⟩ : ∃ W, W = (w.alloc (.cells #[.int .i64 2, .int .i64 s, .slice za l.length ca] 24)).alloc (.cells #[.bool false, .slice none 0 0, .slice none 0 0, .int .i64 0] 57) := ⟨_, rfl⟩
  obtain ⟨h0, h1, hB, hs⟩ := alloc2 hW0
  have hc := oneOf_any N l za ca c L W0 hm (N.below hI hB) hg hcm hl (hz.to (fun k hk => ⟨hB.block k (by omega), hk⟩)) HR
  have HR0 : Hid (PBox W0 (w.heap.size + 1) false (.slice none 0 0) (.slice none 0 0) 0) := h1
  have HN : Hid (NoteT fn caps lo hi m I) := N
  have HF0 : Hid (FrI lo hi w W0) := FrI.of hB (by omega)
  have HS0 : Hid (W0.heap.size = w.heap.size + 2) := hs
  obtain ⟨len, hlen⟩ : ∃ x, x = l.length := ⟨_, rfl⟩
  obtain ⟨P, hP⟩ : ∃ P, P = altL l (alt0 c) := ⟨_, rfl⟩
  rw [← hlen] at hc hW0 ⊢
  rw [← hP] at hc ⊢
  have HW0 : Hid (W0 = _) := hW0
  rw [hW0] at hc
  clear h0 h1 hB hs hW0 N hI hg hcm hl hz HR hlen hP
  go_enter Tryz.func15, Tryz.ntmps15
  go_wp2_with fail
  refine hc.mono ?_
  rintro e w1 ⟨fv, lv, rfl, hf1, hl1, hI1, hF1⟩
  rw [← HW0.out] at hF1
  obtain ⟨fa, fn', fc, rfl⟩ := hf1.any
  obtain ⟨la, ln, lc, rfl⟩ := hl1.any
  have HRB : Hid (PBox w1 (w.heap.size + 1) false (.slice none 0 0) (.slice none 0 0) 0) := HR0.out.fr hF1 (by omega)
  have HFV : Hid (LstAt hi w1 (.slice fa fn' fc) P.first) := hf1
  have HLV : Hid (LstAt hi w1 (.slice la ln lc) P.last) := hl1
  have HI1 : Hid (I w1 (L ++ P.notes)) := hI1
  have HF1 : Hid (FrI lo hi w w1) := HF0.out.trans hF1
  have e0 : w1.cell? ⟨w.heap.size + 1, 0, none⟩ = some (.bool false) := HRB.out.c0
  have e1 : w1.cell? ⟨w.heap.size + 1, 1, none⟩ = some (.slice none 0 0) := HRB.out.c1
  have e2 : w1.cell? ⟨w.heap.size + 1, 2, none⟩ = some (.slice none 0 0) := HRB.out.c2
  have e3 : w1.cell? ⟨w.heap.size + 1, 3, none⟩ = some (.int .i64 0) := HRB.out.c3
  have f0 : w1.frozen? ⟨w.heap.size + 1, 0, none⟩ = false := HRB.out.nf 0
  have f1 : w1.frozen? ⟨w.heap.size + 1, 1, none⟩ = false := HRB.out.nf 1
  have f2 : w1.frozen? ⟨w.heap.size + 1, 2, none⟩ = false := HRB.out.nf 2
  have f3 : w1.frozen? ⟨w.heap.size + 1, 3, none⟩ = false := HRB.out.nf 3
  have hlt := HRB.out.lt
  clear hc hf1 hl1 hI1 hF1
  unfold prtV
  go_wp2
  refine bodyPost_ret (results_cell_row rfl _ _ (w.heap.size + 1) 57 #[.bool P.null, .slice fa fn' fc, .slice la ln lc, .int .i64 (P.upTo : Int)] (0, 0) _ rfl ?_ Tryz.underlying57 rfl (by kernel_rfl)) rfl ?_
  · exact (((HRB.out.s0 _).s1 _).s2 _).s3 _
  · have hO : OnlyB (w.heap.size + 1) w1 ((((w1.setCell ⟨w.heap.size + 1, 0, none⟩ (.bool P.null)).setCell ⟨w.heap.size + 1, 1, none⟩ (.slice fa fn' fc)).setCell ⟨w.heap.size + 1, 2, none⟩ (.slice la ln lc)).setCell ⟨w.heap.size + 1, 3, none⟩ (.int .i64 (P.upTo : Int))) := ((((OnlyB.refl _ _).set _ _).set _ _).set _ _).set _ _
    exact ⟨_, _, rfl, HFV.out.only hO HRB.out (by decide), HLV.out.only hO HRB.out (by decide), HN.out.only HI1.out hO (by omega), HF1.out.only hO (by omega) (by omega)⟩

set_option maxRecDepth 100000 in
set_option maxHeartbeats 16000000 in
theorem read_sgn3 {lo hi m : Nat} {I : World → List (List Nat × List Nat) → Prop} {fn : Nat} {caps : Array Value} (N : NoteT fn caps lo hi m I) (s : Int) (x : Nd) (za : Option Addr) (ca c : Nat) (L : List (List Nat × List Nat)) (w : World) (hm : m ≤ 700) (hI : I w L) (hg : rightN x = true) (hcm : c + (setsN x).length ≤ m) (hz : KdX (fun k => k < lo) w (.slice za 1 ca) [x])
    (HR : ∀ xa ka, KidC fn caps lo hi I m x xa ka) :
    Calls Tryz.prog 15 #[.agg #[.int .i64 3, .int .i64 s, .slice za 1 ca], .int .i64 (c : Int), .func (.func fn) #[] caps] w (RdA lo hi I (sgnS 3 (prtN x c)) L w) := by
  have hsz := N.size w L hI
  have hlh := N.le
  obtain ⟨ga, oa, cc, z', hza, hcc, hga, p0, p1, p2, hkd⟩ := hz.at 0 (by simp)
  obtain ⟨rfl, rfl⟩ : za = some ⟨ga, oa, none⟩ ∧ ca = cc := by simpa using hza
  obtain ⟨xa, ka, rfl, _⟩ := hkd.slice
  obtain ⟨W0, hW0⟩ : ∃ W, W = (w.alloc (.cells #[.int .i64 3, .int .i64 s, .slice (some ⟨ga, oa, none⟩) 1 ca] 24)).alloc (.cells #[.bool false, .slice none 0 0, .slice none 0 0, .int .i64 0] 57) := ⟨_, rfl⟩
  obtain ⟨h0, h1, hB, hs⟩ := alloc2 hW0
  have hc := HR xa ka W0 L c (N.below hI hB) (Below.refl _ _) hcm (hkd.to (fun k hk => ⟨hB.block k (by omega), hk⟩))
  have HR0 : Hid (PBox W0 (w.heap.size + 1) false (.slice none 0 0) (.slice none 0 0) 0) := h1
  have HX0 : Hid (Box W0 w.heap.size 3 s (.slice (some ⟨ga, oa, none⟩) 1 ca)) := h0
  have HN : Hid (NoteT fn caps lo hi m I) := N
  have HF0 : Hid (FrI lo hi w W0) := FrI.of hB (by omega)
  have HS0 : Hid (W0.heap.size = w.heap.size + 2) := hs
  have HOK : Hid (Okp c (prtN x c) ∧ (prtN x c).upTo ≤ m) := by
    have := gd_all x hg c
    exact ⟨this.1, by rw [this.2]; exact hcm⟩
  obtain ⟨p, hp⟩ : ∃ P, P = prtN x c := ⟨_, rfl⟩
  rw [← hp] at hc HOK ⊢
  have p0' : w.cell? ⟨ga, oa, none⟩ = some (.int .i64 x.k) := by simpa using p0
  have p1' : w.cell? ⟨ga, oa + 1, none⟩ = some (.int .i64 x.s) := by simpa using p1
  have p2' : w.cell? ⟨ga, oa + 2, none⟩ = some (.slice xa x.kids.length ka) := by simpa using p2
  have hga2 : ga < w.heap.size := by omega
  obtain ⟨yk, hyk⟩ : ∃ y, y = x.k := ⟨_, rfl⟩
  obtain ⟨ys, hys⟩ : ∃ y, y = x.s := ⟨_, rfl⟩
  obtain ⟨yl, hyl⟩ : ∃ y, y = x.kids.length := ⟨_, rfl⟩
  rw [← hyk, ← hys, ← hyl] at hc
  rw [← hyk] at p0'
  rw [← hys] at p1'
  rw [← hyl] at p2'
  have HW0 : Hid (W0 = _) := hW0
  rw [hW0] at hc
  clear h0 h1 hB hs hW0 N hI hg hcm hz HR hp hza hcc p0 p1 p2 hkd hyk hys hyl
  go_enter Tryz.func15, Tryz.ntmps15
  go_wp2_with fail
  refine hc.mono ?_
  rintro e w1 ⟨fv, lv, rfl, hf1, hl1, hI1, hF1⟩
  rw [← HW0.out] at hF1
  obtain ⟨fa, fn', fc, rfl⟩ := hf1.any
  obtain ⟨la, ln, lc, rfl⟩ := hl1.any
  obtain ⟨pu, hpu⟩ : ∃ x, x = p.upTo := ⟨_, rfl⟩
  obtain ⟨pn, hpn⟩ : ∃ x, x = p.null := ⟨_, rfl⟩
  have HPU : Hid (pu = p.upTo ∧ pn = p.null) := ⟨hpu, hpn⟩
  unfold prtV
  rw [← hpu, ← hpn]
  obtain ⟨W1, hW1⟩ : ∃ W, W = w1.alloc (.cells #[.bool pn, .slice fa fn' fc, .slice la ln lc, .int .i64 (pu : Int)] 57) := ⟨_, rfl⟩
  have hB1 : Below w1.heap.size w1 W1 := by rw [hW1]; exact below_alloc _ _
  have hs1 : w.heap.size + 2 ≤ w1.heap.size := by have := hF1.size; have := HS0.out; omega
  have HQ1 : Hid (PBox W1 w1.heap.size pn (.slice fa fn' fc) (.slice la ln lc) pu) := by rw [hW1]; exact pbox_new _ _ _ _ _
  have HR1 : Hid (PBox W1 (w.heap.size + 1) false (.slice none 0 0) (.slice none 0 0) 0) := (HR0.out.fr hF1 (by omega)).below hB1
  have HX1 : Hid (Box W1 w.heap.size 3 s (.slice (some ⟨ga, oa, none⟩) 1 ca)) := (show Box w1 w.heap.size _ _ _ from (hF1.block (.inr ⟨hsz, by have := HS0.out; omega⟩)).trans HX0.out).below hB1
  have HFV1 : Hid (LstAt hi W1 (.slice fa fn' fc) p.first) := hf1.below hB1
  have HLV1 : Hid (LstAt hi W1 (.slice la ln lc) p.last) := hl1.below hB1
  have HI1 : Hid (I W1 (L ++ p.notes)) := HN.out.below hI1 hB1
  have HF1 : Hid (FrI lo hi w W1) := (HF0.out.trans hF1).below hB1 (by omega)
  have x0 : W1.cell? ⟨w.heap.size, 0, none⟩ = some (.int .i64 3) := HX1.out.c0
  have hsW : W1.heap.size = w1.heap.size + 1 := by rw [hW1]; simp
  have HSW : Hid (W1.heap.size = w1.heap.size + 1) := hsW
  have hnt := HN.out.call W1 _ (.slice la ln lc) p.last (.slice fa fn' fc) p.first HI1.out HLV1.out HFV1.out (HOK.out.1.last.wide (Nat.zero_le _) HOK.out.2) (HOK.out.1.first.wide (Nat.zero_le _) HOK.out.2)
  have t2 : W1.cell? ⟨w1.heap.size, 2, none⟩ = some (.slice la ln lc) := HQ1.out.c2
  have t1 : W1.cell? ⟨w1.heap.size, 1, none⟩ = some (.slice fa fn' fc) := HQ1.out.c1
  have eg := HN.out.ent
  rw [hW1] at t1 t2 hnt x0
  clear hc hf1 hl1 hI1 hF1 hB1 hpu hpn hsW p0' p1' p2'
  go_wp2_with fail
  refine hnt.mono ?_
  rintro e w2 ⟨rfl, hI2, hF2⟩
  rw [← hW1] at hF2
  have HQ2 : Hid (PBox w2 w1.heap.size pn (.slice fa fn' fc) (.slice la ln lc) pu) := HQ1.out.fr hF2 (by omega)
  have HR2 : Hid (PBox w2 (w.heap.size + 1) false (.slice none 0 0) (.slice none 0 0) 0) := HR1.out.fr hF2 (by omega)
  have HX2 : Hid (Box w2 w.heap.size 3 s (.slice (some ⟨ga, oa, none⟩) 1 ca)) := (hF2.block (.inr ⟨hsz, by have := HSW.out; omega⟩)).trans HX1.out
  have HFV2 : Hid (LstAt hi w2 (.slice fa fn' fc) p.first) := HFV1.out.fr hF2
  have HLV2 : Hid (LstAt hi w2 (.slice la ln lc) p.last) := HLV1.out.fr hF2
  have HF2 : Hid (FrI lo hi w w2) := HF1.out.trans hF2
  have HI2 : Hid (I w2 (L ++ (sgnS 3 p).notes)) := by
    have e : (sgnS 3 p).notes = p.notes ++ [(p.last, p.first)] := by simp [sgnS]
    rw [e, ← List.append_assoc]; exact hI2
  clear hnt hI2 hF2 t1 t2 hW1 x0
  have hlt2 : w1.heap.size < w2.heap.size := HQ2.out.lt
  have x0 : w2.cell? ⟨w.heap.size, 0, none⟩ = some (.int .i64 3) := HX2.out.c0
  have q0 : w2.cell? ⟨w1.heap.size, 0, none⟩ = some (.bool pn) := HQ2.out.c0
  have q1 : w2.cell? ⟨w1.heap.size, 1, none⟩ = some (.slice fa fn' fc) := HQ2.out.c1
  have q2 : w2.cell? ⟨w1.heap.size, 2, none⟩ = some (.slice la ln lc) := HQ2.out.c2
  have q3 : w2.cell? ⟨w1.heap.size, 3, none⟩ = some (.int .i64 (pu : Int)) := HQ2.out.c3
  have qf : w2.frozen? ⟨w1.heap.size, 0, none⟩ = false := HQ2.out.nf 0
  have e0 : w2.cell? ⟨w.heap.size + 1, 0, none⟩ = some (.bool false) := HR2.out.c0
  have e1 : w2.cell? ⟨w.heap.size + 1, 1, none⟩ = some (.slice none 0 0) := HR2.out.c1
  have e2 : w2.cell? ⟨w.heap.size + 1, 2, none⟩ = some (.slice none 0 0) := HR2.out.c2
  have e3 : w2.cell? ⟨w.heap.size + 1, 3, none⟩ = some (.int .i64 0) := HR2.out.c3
  have f0 : w2.frozen? ⟨w.heap.size + 1, 0, none⟩ = false := HR2.out.nf 0
  have f1 : w2.frozen? ⟨w.heap.size + 1, 1, none⟩ = false := HR2.out.nf 1
  have f2 : w2.frozen? ⟨w.heap.size + 1, 2, none⟩ = false := HR2.out.nf 2
  have f3 : w2.frozen? ⟨w.heap.size + 1, 3, none⟩ = false := HR2.out.nf 3
  have hne : ¬ w1.heap.size = w.heap.size + 1 := by omega
  have hne' : ¬ w.heap.size + 1 = w1.heap.size := by omega
  have HNN : Hid ((sgnS 3 p).null = true ∧ (sgnS 3 p).upTo = pu) := by
    constructor
    · show (p.null || decide ((3 : Int) ≠ 4)) = _
      simp
    · exact HPU.out.1.symm
  have HFIN : Hid (∀ nn : Bool, (sgnS 3 p).null = nn → RdA lo hi I (sgnS 3 p) L w (.returned (.agg #[.bool nn, .slice fa fn' fc, .slice la ln lc, .int .i64 (pu : Int)])) (((((w2.setCell ⟨w1.heap.size, 0, none⟩ (.bool nn)).setCell ⟨w.heap.size + 1, 0, none⟩ (.bool nn)).setCell ⟨w.heap.size + 1, 1, none⟩ (.slice fa fn' fc)).setCell ⟨w.heap.size + 1, 2, none⟩ (.slice la ln lc)).setCell ⟨w.heap.size + 1, 3, none⟩ (.int .i64 (pu : Int)))) := fun nn hn => by
    have o1 : OnlyB w1.heap.size w2 (w2.setCell ⟨w1.heap.size, 0, none⟩ (.bool nn)) := (OnlyB.refl _ _).set _ _
    have o2 : OnlyB (w.heap.size + 1) (w2.setCell ⟨w1.heap.size, 0, none⟩ (.bool nn)) (((((w2.setCell ⟨w1.heap.size, 0, none⟩ (.bool nn)).setCell ⟨w.heap.size + 1, 0, none⟩ (.bool nn)).setCell ⟨w.heap.size + 1, 1, none⟩ (.slice fa fn' fc)).setCell ⟨w.heap.size + 1, 2, none⟩ (.slice la ln lc)).setCell ⟨w.heap.size + 1, 3, none⟩ (.int .i64 (pu : Int))) := ((((OnlyB.refl _ _).set _ _).set _ _).set _ _).set _ _
    have r1 := HR2.out.only o1 (by omega)
    refine ⟨_, _, by rw [hn, HNN.out.2]; rfl, (HFV2.out.only o1 HQ2.out (by decide)).only o2 r1 (by decide), (HLV2.out.only o1 HQ2.out (by decide)).only o2 r1 (by decide), HN.out.only (HN.out.only HI2.out o1 (by omega)) o2 (by omega), (HF2.out.only o1 (by omega) (by omega)).only o2 (by omega) (by omega)⟩
  have HBX : Hid (∀ nn : Bool, PBox (((((w2.setCell ⟨w1.heap.size, 0, none⟩ (.bool nn)).setCell ⟨w.heap.size + 1, 0, none⟩ (.bool nn)).setCell ⟨w.heap.size + 1, 1, none⟩ (.slice fa fn' fc)).setCell ⟨w.heap.size + 1, 2, none⟩ (.slice la ln lc)).setCell ⟨w.heap.size + 1, 3, none⟩ (.int .i64 (pu : Int))) (w.heap.size + 1) nn (.slice fa fn' fc) (.slice la ln lc) pu) := fun nn => ((((HR2.out.only ((OnlyB.refl _ _).set _ _) (by omega)).s0 _).s1 _).s2 _).s3 _
  cases pn with
  | true =>
    go_wp2
    refine bodyPost_ret (results_cell_row rfl _ _ (w.heap.size + 1) 57 #[.bool true, .slice fa fn' fc, .slice la ln lc, .int .i64 (pu : Int)] (0, 0) _ rfl ?_ Tryz.underlying57 rfl (by kernel_rfl)) rfl ?_
    · exact HBX.out true
    · exact HFIN.out true HNN.out.1
  | false =>
    go_wp2
    refine bodyPost_ret (results_cell_row rfl _ _ (w.heap.size + 1) 57 #[.bool true, .slice fa fn' fc, .slice la ln lc, .int .i64 (pu : Int)] (0, 0) _ rfl ?_ Tryz.underlying57 rfl (by kernel_rfl)) rfl ?_
    · exact HBX.out true
    · exact HFIN.out true HNN.out.1

set_option maxRecDepth 100000 in
set_option maxHeartbeats 16000000 in
theorem read_sgn4 {lo hi m : Nat} {I : World → List (List Nat × List Nat) → Prop} {fn : Nat} {caps : Array Value} (N : NoteT fn caps lo hi m I) (s : Int) (x : Nd) (za : Option Addr) (ca c : Nat) (L : List (List Nat × List Nat)) (w : World) (hm : m ≤ 700) (hI : I w L) (hg : rightN x = true) (hcm : c + (setsN x).length ≤ m) (hz : KdX (fun k => k < lo) w (.slice za 1 ca) [x])
    (HR : ∀ xa ka, KidC fn caps lo hi I m x xa ka) :
    Calls Tryz.prog 15 #[.agg #[.int .i64 4, .int .i64 s, .slice za 1 ca], .int .i64 (c : Int), .func (.func fn) #[] caps] w (RdA lo hi I (sgnS 4 (prtN x c)) L w) := by
  have hsz := N.size w L hI
  have hlh := N.le
  obtain ⟨ga, oa, cc, z', hza, hcc, hga, p0, p1, p2, hkd⟩ := hz.at 0 (by simp)
  obtain ⟨rfl, rfl⟩ : za = some ⟨ga, oa, none⟩ ∧ ca = cc := by simpa using hza
  obtain ⟨xa, ka, rfl, _⟩ := hkd.slice
  obtain ⟨W0, hW0⟩ : ∃ W, W = (w.alloc (.cells #[.int .i64 4, .int .i64 s, .slice (some ⟨ga, oa, none⟩) 1 ca] 24)).alloc (.cells #[.bool false, .slice none 0 0, .slice none 0 0, .int .i64 0] 57) := ⟨_, rfl⟩
  obtain ⟨h0, h1, hB, hs⟩ := alloc2 hW0
  have hc := HR xa ka W0 L c (N.below hI hB) (Below.refl _ _) hcm (hkd.to (fun k hk => ⟨hB.block k (by omega), hk⟩))
  have HR0 : Hid (PBox W0 (w.heap.size + 1) false (.slice none 0 0) (.slice none 0 0) 0) := h1
  have HX0 : Hid (Box W0 w.heap.size 4 s (.slice (some ⟨ga, oa, none⟩) 1 ca)) := h0
  have HN : Hid (NoteT fn caps lo hi m I) := N
  have HF0 : Hid (FrI lo hi w W0) := FrI.of hB (by omega)
  have HS0 : Hid (W0.heap.size = w.heap.size + 2) := hs
  have HOK : Hid (Okp c (prtN x c) ∧ (prtN x c).upTo ≤ m) := by
    have := gd_all x hg c
    exact ⟨this.1, by rw [this.2]; exact hcm⟩
  obtain ⟨p, hp⟩ : ∃ P, P = prtN x c := ⟨_, rfl⟩
  rw [← hp] at hc HOK ⊢
  have p0' : w.cell? ⟨ga, oa, none⟩ = some (.int .i64 x.k) := by simpa using p0
  have p1' : w.cell? ⟨ga, oa + 1, none⟩ = some (.int .i64 x.s) := by simpa using p1
  have p2' : w.cell? ⟨ga, oa + 2, none⟩ = some (.slice xa x.kids.length ka) := by simpa using p2
  have hga2 : ga < w.heap.size := by omega
  obtain ⟨yk, hyk⟩ : ∃ y, y = x.k := ⟨_, rfl⟩
  obtain ⟨ys, hys⟩ : ∃ y, y = x.s := ⟨_, rfl⟩
  obtain ⟨yl, hyl⟩ : ∃ y, y = x.kids.length := ⟨_, rfl⟩
  rw [← hyk, ← hys, ← hyl] at hc
  rw [← hyk] at p0'
  rw [← hys] at p1'
  rw [← hyl] at p2'
  have HW0 : Hid (W0 = _) := hW0
  rw [hW0] at hc
  clear h0 h1 hB hs hW0 N hI hg hcm hz HR hp hza hcc p0 p1 p2 hkd hyk hys hyl
  go_enter Tryz.func15, Tryz.ntmps15
  go_wp2_with fail
  refine hc.mono ?_
  rintro e w1 ⟨fv, lv, rfl, hf1, hl1, hI1, hF1⟩
  rw [← HW0.out] at hF1
  obtain ⟨fa, fn', fc, rfl⟩ := hf1.any
  obtain ⟨la, ln, lc, rfl⟩ := hl1.any
  obtain ⟨pu, hpu⟩ : ∃ x, x = p.upTo := ⟨_, rfl⟩
  obtain ⟨pn, hpn⟩ : ∃ x, x = p.null := ⟨_, rfl⟩
  have HPU : Hid (pu = p.upTo ∧ pn = p.null) := ⟨hpu, hpn⟩
  unfold prtV
  rw [← hpu, ← hpn]
  obtain ⟨W1, hW1⟩ : ∃ W, W = w1.alloc (.cells #[.bool pn, .slice fa fn' fc, .slice la ln lc, .int .i64 (pu : Int)] 57) := ⟨_, rfl⟩
  have hB1 : Below w1.heap.size w1 W1 := by rw [hW1]; exact below_alloc _ _
  have hs1 : w.heap.size + 2 ≤ w1.heap.size := by have := hF1.size; have := HS0.out; omega
  have HQ1 : Hid (PBox W1 w1.heap.size pn (.slice fa fn' fc) (.slice la ln lc) pu) := by rw [hW1]; exact pbox_new _ _ _ _ _
  have HR1 : Hid (PBox W1 (w.heap.size + 1) false (.slice none 0 0) (.slice none 0 0) 0) := (HR0.out.fr hF1 (by omega)).below hB1
  have HX1 : Hid (Box W1 w.heap.size 4 s (.slice (some ⟨ga, oa, none⟩) 1 ca)) := (show Box w1 w.heap.size _ _ _ from (hF1.block (.inr ⟨hsz, by have := HS0.out; omega⟩)).trans HX0.out).below hB1
  have HFV1 : Hid (LstAt hi W1 (.slice fa fn' fc) p.first) := hf1.below hB1
  have HLV1 : Hid (LstAt hi W1 (.slice la ln lc) p.last) := hl1.below hB1
  have HI1 : Hid (I W1 (L ++ p.notes)) := HN.out.below hI1 hB1
  have HF1 : Hid (FrI lo hi w W1) := (HF0.out.trans hF1).below hB1 (by omega)
  have x0 : W1.cell? ⟨w.heap.size, 0, none⟩ = some (.int .i64 4) := HX1.out.c0
  have hsW : W1.heap.size = w1.heap.size + 1 := by rw [hW1]; simp
  have HSW : Hid (W1.heap.size = w1.heap.size + 1) := hsW
  have hnt := HN.out.call W1 _ (.slice la ln lc) p.last (.slice fa fn' fc) p.first HI1.out HLV1.out HFV1.out (HOK.out.1.last.wide (Nat.zero_le _) HOK.out.2) (HOK.out.1.first.wide (Nat.zero_le _) HOK.out.2)
  have t2 : W1.cell? ⟨w1.heap.size, 2, none⟩ = some (.slice la ln lc) := HQ1.out.c2
  have t1 : W1.cell? ⟨w1.heap.size, 1, none⟩ = some (.slice fa fn' fc) := HQ1.out.c1
  have eg := HN.out.ent
  rw [hW1] at t1 t2 hnt x0
  clear hc hf1 hl1 hI1 hF1 hB1 hpu hpn hsW p0' p1' p2'
  go_wp2_with fail
  refine hnt.mono ?_
  rintro e w2 ⟨rfl, hI2, hF2⟩
  rw [← hW1] at hF2
  have HQ2 : Hid (PBox w2 w1.heap.size pn (.slice fa fn' fc) (.slice la ln lc) pu) := HQ1.out.fr hF2 (by omega)
  have HR2 : Hid (PBox w2 (w.heap.size + 1) false (.slice none 0 0) (.slice none 0 0) 0) := HR1.out.fr hF2 (by omega)
  have HX2 : Hid (Box w2 w.heap.size 4 s (.slice (some ⟨ga, oa, none⟩) 1 ca)) := (hF2.block (.inr ⟨hsz, by have := HSW.out; omega⟩)).trans HX1.out
  have HFV2 : Hid (LstAt hi w2 (.slice fa fn' fc) p.first) := HFV1.out.fr hF2
  have HLV2 : Hid (LstAt hi w2 (.slice la ln lc) p.last) := HLV1.out.fr hF2
  have HF2 : Hid (FrI lo hi w w2) := HF1.out.trans hF2
  have HI2 : Hid (I w2 (L ++ (sgnS 4 p).notes)) := by
    have e : (sgnS 4 p).notes = p.notes ++ [(p.last, p.first)] := by simp [sgnS]
    rw [e, ← List.append_assoc]; exact hI2
  clear hnt hI2 hF2 t1 t2 hW1 x0
  have hlt2 : w1.heap.size < w2.heap.size := HQ2.out.lt
  have x0 : w2.cell? ⟨w.heap.size, 0, none⟩ = some (.int .i64 4) := HX2.out.c0
  have q0 : w2.cell? ⟨w1.heap.size, 0, none⟩ = some (.bool pn) := HQ2.out.c0
  have q1 : w2.cell? ⟨w1.heap.size, 1, none⟩ = some (.slice fa fn' fc) := HQ2.out.c1
  have q2 : w2.cell? ⟨w1.heap.size, 2, none⟩ = some (.slice la ln lc) := HQ2.out.c2
  have q3 : w2.cell? ⟨w1.heap.size, 3, none⟩ = some (.int .i64 (pu : Int)) := HQ2.out.c3
  have qf : w2.frozen? ⟨w1.heap.size, 0, none⟩ = false := HQ2.out.nf 0
  have e0 : w2.cell? ⟨w.heap.size + 1, 0, none⟩ = some (.bool false) := HR2.out.c0
  have e1 : w2.cell? ⟨w.heap.size + 1, 1, none⟩ = some (.slice none 0 0) := HR2.out.c1
  have e2 : w2.cell? ⟨w.heap.size + 1, 2, none⟩ = some (.slice none 0 0) := HR2.out.c2
  have e3 : w2.cell? ⟨w.heap.size + 1, 3, none⟩ = some (.int .i64 0) := HR2.out.c3
  have f0 : w2.frozen? ⟨w.heap.size + 1, 0, none⟩ = false := HR2.out.nf 0
  have f1 : w2.frozen? ⟨w.heap.size + 1, 1, none⟩ = false := HR2.out.nf 1
  have f2 : w2.frozen? ⟨w.heap.size + 1, 2, none⟩ = false := HR2.out.nf 2
  have f3 : w2.frozen? ⟨w.heap.size + 1, 3, none⟩ = false := HR2.out.nf 3
  have hne : ¬ w1.heap.size = w.heap.size + 1 := by omega
  have hne' : ¬ w.heap.size + 1 = w1.heap.size := by omega
  have HNN : Hid ((sgnS 4 p).null = pn ∧ (sgnS 4 p).upTo = pu) := by
    constructor
    · show (p.null || decide ((4 : Int) ≠ 4)) = _
      rw [HPU.out.2]; simp
    · exact HPU.out.1.symm
  have HFIN : Hid (∀ nn : Bool, (sgnS 4 p).null = nn → RdA lo hi I (sgnS 4 p) L w (.returned (.agg #[.bool nn, .slice fa fn' fc, .slice la ln lc, .int .i64 (pu : Int)])) (((((w2.setCell ⟨w1.heap.size, 0, none⟩ (.bool nn)).setCell ⟨w.heap.size + 1, 0, none⟩ (.bool nn)).setCell ⟨w.heap.size + 1, 1, none⟩ (.slice fa fn' fc)).setCell ⟨w.heap.size + 1, 2, none⟩ (.slice la ln lc)).setCell ⟨w.heap.size + 1, 3, none⟩ (.int .i64 (pu : Int)))) := fun nn hn => by
    have o1 : OnlyB w1.heap.size w2 (w2.setCell ⟨w1.heap.size, 0, none⟩ (.bool nn)) := (OnlyB.refl _ _).set _ _
    have o2 : OnlyB (w.heap.size + 1) (w2.setCell ⟨w1.heap.size, 0, none⟩ (.bool nn)) (((((w2.setCell ⟨w1.heap.size, 0, none⟩ (.bool nn)).setCell ⟨w.heap.size + 1, 0, none⟩ (.bool nn)).setCell ⟨w.heap.size + 1, 1, none⟩ (.slice fa fn' fc)).setCell ⟨w.heap.size + 1, 2, none⟩ (.slice la ln lc)).setCell ⟨w.heap.size + 1, 3, none⟩ (.int .i64 (pu : Int))) := ((((OnlyB.refl _ _).set _ _).set _ _).set _ _).set _ _
    have r1 := HR2.out.only o1 (by omega)
    refine ⟨_, _, by rw [hn, HNN.out.2]; rfl, (HFV2.out.only o1 HQ2.out (by decide)).only o2 r1 (by decide), (HLV2.out.only o1 HQ2.out (by decide)).only o2 r1 (by decide), HN.out.only (HN.out.only HI2.out o1 (by omega)) o2 (by omega), (HF2.out.only o1 (by omega) (by omega)).only o2 (by omega) (by omega)⟩
  have HBX : Hid (∀ nn : Bool, PBox (((((w2.setCell ⟨w1.heap.size, 0, none⟩ (.bool nn)).setCell ⟨w.heap.size + 1, 0, none⟩ (.bool nn)).setCell ⟨w.heap.size + 1, 1, none⟩ (.slice fa fn' fc)).setCell ⟨w.heap.size + 1, 2, none⟩ (.slice la ln lc)).setCell ⟨w.heap.size + 1, 3, none⟩ (.int .i64 (pu : Int))) (w.heap.size + 1) nn (.slice fa fn' fc) (.slice la ln lc) pu) := fun nn => ((((HR2.out.only ((OnlyB.refl _ _).set _ _) (by omega)).s0 _).s1 _).s2 _).s3 _
  cases pn with
  | true =>
    go_wp2
    refine bodyPost_ret (results_cell_row rfl _ _ (w.heap.size + 1) 57 #[.bool true, .slice fa fn' fc, .slice la ln lc, .int .i64 (pu : Int)] (0, 0) _ rfl ?_ Tryz.underlying57 rfl (by kernel_rfl)) rfl ?_
    · exact HBX.out true
    · exact HFIN.out true HNN.out.1
  | false =>
    go_wp2
    refine bodyPost_ret (results_cell_row rfl _ _ (w.heap.size + 1) 57 #[.bool false, .slice fa fn' fc, .slice la ln lc, .int .i64 (pu : Int)] (0, 0) _ rfl ?_ Tryz.underlying57 rfl (by kernel_rfl)) rfl ?_
    · exact HBX.out false
    · exact HFIN.out false HNN.out.1

set_option maxRecDepth 100000 in
set_option maxHeartbeats 16000000 in
theorem read_sgn5 {lo hi m : Nat} {I : World → List (List Nat × List Nat) → Prop} {fn : Nat} {caps : Array Value} (N : NoteT fn caps lo hi m I) (s : Int) (x : Nd) (za : Option Addr) (ca c : Nat) (L : List (List Nat × List Nat)) (w : World) (hm : m ≤ 700) (hI : I w L) (hg : rightN x = true) (hcm : c + (setsN x).length ≤ m) (hz : KdX (fun k => k < lo) w (.slice za 1 ca) [x])
    (HR : ∀ xa ka, KidC fn caps lo hi I m x xa ka) :
    Calls Tryz.prog 15 #[.agg #[.int .i64 5, .int .i64 s, .slice za 1 ca], .int .i64 (c : Int), .func (.func fn) #[] caps] w (RdA lo hi I (sgnS 5 (prtN x c)) L w) := by
  have hsz := N.size w L hI
  have hlh := N.le
  obtain ⟨ga, oa, cc, z', hza, hcc, hga, p0, p1, p2, hkd⟩ := hz.at 0 (by simp)
  obtain ⟨rfl, rfl⟩ : za = some ⟨ga, oa, none⟩ ∧ ca = cc := by simpa using hza
  obtain ⟨xa, ka, rfl, _⟩ := hkd.slice
  obtain ⟨W0, hW0⟩ : ∃ W, W = (w.alloc (.cells #[.int .i64 5, .int .i64 s, .slice (some ⟨ga, oa, none⟩) 1 ca] 24)).alloc (.cells #[.bool false, .slice none 0 0, .slice none 0 0, .int .i64 0] 57) := ⟨_, rfl⟩
  obtain ⟨h0, h1, hB, hs⟩ := alloc2 hW0
  have hc := HR xa ka W0 L c (N.below hI hB) (Below.refl _ _) hcm (hkd.to (fun k hk => ⟨hB.block k (by omega), hk⟩))
  have HR0 : Hid (PBox W0 (w.heap.size + 1) false (.slice none 0 0) (.slice none 0 0) 0) := h1
  have HX0 : Hid (Box W0 w.heap.size 5 s (.slice (some ⟨ga, oa, none⟩) 1 ca)) := h0
  have HN : Hid (NoteT fn caps lo hi m I) := N
  have HF0 : Hid (FrI lo hi w W0) := FrI.of hB (by omega)
  have HS0 : Hid (W0.heap.size = w.heap.size + 2) := hs
  have HOK : Hid (Okp c (prtN x c) ∧ (prtN x c).upTo ≤ m) := by
    have := gd_all x hg c
    exact ⟨this.1, by rw [this.2]; exact hcm⟩
  obtain ⟨p, hp⟩ : ∃ P, P = prtN x c := ⟨_, rfl⟩
  rw [← hp] at hc HOK ⊢
  have p0' : w.cell? ⟨ga, oa, none⟩ = some (.int .i64 x.k) := by simpa using p0
  have p1' : w.cell? ⟨ga, oa + 1, none⟩ = some (.int .i64 x.s) := by simpa using p1
  have p2' : w.cell? ⟨ga, oa + 2, none⟩ = some (.slice xa x.kids.length ka) := by simpa using p2
  have hga2 : ga < w.heap.size := by omega
  obtain ⟨yk, hyk⟩ : ∃ y, y = x.k := ⟨_, rfl⟩
  obtain ⟨ys, hys⟩ : ∃ y, y = x.s := ⟨_, rfl⟩
  obtain ⟨yl, hyl⟩ : ∃ y, y = x.kids.length := ⟨_, rfl⟩
  rw [← hyk, ← hys, ← hyl] at hc
  rw [← hyk] at p0'
  rw [← hys] at p1'
  rw [← hyl] at p2'
  have HW0 : Hid (W0 = _) := hW0
  rw [hW0] at hc
  clear h0 h1 hB hs hW0 N hI hg hcm hz HR hp hza hcc p0 p1 p2 hkd hyk hys hyl
  go_enter Tryz.func15, Tryz.ntmps15
  go_wp2_with fail
  refine hc.mono ?_
  rintro e w1 ⟨fv, lv, rfl, hf1, hl1, hI1, hF1⟩
  rw [← HW0.out] at hF1
  obtain ⟨fa, fn', fc, rfl⟩ := hf1.any
  obtain ⟨la, ln, lc, rfl⟩ := hl1.any
  obtain ⟨pu, hpu⟩ : ∃ x, x = p.upTo := ⟨_, rfl⟩
  obtain ⟨pn, hpn⟩ : ∃ x, x = p.null := ⟨_, rfl⟩
  have HPU : Hid (pu = p.upTo ∧ pn = p.null) := ⟨hpu, hpn⟩
  unfold prtV
  rw [← hpu, ← hpn]
  obtain ⟨W1, hW1⟩ : ∃ W, W = w1.alloc (.cells #[.bool pn, .slice fa fn' fc, .slice la ln lc, .int .i64 (pu : Int)] 57) := ⟨_, rfl⟩
  have hB1 : Below w1.heap.size w1 W1 := by rw [hW1]; exact below_alloc _ _
  have hs1 : w.heap.size + 2 ≤ w1.heap.size := by have := hF1.size; have := HS0.out; omega
  have HQ1 : Hid (PBox W1 w1.heap.size pn (.slice fa fn' fc) (.slice la ln lc) pu) := by rw [hW1]; exact pbox_new _ _ _ _ _
  have HR1 : Hid (PBox W1 (w.heap.size + 1) false (.slice none 0 0) (.slice none 0 0) 0) := (HR0.out.fr hF1 (by omega)).below hB1
  have HX1 : Hid (Box W1 w.heap.size 5 s (.slice (some ⟨ga, oa, none⟩) 1 ca)) := (show Box w1 w.heap.size _ _ _ from (hF1.block (.inr ⟨hsz, by have := HS0.out; omega⟩)).trans HX0.out).below hB1
  have HFV1 : Hid (LstAt hi W1 (.slice fa fn' fc) p.first) := hf1.below hB1
  have HLV1 : Hid (LstAt hi W1 (.slice la ln lc) p.last) := hl1.below hB1
  have HI1 : Hid (I W1 (L ++ p.notes)) := HN.out.below hI1 hB1
  have HF1 : Hid (FrI lo hi w W1) := (HF0.out.trans hF1).below hB1 (by omega)
  have x0 : W1.cell? ⟨w.heap.size, 0, none⟩ = some (.int .i64 5) := HX1.out.c0
  have hsW : W1.heap.size = w1.heap.size + 1 := by rw [hW1]; simp
  have HSW : Hid (W1.heap.size = w1.heap.size + 1) := hsW
  obtain ⟨w2, hw2⟩ : ∃ W, W = W1 := ⟨_, rfl⟩
  have HQ2 : Hid (PBox w2 w1.heap.size pn (.slice fa fn' fc) (.slice la ln lc) pu) := by rw [hw2]; exact HQ1.out
  have HR2 : Hid (PBox w2 (w.heap.size + 1) false (.slice none 0 0) (.slice none 0 0) 0) := by rw [hw2]; exact HR1.out
  have HX2 : Hid (Box w2 w.heap.size 5 s (.slice (some ⟨ga, oa, none⟩) 1 ca)) := by rw [hw2]; exact HX1.out
  have HFV2 : Hid (LstAt hi w2 (.slice fa fn' fc) p.first) := by rw [hw2]; exact HFV1.out
  have HLV2 : Hid (LstAt hi w2 (.slice la ln lc) p.last) := by rw [hw2]; exact HLV1.out
  have HF2 : Hid (FrI lo hi w w2) := by rw [hw2]; exact HF1.out
  have HI2 : Hid (I w2 (L ++ (sgnS 5 p).notes)) := by
    have e : (sgnS 5 p).notes = p.notes := by simp [sgnS]
    rw [e, hw2]; exact HI1.out
  have HW2 : Hid (w2 = w1.alloc (.cells #[.bool pn, .slice fa fn' fc, .slice la ln lc, .int .i64 (pu : Int)] 57)) := by rw [hw2]; exact hW1
  rw [hW1] at x0
  clear hc hf1 hl1 hI1 hF1 hB1 hpu hpn hsW p0' p1' p2' hW1 hw2
  go_upto_region 12 with fail
  rw [← HW2.out]
  clear x0 HW2
  have hlt2 : w1.heap.size < w2.heap.size := HQ2.out.lt
  have x0 : w2.cell? ⟨w.heap.size, 0, none⟩ = some (.int .i64 5) := HX2.out.c0
  have q0 : w2.cell? ⟨w1.heap.size, 0, none⟩ = some (.bool pn) := HQ2.out.c0
  have q1 : w2.cell? ⟨w1.heap.size, 1, none⟩ = some (.slice fa fn' fc) := HQ2.out.c1
  have q2 : w2.cell? ⟨w1.heap.size, 2, none⟩ = some (.slice la ln lc) := HQ2.out.c2
  have q3 : w2.cell? ⟨w1.heap.size, 3, none⟩ = some (.int .i64 (pu : Int)) := HQ2.out.c3
  have qf : w2.frozen? ⟨w1.heap.size, 0, none⟩ = false := HQ2.out.nf 0
  have e0 : w2.cell? ⟨w.heap.size + 1, 0, none⟩ = some (.bool false) := HR2.out.c0
  have e1 : w2.cell? ⟨w.heap.size + 1, 1, none⟩ = some (.slice none 0 0) := HR2.out.c1
  have e2 : w2.cell? ⟨w.heap.size + 1, 2, none⟩ = some (.slice none 0 0) := HR2.out.c2
  have e3 : w2.cell? ⟨w.heap.size + 1, 3, none⟩ = some (.int .i64 0) := HR2.out.c3
  have f0 : w2.frozen? ⟨w.heap.size + 1, 0, none⟩ = false := HR2.out.nf 0
  have f1 : w2.frozen? ⟨w.heap.size + 1, 1, none⟩ = false := HR2.out.nf 1
  have f2 : w2.frozen? ⟨w.heap.size + 1, 2, none⟩ = false := HR2.out.nf 2
  have f3 : w2.frozen? ⟨w.heap.size + 1, 3, none⟩ = false := HR2.out.nf 3
  have hne : ¬ w1.heap.size = w.heap.size + 1 := by omega
  have hne' : ¬ w.heap.size + 1 = w1.heap.size := by omega
  have HNN : Hid ((sgnS 5 p).null = true ∧ (sgnS 5 p).upTo = pu) := by
    constructor
    · show (p.null || decide ((5 : Int) ≠ 4)) = _
      simp
    · exact HPU.out.1.symm
  have HFIN : Hid (∀ nn : Bool, (sgnS 5 p).null = nn → RdA lo hi I (sgnS 5 p) L w (.returned (.agg #[.bool nn, .slice fa fn' fc, .slice la ln lc, .int .i64 (pu : Int)])) (((((w2.setCell ⟨w1.heap.size, 0, none⟩ (.bool nn)).setCell ⟨w.heap.size + 1, 0, none⟩ (.bool nn)).setCell ⟨w.heap.size + 1, 1, none⟩ (.slice fa fn' fc)).setCell ⟨w.heap.size + 1, 2, none⟩ (.slice la ln lc)).setCell ⟨w.heap.size + 1, 3, none⟩ (.int .i64 (pu : Int)))) := fun nn hn => by
    have o1 : OnlyB w1.heap.size w2 (w2.setCell ⟨w1.heap.size, 0, none⟩ (.bool nn)) := (OnlyB.refl _ _).set _ _
    have o2 : OnlyB (w.heap.size + 1) (w2.setCell ⟨w1.heap.size, 0, none⟩ (.bool nn)) (((((w2.setCell ⟨w1.heap.size, 0, none⟩ (.bool nn)).setCell ⟨w.heap.size + 1, 0, none⟩ (.bool nn)).setCell ⟨w.heap.size + 1, 1, none⟩ (.slice fa fn' fc)).setCell ⟨w.heap.size + 1, 2, none⟩ (.slice la ln lc)).setCell ⟨w.heap.size + 1, 3, none⟩ (.int .i64 (pu : Int))) := ((((OnlyB.refl _ _).set _ _).set _ _).set _ _).set _ _
    have r1 := HR2.out.only o1 (by omega)
    refine ⟨_, _, by rw [hn, HNN.out.2]; rfl, (HFV2.out.only o1 HQ2.out (by decide)).only o2 r1 (by decide), (HLV2.out.only o1 HQ2.out (by decide)).only o2 r1 (by decide), HN.out.only (HN.out.only HI2.out o1 (by omega)) o2 (by omega), (HF2.out.only o1 (by omega) (by omega)).only o2 (by omega) (by omega)⟩
  have HBX : Hid (∀ nn : Bool, PBox (((((w2.setCell ⟨w1.heap.size, 0, none⟩ (.bool nn)).setCell ⟨w.heap.size + 1, 0, none⟩ (.bool nn)).setCell ⟨w.heap.size + 1, 1, none⟩ (.slice fa fn' fc)).setCell ⟨w.heap.size + 1, 2, none⟩ (.slice la ln lc)).setCell ⟨w.heap.size + 1, 3, none⟩ (.int .i64 (pu : Int))) (w.heap.size + 1) nn (.slice fa fn' fc) (.slice la ln lc) pu) := fun nn => ((((HR2.out.only ((OnlyB.refl _ _).set _ _) (by omega)).s0 _).s1 _).s2 _).s3 _
  cases pn with
  | true =>
    go_wp2
    refine bodyPost_ret (results_cell_row rfl _ _ (w.heap.size + 1) 57 #[.bool true, .slice fa fn' fc, .slice la ln lc, .int .i64 (pu : Int)] (0, 0) _ rfl ?_ Tryz.underlying57 rfl (by kernel_rfl)) rfl ?_
    · exact HBX.out true
    · exact HFIN.out true HNN.out.1
  | false =>
    go_wp2
    refine bodyPost_ret (results_cell_row rfl _ _ (w.heap.size + 1) 57 #[.bool true, .slice fa fn' fc, .slice la ln lc, .int .i64 (pu : Int)] (0, 0) _ rfl ?_ Tryz.underlying57 rfl (by kernel_rfl)) rfl ?_
    · exact HBX.out true
    · exact HFIN.out true HNN.out.1

theorem read_any {lo hi m : Nat} {I : World → List (List Nat × List Nat) → Prop} {fn : Nat} {caps : Array Value} (N : NoteT fn caps lo hi m I) (hm : m ≤ 700) : ∀ (d : Nat) (n : Nd) (xa : Option Addr) (ka : Nat), Dp d n.kids → rightN n = true → KidC fn caps lo hi I m n xa ka
  | d, n, xa, ka, hd, hr => by
    intro W L c hI _ hcm hz
    obtain ⟨k, s, l⟩ := n
    obtain ⟨hmy, hl⟩ := right_kids hr
    have hlen : l.length ≤ 1000 := hd.len
    have HR : ∀ i, (h : i < l.length) → ∀ xa ka, KidC fn caps lo hi I m l[i] xa ka := fun i h xa ka => by
      match d, hd with
      | 0, hd => rw [show l = [] from hd] at h; cases h
      | d + 1, hd => exact read_any N hm d l[i] xa ka (hd.2 _ (List.getElem_mem h)) (hl _ (List.getElem_mem h))
    rw [setsN_mk] at hcm
    rw [prtN_mk]
    by_cases h1 : k = 1
    · subst h1
      rw [if_pos rfl]
      exact read_set N s xa _ ka c L W hm hI (by simpa using hcm)
    rw [if_neg h1] at hcm ⊢
    by_cases h0 : k = 0
    · subst h0
      rw [if_pos rfl]
      exact read_inTurn N s l xa ka c L W hm hI hl hcm hlen hz HR
    rw [if_neg h0]
    by_cases h2 : k = 2
    · subst h2
      rw [if_pos rfl]
      exact read_oneOf N s l xa ka c L W hm hI hl hcm hlen hz HR
    rw [if_neg h2]
    obtain ⟨hk, x, rfl⟩ := sgn_kid hmy h0 h1 h2
    rw [hdL_cons]
    have es : setsL [x] = setsN x := by rw [setsL, setsL, List.append_nil]
    rw [es] at hcm
    have hx := hl x (by simp)
    have HX : ∀ xa ka, KidC fn caps lo hi I m x xa ka := fun xa ka => HR 0 (by simp) xa ka
    rcases hk with rfl | rfl | rfl
    · exact read_sgn3 N s x xa ka c L W hm hI hx hcm hz HX
    · exact read_sgn4 N s x xa ka c L W hm hI hx hcm hz HX
    · exact read_sgn5 N s x xa ka c L W hm hI hx hcm hz HX
end Go.Proofs.YtklhjjgnhigbiaaGreatDoor
