/-
  scansionlaw11.FollowPlaces.
-/
import Derived.Test.YtidaoamfdbkfiaaDoorFlSame
import Derived.Test.YtidaoamfdbkfiaaDoorFlRef4
namespace Go.Proofs.YtidaoamfdbkfiaaDoor
open Go.RowKit Go.Shelf
set_option linter.unusedVariables false

def sgN (k : Int) (a : Nd) : Nd := ⟨k, 0, [a]⟩
theorem sg_sets (k : Int) (a : Nd) (h : k ≠ 1) : setsN (sgN k a) = setsN a := by
  show setsN ⟨k, 0, [a]⟩ = _
  rw [setsN_mk, if_neg h, setsL, setsL, List.append_nil]
theorem sg_err {k : Int} (a : Nd) (hk : k = 3 ∨ k = 4 ∨ k = 5) : errF (sgN k a) = errF a := by
  unfold errF
  rw [sg_sets k a (by omega), show rightN (sgN k a) = rightN a from right_star a 0 k hk]
theorem sg_prt {k : Int} (a : Nd) (hk : k = 3 ∨ k = 4 ∨ k = 5) : prtN (sgN k a) 0 = sgnS k (prtN a 0) := by
  show prtN ⟨k, 0, [a]⟩ 0 = _
  rw [prtN_mk, if_neg (by omega), if_neg (by omega), if_neg (by omega), hdL_cons]
theorem sg_fol (a : Nd) : folN (sgN 3 a) = folN (sgN 4 a) := by
  unfold folN
  rw [sg_sets 3 a (by decide), sg_sets 4 a (by decide), sg_prt a (by omega), sg_prt a (by omega)]
  rfl
theorem aut_ok {n : Nd} (h : errF n = 0) : autF n = autN n := by unfold autF; rw [if_pos h]
theorem sg_plus {a : Nd} (h : errF a = 0) : autF (sgN 4 a) = ⟨(autF a).null, setsN a, (autF a).first, (autF a).last, folN (sgN 4 a)⟩ := by
  rw [aut_ok (by rw [sg_err a (by omega)]; exact h), aut_ok h]
  unfold autN
  rw [sg_prt a (by omega), sg_sets 4 a (by decide)]
  simp [sgnS]
theorem sg_star {a : Nd} (h : errF a = 0) : autF (sgN 3 a) = ⟨true, setsN a, (autF a).first, (autF a).last, folN (sgN 4 a)⟩ := by
  rw [aut_ok (by rw [sg_err a (by omega)]; exact h), aut_ok h]
  unfold autN
  rw [sg_prt a (by omega), sg_sets 3 a (by decide), sg_fol]
  simp [sgnS]
theorem ok_right {n : Nd} (h : errF n = 0) : rightN n = true ∧ (setsN n).length ≤ 300 := by
  cases q : rightN n with
  | false => rw [errF_bad q] at h; cases h
  | true =>
    refine ⟨rfl, ?_⟩
    by_cases k : 300 < (setsN n).length
    · rw [errF_full q k] at h; cases h
    · omega
theorem whole_nil {a : Nd} (h : errF a = 0) : wholeB [] a = (autF a).null := by
  have hr := (ok_right h).1
  rw [aut_ok h]
  show _ = (prtN a 0).null
  rw [Bool.eq_iff_iff, wholeB_iff]
  have hk := acc_all [] (fun y i => bitW [] ((setsN a).getD (y - 1) 0) i = true) a hr 0 (fun j hj i => by
    show bitW [] ((setsN a).getD (0 + 1 + j - 1) 0) i = true ↔ _
    rw [show 0 + 1 + j - 1 = j by omega, List.getD_eq_getElem?_getD, List.getElem?_eq_getElem hj]; rfl) 0 0
  unfold wholeP
  show rightN a = true ∧ relN [] a 0 0 ↔ _
  rw [← hk]
  constructor
  · rintro ⟨_, ⟨_, h⟩ | ⟨m, y, e, _⟩⟩
    · exact h
    · omega
  · intro h; exact ⟨hr, .inl ⟨rfl, h⟩⟩
def allLs (a : Nd) : List (List Nat) := (autF a).first :: (autF a).last :: folN a
theorem all_in {a : Nd} (h : errF a = 0) : ∀ l ∈ allLs a, InR 0 (setsN a).length l := by
  have hr := (ok_right h).1
  have hg := gd_all a hr 0
  intro l hl
  have hu : (prtN a 0).upTo = (setsN a).length := by rw [hg.2]; omega
  unfold allLs at hl
  rw [aut_ok h] at hl
  rcases List.mem_cons.1 hl with rfl | hl
  · have := hg.1.first; rw [hu] at this; exact this
  · rcases List.mem_cons.1 hl with rfl | hl
    · have := hg.1.last; rw [hu] at this; exact this
    · obtain ⟨i, _, rfl⟩ := List.mem_map.1 hl
      refine ⟨rgF_ris _ _, fun x hx => ?_⟩
      obtain ⟨h1, h2⟩ := rgF_mem.1 hx
      have := (hg.1.fol h2).2
      omega
theorem fol_vals {w : World} {v : Value} {F : List (List Nat)} (h : FolAt w v F) : ∃ xs : List Value, xs.length = F.length ∧ SrcIs w v F.length 1 xs ∧ ∀ k, (h1 : k < xs.length) → (h2 : k < F.length) → PlcAt 0 0 w xs[k] F[k] := by
  obtain ⟨a, cap, rfl, hc, hn, hx⟩ := h
  have each : ∀ i, i < F.length → ∃ q : Value, (∃ (hi : i < F.length) (g off : Nat), a = some ⟨g, off, none⟩ ∧ w.cell? ⟨g, off + i, none⟩ = some q ∧ PlcAt 0 0 w q F[i]) := fun i hi => by
    obtain ⟨g, off, x, e, _, h1, h2⟩ := hx i hi
    exact ⟨x, hi, g, off, e, h1, h2⟩
  obtain ⟨q, hq⟩ : ∃ q : Nat → Value, ∀ i, i < F.length → (∃ (hi : i < F.length) (g off : Nat), a = some ⟨g, off, none⟩ ∧ w.cell? ⟨g, off + i, none⟩ = some (q i) ∧ PlcAt 0 0 w (q i) F[i]) := ⟨fun i => if h : i < F.length then (each i h).choose else .bool false, fun i hi => by
    show ∃ (hi : i < F.length) (g off : Nat), a = some ⟨g, off, none⟩ ∧ w.cell? ⟨g, off + i, none⟩ = some (if h : i < F.length then (each i h).choose else .bool false) ∧ PlcAt 0 0 w (if h : i < F.length then (each i h).choose else .bool false) F[i]
    rw [dif_pos hi]
    exact (each i hi).choose_spec⟩
  refine ⟨(List.range F.length).map q, by simp, ?_, fun k h1 h2 => ?_⟩
  · by_cases h0 : F.length = 0
    · cases a with
      | none => exact .inl ⟨by rw [hn rfl, h0], h0, by simp [h0]⟩
      | some ad => exact .inr ⟨ad, cap, rfl, by simp, fun j u hj => by
          have := (List.getElem?_eq_some_iff.1 hj).1
          simp at this; omega, fun u hu => by
          obtain ⟨i, hi, rfl⟩ := List.mem_map.1 hu
          simp at hi; omega⟩
    · obtain ⟨_, g, off, e, _⟩ := hq 0 (by omega)
      refine .inr ⟨⟨g, off, none⟩, cap, by rw [e], by simp, fun j u hj => ?_, fun u hu => ?_⟩
      · have hjl : j < F.length := by have := (List.getElem?_eq_some_iff.1 hj).1; simpa using this
        obtain ⟨_, g', off', e', h1, _⟩ := hq j hjl
        rw [e] at e'
        obtain ⟨rfl, rfl⟩ : g = g' ∧ off = off' := by simpa using e'
        rw [addr_add, h1]
        simpa [hjl] using hj
      · obtain ⟨i, hi, rfl⟩ := List.mem_map.1 hu
        obtain ⟨_, _, _, _, _, h2⟩ := hq i (by simpa using hi)
        obtain ⟨a2, c2, e2, _⟩ := h2.slice
        rw [e2]; rfl
  · obtain ⟨_, g, off, e, h3, h4⟩ := hq k h2
    simpa using h4
theorem fol_row {w : World} {base : Nat} {v : Value} {xs : List Value} {F : List (List Nat)} (h : w.ownsRow base 27 1 v xs.length xs) (hl : xs.length = F.length) (hx : ∀ k, (h1 : k < xs.length) → (h2 : k < F.length) → PlcAt 0 0 w xs[k] F[k]) : FolAt w v F := by
  rcases h.2 with ⟨rfl, h0⟩ | ⟨g, cap, cur, rfl, hb, hg, hc, hm, hs, ht⟩
  · obtain rfl : F = [] := List.length_eq_zero_iff.1 (by omega)
    exact FolAt.nil _
  · refine ⟨_, cap, by rw [hl], by omega, fun e => (by cases e), fun i hi => ⟨g, 0, xs[i]'(by omega), rfl, lt_of_heap hg, ?_, hx i (by omega) hi⟩⟩
    have := h.cells (g := g) rfl i (xs[i]'(by omega)) (by rw [List.getElem?_eq_getElem])
    rw [add_lit'] at this
    exact this
theorem err_two {n : Nd} (h : errF n ≠ 0) : errF n = 1 ∨ errF n = 3 := by
  unfold errF at *
  split at h
  · rename_i q; rw [if_pos q]; exact .inl rfl
  · rename_i q
    rw [if_neg q]
    split at h
    · rename_i q2; rw [if_pos q2]; exact .inr rfl
    · exact absurd rfl h

set_option maxRecDepth 100000 in
set_option maxHeartbeats 32000000 in
theorem followPlaces_any (a : Nd) (za : Value) (w : World) (hT : TabW w) (ha : KdX (fun k => k < w.heap.size) w za a.kids) :
    Calls Tryd.prog 6 #[ndV a za] w fun e w' => e = .returned (.bool true) ∧ Below w.heap.size w w' := by
  obtain ⟨na, ca, rfl, _⟩ := ha.slice
  obtain ⟨W0, hW0⟩ : ∃ W, W = w.alloc (.cells #[.int .i64 a.k, .int .i64 a.s, .slice na a.kids.length ca] 24) := ⟨_, rfl⟩
  have hB0 : Below w.heap.size w W0 := by rw [hW0]; exact below_alloc _ _
  have hbA : Box W0 w.heap.size a.k a.s (.slice na a.kids.length ca) := by rw [hW0]; exact box_new _ _ _ _
  have HA : Hid (KdX (fun k => k < w.heap.size) w (.slice na a.kids.length ca) a.kids) := ha
  have HT : Hid (TabW w) := hT
  have HFA : Hid (∀ W, Below w.heap.size w W → Calls Tryd.prog 13 #[ndV a (.slice na a.kids.length ca), .slice none 0 0] W fun e w' => ∃ b, e = .returned (.bool b) ∧ (b = true → Dp 40 a.kids ∧ (setsN a).length ≤ 700 ∧ 0 ≤ 30) ∧ Below W.heap.size W w') := fun W h => few_any a _ none 0 0 W (kdx_below ha h)
  unfold ndV at HFA ⊢
  obtain ⟨ak, hak⟩ : ∃ x, x = a.k := ⟨_, rfl⟩
  obtain ⟨as1, has1⟩ : ∃ x, x = a.s := ⟨_, rfl⟩
  obtain ⟨al, hal⟩ : ∃ x, x = a.kids.length := ⟨_, rfl⟩
  have HNA : Hid (ak = a.k ∧ as1 = a.s ∧ al = a.kids.length) := ⟨hak, has1, hal⟩
  rw [← hak, ← has1, ← hal] at HFA hbA hW0 ⊢
  rw [← hal] at HA
  have HB0 : Hid (Below w.heap.size w W0) := hB0
  have HBA : Hid (Box W0 w.heap.size ak as1 (.slice na al ca)) := hbA
  have haw := awake_any W0 (hT.below hB0)
  have HBD : Hid (∀ W, Dp 40 a.kids → (setsN a).length ≤ 700 → Below w.heap.size w W → Calls Tryd.prog 10 #[.agg #[.int .i64 ak, .int .i64 as1, .slice na al ca]] W (BldA a W)) := fun W hd hs hb => by
    rw [HNA.out.1, HNA.out.2.1, HNA.out.2.2]
    exact build_any 40 (by omega) a na ca W (HT.out.below hb) hd (by omega) (kdx_below ha hb)
  rw [hW0] at haw
  clear hak has1 hal ha hB0 hbA hT
  go_enter Tryd.func6, Tryd.ntmps6
  go_wp2_with fail
  refine haw.mono ?_
  rintro e w1 ⟨rfl, hB1⟩
  rw [← hW0] at hB1
  have HB1 : Hid (Below W0.heap.size W0 w1) := hB1
  obtain ⟨a0, a1, a2⟩ : _ ∧ _ ∧ _ := ⟨(HBA.out.below hB1).c0, (HBA.out.below hB1).c1, (HBA.out.below hB1).c2⟩
  have hf1 := HFA.out w1 (below_after HB0.out hB1)
  clear haw hB1 hW0
  go_wp2_with fail
  refine hf1.mono ?_
  rintro e w3 ⟨ok1, rfl, ho1, hB3⟩
  have HB3 : Hid (Below W0.heap.size W0 w3) := below_after HB1.out hB3
  have HO1 : Hid (ok1 = true → Dp 40 a.kids ∧ (setsN a).length ≤ 700 ∧ 0 ≤ 30) := fun h => (by have := ho1 h; exact this)
  have HBW3 : Hid (Below w.heap.size w w3) := below_after HB0.out HB3.out
  clear hf1 hB3 a0 a1 a2 ho1
  cases ok1 with
  | false =>
    go_wp2
    go_ret
    exact ⟨rfl, HBW3.out⟩
  | true =>
  have HDA : Hid (Dp 40 a.kids) := (HO1.out rfl).1
  have HSA : Hid ((setsN a).length ≤ 700) := (HO1.out rfl).2.1
  obtain ⟨a0, a1, a2⟩ : _ ∧ _ ∧ _ := ⟨(HBA.out.below HB3.out).c0, (HBA.out.below HB3.out).c1, (HBA.out.below HB3.out).c2⟩
  have hlt1 : w.heap.size < w3.heap.size := (HBA.out.below HB3.out).lt
  clear HO1
  have hbd := HBD.out w3 HDA.out HSA.out HBW3.out
  go_wp2_with fail
  refine hbd.mono ?_
  rintro e w4 ⟨av, rfl, hav, hB4⟩
  have HAV : Hid (AutAt w4 av (autF a)) := hav
  obtain ⟨sv, fv, lv, wv, rfl, hs, hf, hl, hw⟩ := hav
  obtain ⟨sa, sc, hes, _⟩ := hs.slice
  obtain ⟨fa, fc, hef, _⟩ := hf.slice
  obtain ⟨la, lc, hel, _⟩ := hl.slice
  obtain ⟨xa, xc, hex, hxc⟩ := hw.slice
  subst hes hef hel hex
  obtain ⟨er, her⟩ : ∃ x, x = errF a := ⟨_, rfl⟩
  obtain ⟨n1, hn1⟩ : ∃ x, x = (autF a).null := ⟨_, rfl⟩
  obtain ⟨sl, hsl⟩ : ∃ x, x = (autF a).sets.length := ⟨_, rfl⟩
  obtain ⟨fl, hfl⟩ : ∃ x, x = (autF a).first.length := ⟨_, rfl⟩
  obtain ⟨ll, hll⟩ : ∃ x, x = (autF a).last.length := ⟨_, rfl⟩
  obtain ⟨xl, hxl⟩ : ∃ x, x = (autF a).fol.length := ⟨_, rfl⟩
  rw [← hn1, ← hsl, ← hfl, ← hll, ← hxl, ← her]
  rw [← hn1, ← hsl, ← hfl, ← hll, ← hxl] at HAV
  have HF4 : Hid (FolAt w4 (.slice xa xl xc) (autF a).fol) := by rw [hxl]; exact hw
  have HPF : Hid (PlcAt 0 0 w4 (.slice fa fl fc) (autF a).first) := by rw [hfl]; exact hf
  have HPL : Hid (PlcAt 0 0 w4 (.slice la ll lc) (autF a).last) := by rw [hll]; exact hl
  have HE1 : Hid (er = errF a ∧ n1 = (autF a).null ∧ sl = (autF a).sets.length ∧ xl = (autF a).fol.length) := ⟨her, hn1, hsl, hxl⟩
  have HBW4 : Hid (Below w.heap.size w w4) := below_after HBW3.out hB4
  have HX4 : Hid (Box w4 w.heap.size ak as1 (.slice na al ca)) := (HBA.out.below HB3.out).below hB4
  clear hbd hs hf hl hw hB4 hn1 hsl hfl hll hxl her hxc a0 a1 a2
  by_cases he : er = 0
  case neg =>
    have hne : (er != 0) = true := by simpa using he
    have hor : er = 1 ∨ er = 3 := by
      have h1 := HE1.out.1
      rw [h1] at he ⊢
      exact err_two he
    rcases hor with rfl | rfl
    · go_wp2
      go_ret
      exact ⟨by simp, HBW4.out.alloc HBW4.out.size _⟩
    · go_wp2
      go_ret
      exact ⟨by simp, HBW4.out.alloc HBW4.out.size _⟩
  case pos =>
  subst he
  have hez : errF a = 0 := HE1.out.1.symm
  have HEZ : Hid (errF a = 0) := hez
  have hfa : (autF a).fol = folN a := by rw [aut_ok hez]; rfl
  have hxs : xl = sl := by rw [HE1.out.2.2.2, HE1.out.2.2.1, hfa, aut_ok hez]; simp [folN, autN]
  subst hxs
  have HXS : Hid (xl = (setsN a).length) := by show _ = _; rw [HE1.out.2.2.1, aut_ok hez]; rfl
  have hx300 : xl ≤ 300 := by rw [HXS.out]; exact (ok_right hez).2
  rw [hfa] at HF4
  obtain ⟨W4, hW4⟩ : ∃ W, W = w4.alloc (.cells #[.bool n1, .slice sa xl sc, .slice fa fl fc, .slice la ll lc, .slice xa xl xc] 30) := ⟨_, rfl⟩
  have hBW : Below w4.heap.size w4 W4 := by rw [hW4]; exact below_alloc _ _
  have HA1 : Hid (ABox W4 w4.heap.size n1 (.slice sa xl sc) (.slice fa fl fc) (.slice la ll lc) (.slice xa xl xc)) := by rw [hW4]; exact heap_new' _ _
  have HBW : Hid (Below w4.heap.size w4 W4) := hBW
  obtain ⟨xs, hxl, hsrc, hxp⟩ := fol_vals (HF4.out.below hBW)
  have hxl' : xs.length = xl := by rw [hxl]; simp [folN]; exact HXS.out.symm
  obtain ⟨W5, hW5⟩ : ∃ W, W = W4.alloc (.cells #[.slice fa fl fc, .slice la ll lc] 27) := ⟨_, rfl⟩
  have hB5 : Below W4.heap.size W4 W5 := by rw [hW5]; exact below_alloc _ _
  have HO5 : Hid (W5.ownsRow W4.heap.size 27 1 (.slice (some ⟨W4.heap.size, 0, none⟩) 2 2) 2 [.slice fa fl fc, .slice la ll lc]) := ⟨by simp, .inr ⟨W4.heap.size, 2, _, rfl, Nat.le_refl _, by rw [hW5]; exact heap_new' _ _, Nat.le_refl _, by decide, by simp, by simp⟩⟩
  have HSRC : Hid (SrcIs W5 (.slice xa xl xc) xl 1 xs) := by
    have h1 := hsrc
    rw [show (folN a).length = xl from by simp [folN]; exact HXS.out.symm] at h1
    rcases h1 with ⟨e1, e2, e3⟩ | ⟨ad, c, e1, e2, e3, e4⟩
    · exact .inl ⟨e1, e2, e3⟩
    · exact .inr ⟨ad, c, e1, e2, fun j u hj => by
        have h2 := e3 j u hj
        exact (World.cell?_of_block (a := ad.add j) (hB5.block _ (cell_some_lt h2))).trans h2, e4⟩
  have HXV : Hid (xs.length = xl ∧ ∀ k, (h1 : k < xs.length) → (h2 : k < (folN a).length) → PlcAt 0 0 W4 xs[k] (folN a)[k]) := ⟨hxl', hxp⟩
  have HB5 : Hid (Below W4.heap.size W4 W5) := hB5
  obtain ⟨iL, hiL, hzL0, hzL1, hzL2⟩ := info_parts Tryd.infoInts
  have HW4 : Hid (W4 = _) := hW4
  have HW5 : Hid (W5 = _) := hW5
  have c1' := HA1.out.c1
  have c2' := HA1.out.c2
  have c3' := HA1.out.c3
  have c4' := HA1.out.c4
  have hlt4 := HA1.out.lt
  clear hez hfa hBW hxl hsrc hxp hxl' hB5 hW4 hW5
  go_upto_region 8 with fail
  rw [← HW4.out]
  go_wp2_with (at_builtin; rw [← HW5.out]; go_must (refine wpList_append_src _ rfl _ _ 28 rfl W4.heap.size 27 iL (.slice none 0 0) 1 24 Tryd.underlying28 hiL hzL0 hzL1 hzL2 rfl (by decide) _ _ _ rfl HO5.out _ rfl xl xs HSRC.out (by unfold maxLen; omega) (by omega) (by have := HB5.out.size; omega) ?_); intro v6 w6 ho6 hg6)
  have hgb : ∀ q, (Value.slice (some ⟨W4.heap.size, 0, none⟩) 2 2).ownBlock = some q → W4.heap.size ≤ q := fun q e => by
    have e2 : some W4.heap.size = some q := e
    injection e2 with e2
    omega
  have hB6 : Below W4.heap.size W4 w6 := HB5.out.grown hg6 HB5.out.size hgb
  have HB6 : Hid (Below W4.heap.size W4 w6) := hB6
  have HFA6 : Hid (FolAt w6 v6 (allLs a)) := by
    have hF := HPF.out.below (below_after HBW.out hB6)
    have hL := HPL.out.below (below_after HBW.out hB6)
    refine fol_row (base := W4.heap.size) (xs := [.slice fa fl fc, .slice la ll lc] ++ xs) (by
      have e : ([Value.slice fa fl fc, Value.slice la ll lc] ++ xs).length = 2 + xl := by have := HXV.out.1; simp; omega
      rw [e]; exact ho6) (by simp [allLs, HXV.out.1, folN]; exact HXS.out) (fun k h1 h2 => ?_)
    match k with
    | 0 => exact hF
    | 1 => exact hL
    | k + 2 =>
      have hk : k < xs.length := by simpa using h1
      have hk2 : k < (folN a).length := by simpa [allLs] using h2
      exact (HXV.out.2 k hk hk2).below hB6
  have HAL : Hid (∀ l ∈ allLs a, InR 0 xl l) := by rw [HXS.out]; exact all_in HEZ.out
  obtain ⟨ra, rc, hev, hrc⟩ := HFA6.out.slice
  have hlen2 : (allLs a).length = xl + 2 := by simp [allLs, folN]; exact HXS.out.symm
  rw [hlen2] at hev hrc
  subst hev
  have HL2 : Hid ((allLs a).length = xl + 2) := hlen2
  have HBW6 : Hid (Below w.heap.size w w6) := below_after HBW4.out (below_after HBW.out hB6)
  clear ho6 hg6 hgb hB6 hlen2 c2' c3' c4'
  go_wp2
  go_loopw [9] (fun x9 wr => ∃ (i : Nat), i ≤ xl + 2 ∧ x9 = .int .i64 (i : Int) ∧ ∃ nd, wr = w6.drewN nd) (fun x9 _ => xl + 2 - (intOf x9).toNat)
  case atStart => exact ⟨0, Nat.zero_le _, rfl, 0, rfl⟩
  case round =>
    obtain ⟨i, hi, rfl, nd, rfl⟩ := hrel
    by_cases hil : i < xl + 2
    · have hid : i < (allLs a).length := by rw [HL2.out]; exact hil
      obtain ⟨ga, oa, va, rfl, hga, e1, p1⟩ := HFA6.out.at hid
      have HIN : Hid (InR 0 xl (allLs a)[i]) := HAL.out _ (List.getElem_mem hid)
      obtain ⟨ya, yc, hey, hyc⟩ := p1.slice
      obtain ⟨N, hN⟩ : ∃ x, x = (allLs a)[i].length := ⟨_, rfl⟩
      subst hey
      have HP1 : Hid (PlcAt 0 0 w6 (.slice ya N yc) (allLs a)[i]) := by rw [hN]; exact p1
      have HN : Hid (N = (allLs a)[i].length) := hN
      rw [← hN] at e1 hyc
      have hi0 : (0 : Int) ≤ (i : Int) := by omega
      have hi1 : (i : Int) < (xl : Int) + 2 := by omega
      have hi2 : i < xl + 2 := hil
      have hNb : N ≤ 300 := by have := HIN.out.len (Nat.zero_le _); have := HN.out; omega
      clear hN p1
      go_wp2
      go_loopw [10] (fun x10 wr => ∃ (k : Nat), k ≤ N ∧ x10 = .int .i64 (k : Int) ∧ ∃ nd, wr = w6.drewN nd) (fun x10 _ => N - (intOf x10).toNat)
      case atStart => exact ⟨0, Nat.zero_le _, rfl, nd, rfl⟩
      case round =>
        obtain ⟨k, hk, rfl, nd, rfl⟩ := hrel
        by_cases hkl : k < N
        · have hkn : k < (allLs a)[i].length := by rw [← HN.out]; exact hkl
          obtain ⟨gy, oy, rfl, _, hgy, e2⟩ := HP1.out.at HN.out hkn
          obtain ⟨x, hx⟩ : ∃ x, x = (allLs a)[i][k] := ⟨_, rfl⟩
          rw [← hx] at e2
          have hxr : 0 < x ∧ x ≤ xl := by rw [hx]; exact HIN.out.2 _ (List.getElem_mem hkn)
          have hk0 : (0 : Int) ≤ (k : Int) := by omega
          have hk1 : (k : Int) < (N : Int) := by omega
          have hx1 : decide ((x : Int) < 1) = false := decide_eq_false (by omega)
          have hx2 : decide ((x : Int) > (xl : Int)) = false := decide_eq_false (by omega)
          have HX : Hid (x = (allLs a)[i][k]) := hx
          clear hx
          by_cases hkz : k = 0
          · subst hkz
            have e2' : w6.cell? ⟨gy, oy, none⟩ = some (.int .i64 (x : Int)) := e2
            have hN0 : 0 < N := hkl
            have hN1 : (0 : Int) < (N : Int) := by omega
            have hxg : ¬ xl < x := by omega
            clear e2 hk0 hk1 hkl hk HX hkn hxr
            go_wp2
            go_quiet (fail)
            go_wp2
            go_roundw
            case rel => exact ⟨1, by omega, by go_num, _, rfl⟩
            case measure => simp [intOf]; omega
          · obtain ⟨q, hq⟩ : ∃ q, k = q + 1 := ⟨k - 1, by omega⟩
            obtain ⟨y, hy⟩ : ∃ y, y = (allLs a)[i][q]'(by omega) := ⟨_, rfl⟩
            have e3 : w6.cell? ⟨gy, oy + q, none⟩ = some (.int .i64 (y : Int)) := by
              obtain ⟨g2, o2, h1, _, _, h2⟩ := HP1.out.at HN.out (j := q) (by omega)
              obtain ⟨rfl, rfl⟩ : gy = g2 ∧ oy = o2 := by simpa using h1
              rw [hy]; exact h2
            have hyx : y < x := by
              have := List.pairwise_iff_getElem.1 HIN.out.1 q k (by omega) hkn (by omega)
              rw [hy, HX.out]; exact this
            have hle : decide ((x : Int) ≤ (y : Int)) = false := decide_eq_false (by omega)
            have hq0 : (0 : Int) ≤ (q : Int) := by omega
            have hq1 : (q : Int) < (N : Int) := by omega
            have hq2 : q < N := by omega
            have hwq : IntKind.i64.wrap (q : Int) = (q : Int) := by rw [IntKind.wrap_i64]; omega
            have hqs : (k : Int) - 1 = (q : Int) := by omega
            have hgt : decide ((k : Int) > 0) = true := decide_eq_true (by omega)
            have hgt2 : 0 < k := by omega
            have hnle : ¬ x ≤ y := by omega
            clear hy hq hkz hyx
            go_wp2
            go_quiet (fail)
            go_wp2
            go_roundw
            case rel => exact ⟨k + 1, by omega, by go_num, _, rfl⟩
            case measure => simp [intOf]; omega
        · obtain rfl : k = N := by omega
          go_wp2
          go_roundw
          case rel => exact ⟨i + 1, by omega, by go_num, _, rfl⟩
          case measure => simp [intOf]; omega
    · obtain rfl : i = xl + 2 := by omega
      obtain ⟨w7, hw7⟩ : ∃ W, W = w6.drewN nd := ⟨_, rfl⟩
      rw [← hw7]
      have HB7 : Hid (Below w6.heap.size w6 w7) := by rw [hw7]; exact below_drewN' (Below.refl _ _) _
      clear hw7
      have HB47 : Hid (Below W4.heap.size W4 w7) := below_after HB6.out HB7.out
      have HBW7 : Hid (Below w.heap.size w w7) := below_after HBW6.out HB7.out
      have HX7 : Hid (Box w7 w.heap.size ak as1 (.slice na al ca)) := (HX4.out.below HBW.out).below HB47.out
      have HKD : Hid (∀ W, Below w.heap.size w W → KdX (fun k => k < W.heap.size) W (.slice na al ca) a.kids) := fun W hb => kdx_below HA.out hb
      have HBS : Hid (∀ (k : Int) (W W' : World), (k = 3 ∨ k = 4) → Below w.heap.size w W → W' = W.alloc (.cells #[.int .i64 ak, .int .i64 as1, .slice na al ca] 24) → Calls Tryd.prog 10 #[.agg #[.int .i64 k, .int .i64 0, .slice (some ⟨W.heap.size, 0, none⟩) 1 1]] W' (BldA (sgN k a) W')) := fun k W W' hk hb hW' => by
        have hb' : Below w.heap.size w W' := by rw [hW']; exact hb.alloc hb.size _
        have hh : W'.heap[W.heap.size]? = some (.cells (cellsNs [(a, .slice na al ca)]).toArray 24 (0, 0)) := by
          rw [hW', heap_new', HNA.out.1, HNA.out.2.1]; rfl
        have hkk : KdX (fun k => k < W'.heap.size) W' (.slice (some ⟨W.heap.size, 0, none⟩) 1 1) [a] := kids_of_block (l := [(a, .slice na al ca)]) (t := 24) hh rfl (Nat.le_refl _) (lt_of_heap hh) (fun x hx => by
          obtain rfl : x = (a, .slice na al ca) := by simpa using hx
          exact HKD.out W' hb')
        have := build_any 41 (by omega) (sgN k a) (some ⟨W.heap.size, 0, none⟩) 1 W' (HT.out.below hb') ⟨by simp [sgN], fun x hx => by
          obtain rfl : x = a := by simpa [sgN] using hx
          exact HDA.out⟩ (by rw [sg_sets k a (by omega)]; have := HSA.out; omega) hkk
        exact this
      obtain ⟨dp, hdp⟩ : ∃ d, d = autF (sgN 4 a) := ⟨_, rfl⟩
      obtain ⟨ds, hds⟩ : ∃ d, d = autF (sgN 3 a) := ⟨_, rfl⟩
      have HDP : Hid (dp = ⟨(autF a).null, setsN a, (autF a).first, (autF a).last, folN (sgN 4 a)⟩) := by rw [hdp]; exact sg_plus HEZ.out
      have HDS : Hid (ds = ⟨true, setsN a, (autF a).first, (autF a).last, folN (sgN 4 a)⟩) := by rw [hds]; exact sg_star HEZ.out
      have hbp := HBS.out 4 w7 _ (.inr rfl) HBW7.out rfl
      have HBS3 : Hid (∀ W, Below w.heap.size w W → Calls Tryd.prog 10 #[.agg #[.int .i64 3, .int .i64 0, .slice (some ⟨W.heap.size, 0, none⟩) 1 1]] (W.alloc (.cells #[.int .i64 ak, .int .i64 as1, .slice na al ca] 24)) fun e w' => ∃ av, e = .returned (.tuple #[av, .int .i64 0]) ∧ AutAt w' av ds ∧ Below (W.alloc (.cells #[.int .i64 ak, .int .i64 as1, .slice na al ca] 24)).heap.size (W.alloc (.cells #[.int .i64 ak, .int .i64 as1, .slice na al ca] 24)) w') := fun W hb => by
        have := HBS.out 3 W _ (.inl rfl) hb rfl
        unfold BldA at this
        rw [sg_err a (by omega), HEZ.out, ← hds] at this
        exact this
      have x0 := HX7.out.c0
      have x1 := HX7.out.c1
      have x2 := HX7.out.c2
      have hltX := HX7.out.lt
      unfold BldA at hbp
      rw [sg_err a (by omega), HEZ.out, ← hdp] at hbp
      clear c1' hdp hds
      go_wp2_with fail
      refine hbp.mono ?_
      rintro e w8 ⟨v8, rfl, hv8, hB8'⟩
      have HV8 : Hid (AutAt w8 v8 dp) := hv8
      obtain ⟨sv8, fv8, lv8, wv8, hev8, hs, hf, hl, hw⟩ := hv8
      subst hev8
      obtain ⟨sa8, sc8, hes, _⟩ := hs.slice
      obtain ⟨fa8, fc8, hef, _⟩ := hf.slice
      obtain ⟨la8, lc8, hel, _⟩ := hl.slice
      obtain ⟨xa8, xc8, hex, _⟩ := hw.slice
      obtain ⟨m8, hm8⟩ : ∃ x, x = dp.null := ⟨_, rfl⟩
      obtain ⟨s8, hs8⟩ : ∃ x, x = dp.sets.length := ⟨_, rfl⟩
      obtain ⟨f8, hf8⟩ : ∃ x, x = dp.first.length := ⟨_, rfl⟩
      obtain ⟨l8, hl8⟩ : ∃ x, x = dp.last.length := ⟨_, rfl⟩
      obtain ⟨y8, hy8⟩ : ∃ x, x = dp.fol.length := ⟨_, rfl⟩
      rw [← hs8] at hes
      rw [← hf8] at hef
      rw [← hl8] at hel
      rw [← hy8] at hex
      subst hes hef hel hex
      rw [← hm8] at HV8 ⊢
      have HM8 : Hid (m8 = dp.null) := hm8
      have HPF8 : Hid (PlcAt 0 0 w8 (.slice fa8 f8 fc8) dp.first) := hf
      have HPL8 : Hid (PlcAt 0 0 w8 (.slice la8 l8 lc8) dp.last) := hl
      clear hs hf hl hw hm8 hs8 hf8 hl8 hy8
      have hB8 : Below w7.heap.size w7 w8 := below_al2 hB8'
      obtain ⟨W8, hW8⟩ : ∃ W, W = w8.alloc (.cells #[.bool m8, .slice sa8 s8 sc8, .slice fa8 f8 fc8, .slice la8 l8 lc8, .slice xa8 y8 xc8] 30) := ⟨_, rfl⟩
      have hBW8 : Below w8.heap.size w8 W8 := by rw [hW8]; exact below_alloc _ _
      have HP8 : Hid (ABox W8 w8.heap.size m8 (.slice sa8 s8 sc8) (.slice fa8 f8 fc8) (.slice la8 l8 lc8) (.slice xa8 y8 xc8)) := by rw [hW8]; exact heap_new' _ _
      have HBA8 : Hid (Below w7.heap.size w7 W8) := below_after hB8 hBW8
      have HX8 : Hid (Box W8 w.heap.size ak as1 (.slice na al ca)) := HX7.out.below HBA8.out
      have HA8 : Hid (ABox W8 w4.heap.size n1 (.slice sa xl sc) (.slice fa fl fc) (.slice la ll lc) (.slice xa xl xc)) := (HA1.out.below HB47.out).below HBA8.out
      have HV8W : Hid (AutAt W8 (.agg #[.bool m8, .slice sa8 s8 sc8, .slice fa8 f8 fc8, .slice la8 l8 lc8, .slice xa8 y8 xc8]) dp) := HV8.out.below hBW8
      have HF8W : Hid (PlcAt 0 0 W8 (.slice fa8 f8 fc8) dp.first ∧ PlcAt 0 0 W8 (.slice la8 l8 lc8) dp.last) := ⟨HPF8.out.below hBW8, HPL8.out.below hBW8⟩
      have z0 := HX8.out.c0
      have z1 := HX8.out.c1
      have z2 := HX8.out.c2
      have hltX8 := HX8.out.lt
      have hbs := HBS3.out W8 (below_after HBW7.out HBA8.out)
      have HW8 : Hid (W8 = _) := hW8
      clear hbp hB8 hB8' hBW8 hW8 x0 x1 x2
      go_upto_region 19 with fail
      rw [← HW8.out]
      go_wp2_with fail
      refine hbs.mono ?_
      rintro e w9 ⟨v9, rfl, hv9, hB9'⟩
      have HV9 : Hid (AutAt w9 v9 ds) := hv9
      obtain ⟨sv9, fv9, lv9, wv9, hev9, hs, hf, hl, hw⟩ := hv9
      subst hev9
      obtain ⟨sa9, sc9, hes, _⟩ := hs.slice
      obtain ⟨fa9, fc9, hef, _⟩ := hf.slice
      obtain ⟨la9, lc9, hel, _⟩ := hl.slice
      obtain ⟨xa9, xc9, hex, _⟩ := hw.slice
      obtain ⟨m9, hm9⟩ : ∃ x, x = ds.null := ⟨_, rfl⟩
      obtain ⟨s9, hs9⟩ : ∃ x, x = ds.sets.length := ⟨_, rfl⟩
      obtain ⟨f9, hf9⟩ : ∃ x, x = ds.first.length := ⟨_, rfl⟩
      obtain ⟨l9, hl9⟩ : ∃ x, x = ds.last.length := ⟨_, rfl⟩
      obtain ⟨y9, hy9⟩ : ∃ x, x = ds.fol.length := ⟨_, rfl⟩
      rw [← hs9] at hes
      rw [← hf9] at hef
      rw [← hl9] at hel
      rw [← hy9] at hex
      subst hes hef hel hex
      rw [← hm9] at HV9 ⊢
      have HM9 : Hid (m9 = ds.null) := hm9
      have HPF9 : Hid (PlcAt 0 0 w9 (.slice fa9 f9 fc9) ds.first) := hf
      have HPL9 : Hid (PlcAt 0 0 w9 (.slice la9 l9 lc9) ds.last) := hl
      clear hs hf hl hw hm9 hs9 hf9 hl9 hy9
      have hm8 : n1 = m8 := by rw [HM8.out, HDP.out]; exact HE1.out.2.1
      have hm9 : m9 = true := by rw [HM9.out, HDS.out]
      subst hm8 hm9
      have hB9 : Below W8.heap.size W8 w9 := below_al2 hB9'
      obtain ⟨W9, hW9⟩ : ∃ W, W = w9.alloc (.cells #[.bool true, .slice sa9 s9 sc9, .slice fa9 f9 fc9, .slice la9 l9 lc9, .slice xa9 y9 xc9] 30) := ⟨_, rfl⟩
      have hBW9 : Below w9.heap.size w9 W9 := by rw [hW9]; exact below_alloc _ _
      have HP9 : Hid (ABox W9 w9.heap.size true (.slice sa9 s9 sc9) (.slice fa9 f9 fc9) (.slice la9 l9 lc9) (.slice xa9 y9 xc9)) := by rw [hW9]; exact heap_new' _ _
      have HB89 : Hid (Below W8.heap.size W8 w9) := hB9
      have HBW9' : Hid (Below w9.heap.size w9 W9) := hBW9
      have HBX9 : Hid (Below w.heap.size w W9) := below_after (below_after HBW7.out HBA8.out) (below_after hB9 hBW9)
      have HCB : Hid (∀ W, Below W9.heap.size W9 W → (ABox W w4.heap.size n1 (.slice sa xl sc) (.slice fa fl fc) (.slice la ll lc) (.slice xa xl xc)) ∧ (ABox W w8.heap.size n1 (.slice sa8 s8 sc8) (.slice fa8 f8 fc8) (.slice la8 l8 lc8) (.slice xa8 y8 xc8)) ∧ (ABox W w9.heap.size true (.slice sa9 s9 sc9) (.slice fa9 f9 fc9) (.slice la9 l9 lc9) (.slice xa9 y9 xc9)) ∧ Box W w.heap.size ak as1 (.slice na al ca)) := fun W hb => ⟨((HA8.out.below hB9).below hBW9).below hb, ((HP8.out.below hB9).below hBW9).below hb, HP9.out.below hb, ((HX8.out.below hB9).below hBW9).below hb⟩
      have HWN : Hid (∀ W, Below w.heap.size w W → Calls Tryd.prog 20 #[.agg #[.int .i64 ak, .int .i64 as1, .slice na al ca], .slice none 0 0] W fun e w' => e = .returned (.bool n1) ∧ Below W.heap.size W w') := fun W hb => by
        have := refWhole_any 40 [] (by decide) a (.slice na al ca) none 0 W HDA.out (kdx_below HA.out hb) ⟨none, 0, rfl, Nat.le_refl _, fun i hi => by cases hi⟩
        unfold ndV at this
        rw [← HNA.out.1, ← HNA.out.2.1, whole_nil HEZ.out, ← HE1.out.2.1] at this
        exact this
      have HW9 : Hid (W9 = _) := hW9
      have hltw4 : w4.heap.size < W9.heap.size := (HCB.out W9 (Below.refl _ _)).1.lt
      have hltw8 : w8.heap.size < W9.heap.size := (HCB.out W9 (Below.refl _ _)).2.1.lt
      have hltw9 : w9.heap.size < W9.heap.size := HP9.out.lt
      clear hbs hB9 hB9' hBW9 hW9 z0 z1 z2
      go_upto_region 20 with fail
      rw [← HW9.out]
      have HCC : Hid (∀ W, Below W9.heap.size W9 W → (W.cell? ⟨w4.heap.size, 4, none⟩ = some (.slice xa xl xc) ∧ W.cell? ⟨w4.heap.size, 0, none⟩ = some (.bool n1) ∧ W.cell? ⟨w9.heap.size, 0, none⟩ = some (.bool true) ∧ W.cell? ⟨w8.heap.size, 0, none⟩ = some (.bool n1) ∧ W.cell? ⟨w.heap.size, 0, none⟩ = some (.int .i64 ak) ∧ W.cell? ⟨w.heap.size, 1, none⟩ = some (.int .i64 as1) ∧ W.cell? ⟨w.heap.size, 2, none⟩ = some (.slice na al ca))) := fun W hb => by
        obtain ⟨q1, q2, q3, q4⟩ := HCB.out W hb
        exact ⟨q1.c4, q1.c0, q3.c0, q2.c0, q4.c0, q4.c1, q4.c2⟩
      have hnb : ((n1 : Bool) != n1) = false := by simp
      have hxx : ((xl : Int) != (xl : Int)) = false := by simp
      obtain ⟨t1, t2, t3, t4, t5, t6, t7⟩ := HCC.out W9 (Below.refl _ _)
      go_region_held3 (fun W => (W.cell? ⟨w4.heap.size, 4, none⟩ = some (.slice xa xl xc) ∧ W.cell? ⟨w4.heap.size, 0, none⟩ = some (.bool n1) ∧ W.cell? ⟨w9.heap.size, 0, none⟩ = some (.bool true) ∧ W.cell? ⟨w8.heap.size, 0, none⟩ = some (.bool n1) ∧ W.cell? ⟨w.heap.size, 0, none⟩ = some (.int .i64 ak) ∧ W.cell? ⟨w.heap.size, 1, none⟩ = some (.int .i64 as1) ∧ W.cell? ⟨w.heap.size, 2, none⟩ = some (.slice na al ca))) (first | (with_reducible exact HCC.out _ hB10') | (with_reducible exact HCC.out _ (Below.refl _ _).drew) | go_keep) ((go_at_call 20; (with_reducible refine (HWN.out _ HBX9.out.drew).mono ?_); rintro e w10 ⟨rfl, hB10⟩; have hB10' : Below W9.heap.size W9 w10 := below_drw hB10))
      clear t1 t2 t3 t4 t5 t6 t7
      have hS10 := (HCB.out w10 hB10').2.2.1
      have hP10 := (HCB.out w10 hB10').2.1
      have g0 := hP10.c0
      have g1 := hS10.c0
      have g2 := hS10.nf 0
      have hl8 := hP10.lt
      have hl9 := hS10.lt
      have hne89 : ¬ w8.heap.size = w9.heap.size := by have := HB89.out.size; have := HP8.out.lt; omega
      obtain ⟨W10, hW10⟩ : ∃ W, W = w10.setCell ⟨w9.heap.size, 0, none⟩ (.bool n1) := ⟨_, rfl⟩
      have HB910 : Hid (Below w9.heap.size w9 W10) := by rw [hW10]; exact (below_after HBW9'.out hB10').setCell (Nat.le_refl _) _
      have HS10 : Hid (ABox W10 w9.heap.size n1 (.slice sa9 s9 sc9) (.slice fa9 f9 fc9) (.slice la9 l9 lc9) (.slice xa9 y9 xc9)) := by rw [hW10]; exact hS10.s0 _
      have HBWT : Hid (Below w.heap.size w W10) := by rw [hW10]; exact (below_after HBX9.out hB10').setCell (by have := (below_after (below_after HBW7.out HBA8.out) HB89.out).size; exact this) _
      have HB49 : Hid (Below w4.heap.size w4 w9) := below_after (below_after HBW.out (below_after HB47.out HBA8.out)) HB89.out
      have HTEN : Hid (∀ W, Below W10.heap.size W10 W → (ABox W w4.heap.size n1 (.slice sa xl sc) (.slice fa fl fc) (.slice la ll lc) (.slice xa xl xc)) ∧ (ABox W w8.heap.size n1 (.slice sa8 s8 sc8) (.slice fa8 f8 fc8) (.slice la8 l8 lc8) (.slice xa8 y8 xc8)) ∧ (ABox W w9.heap.size n1 (.slice sa9 s9 sc9) (.slice fa9 f9 fc9) (.slice la9 l9 lc9) (.slice xa9 y9 xc9))) := fun W hb => by
        have q1 : ABox w9 w4.heap.size n1 (.slice sa xl sc) (.slice fa fl fc) (.slice la ll lc) (.slice xa xl xc) := HA8.out.below HB89.out
        have q2 : ABox w9 w8.heap.size n1 (.slice sa8 s8 sc8) (.slice fa8 f8 fc8) (.slice la8 l8 lc8) (.slice xa8 y8 xc8) := HP8.out.below HB89.out
        exact ⟨(q1.below HB910.out).below hb, (q2.below HB910.out).below hb, HS10.out.below hb⟩
      have HSF : Hid (∀ W, Below W10.heap.size W10 W → Calls Tryd.prog 15 #[.slice fa8 f8 fc8, .slice fa fl fc] W fun e w' => e = .returned (.bool true) ∧ Below W.heap.size W w') := fun W hb => by
        have q1 := ((HF8W.out.1.below HB89.out).below HB910.out).below hb
        have q2 := ((HPF.out.below HB49.out).below HB910.out).below hb
        rw [show dp.first = (autF a).first from by rw [HDP.out]] at q1
        exact sameInts_any (upI (autF a).first) (by have := (all_in HEZ.out _ (by simp [allLs] : (autF a).first ∈ allLs a)).len (Nat.zero_le _); have := (ok_right HEZ.out).2; simp [upI]; omega) _ _ W q1.ints q2.ints
      have HSL : Hid (∀ W, Below W10.heap.size W10 W → Calls Tryd.prog 15 #[.slice la8 l8 lc8, .slice la ll lc] W fun e w' => e = .returned (.bool true) ∧ Below W.heap.size W w') := fun W hb => by
        have q1 := ((HF8W.out.2.below HB89.out).below HB910.out).below hb
        have q2 := ((HPL.out.below HB49.out).below HB910.out).below hb
        rw [show dp.last = (autF a).last from by rw [HDP.out]] at q1
        exact sameInts_any (upI (autF a).last) (by have := (all_in HEZ.out _ (by simp [allLs] : (autF a).last ∈ allLs a)).len (Nat.zero_le _); have := (ok_right HEZ.out).2; simp [upI]; omega) _ _ W q1.ints q2.ints
      have HSM : Hid (∀ W, Below W10.heap.size W10 W → Calls Tryd.prog 12 #[.agg #[.bool n1, .slice sa8 s8 sc8, .slice fa8 f8 fc8, .slice la8 l8 lc8, .slice xa8 y8 xc8], .agg #[.bool n1, .slice sa9 s9 sc9, .slice fa9 f9 fc9, .slice la9 l9 lc9, .slice xa9 y9 xc9]] W fun e w' => e = .returned (.bool true) ∧ Below W.heap.size W w') := fun W hb => by
        have q1 := ((HV8W.out.below HB89.out).below HB910.out).below hb
        have q2 : AutAt W (.agg #[.bool n1, .slice sa9 s9 sc9, .slice fa9 f9 fc9, .slice la9 l9 lc9, .slice xa9 y9 xc9]) dp := by
          have q3 := (HV9.out.below HB910.out).below hb
          obtain ⟨a1, a2, a3, a4, e0, h1, h2, h3, h4⟩ := q3
          refine ⟨a1, a2, a3, a4, ?_, ?_, ?_, ?_, ?_⟩
          · have : dp.null = n1 := by rw [HDP.out]; exact HE1.out.2.1.symm
            rw [this]
            simp at e0 ⊢
            exact e0.2
          · rw [show dp.sets = ds.sets from by rw [HDP.out, HDS.out]]; exact h1
          · rw [show dp.first = ds.first from by rw [HDP.out, HDS.out]]; exact h2
          · rw [show dp.last = ds.last from by rw [HDP.out, HDS.out]]; exact h3
          · rw [show dp.fol = ds.fol from by rw [HDP.out, HDS.out]]; exact h4
        have hok := (ok_right HEZ.out).2
        refine same_any dp _ _ W q1 q2 ?_
        rw [HDP.out]
        refine ⟨by show (setsN a).length ≤ _; omega, ?_, ?_, ?_, ?_⟩
        · have := (all_in HEZ.out _ (by simp [allLs] : (autF a).first ∈ allLs a)).len (Nat.zero_le _); show (autF a).first.length ≤ _; omega
        · have := (all_in HEZ.out _ (by simp [allLs] : (autF a).last ∈ allLs a)).len (Nat.zero_le _); show (autF a).last.length ≤ _; omega
        · show (folN (sgN 4 a)).length ≤ _; simp [folN]; rw [sg_sets 4 a (by decide)]; omega
        · intro x hx
          obtain ⟨i, _, rfl⟩ := List.mem_map.1 (show x ∈ folN (sgN 4 a) from hx)
          refine Nat.le_trans (rgF_len _ _) ?_
          rw [sg_sets 4 a (by decide)]; omega
      have HW10 : Hid (W10 = _) := hW10
      have hsf := HSF.out W10 (Below.refl _ _)
      obtain ⟨r1, r2, r3⟩ := HTEN.out W10 (Below.refl _ _)
      have e1 := r1.c2
      have e2 := r2.c2
      clear hS10 hP10 hW10 r1 r2 r3
      go_upto_region 23 with fail
      rw [← HW10.out]
      go_wp2_with fail
      refine hsf.mono ?_
      rintro e w11 ⟨rfl, hB11⟩
      obtain ⟨r1, r2, r3⟩ := HTEN.out w11 hB11
      have e3 := r1.c3
      have e4 := r2.c3
      have hsl := HSL.out w11 hB11
      have HB11 : Hid (Below W10.heap.size W10 w11) := hB11
      clear hsf hB11 r1 r2 r3 e1 e2 g0 g1 g2
      go_wp2_with fail
      refine hsl.mono ?_
      rintro e w12 ⟨rfl, hB12⟩
      have hB12' := below_after HB11.out hB12
      obtain ⟨r1, r2, r3⟩ := HTEN.out w12 hB12'
      have p0 := r2.c0
      have p1 := r2.c1
      have p2 := r2.c2
      have p3 := r2.c3
      have p4 := r2.c4
      have q0 := r3.c0
      have q1 := r3.c1
      have q2 := r3.c2
      have q3 := r3.c3
      have q4 := r3.c4
      have hsm := HSM.out w12 hB12'
      have HB12 : Hid (Below W10.heap.size W10 w12) := hB12'
      clear hsl hB12 hB12' r1 r2 r3 e3 e4
      go_wp2_with fail
      refine hsm.mono ?_
      rintro e w13 ⟨rfl, hB13⟩
      have HB13 : Hid (Below w.heap.size w w13) := below_after HBWT.out (below_after HB12.out hB13)
      clear hsm hB13
      go_wp2
      go_ret
      exact ⟨by simp, HB13.out⟩
end Go.Proofs.YtidaoamfdbkfiaaDoor
