/-
  The law RangesTurned: true, for all ranges.
-/
import Derived.Test.YtmgbeglajpnicaaLaw
namespace Go.Proofs.Ytmgbeglajpnicaa
open Go.RowKit
set_option linter.unusedVariables false

theorem Upto.has {f : Int → Bool} {l : List Rg} (h : Upto f l 1114112) {x : Int} (h0 : 0 ≤ x) (h1 : x < 1114112) : hasR l x = f x := by
  rw [h.2 x]
  cases q : f x with
  | true => exact decide_eq_true ⟨h0, h1, rfl⟩
  | false => exact decide_eq_false (fun z => by cases z.2.2)
theorem upto_none {f : Int → Bool} {l : List Rg} (h : Upto f l 1114112) (hf : ∀ x, f x = false) : l = [] := by
  refine Upto.unique h ⟨trivial, fun x => ?_⟩
  rw [hf x]
  exact (decide_eq_false (fun z => by cases z.2.2)).symm

set_option maxRecDepth 100000 in
set_option maxHeartbeats 8000000 in
theorem rangesTurned_any (l : List Rg) (v : Value) (m : List Rg) (u : Value) (w : World) (hv : RngSrc w v l) (hbig : l.length * 16 ≤ 140737488355328) (hv2 : RngSrc w u m) (hbig2 : m.length * 16 ≤ 140737488355328) :
    Calls Try.prog 7 #[v, u] w fun e w' => e = .returned (.bool true) ∧ Below w.heap.size w w' := by
  have HV : Hid (RngSrc w v l) := hv
  have HV2 : Hid (RngSrc w u m) := hv2
  obtain ⟨a, cap, rfl, hc, _⟩ := hv.1
  obtain ⟨a2, cap2, rfl, hc2, _⟩ := hv2.1
  clear hv hv2
  go_enter Try.func7, Try.ntmps7
  go_wp2_with fail
  refine (awake_any w).mono ?_
  rintro e w1 ⟨rfl, hB1⟩
  have hs1 := hB1.size
  go_wp2_with fail
  refine (set_any l _ w1 (HV.out.below hB1)).mono ?_
  rintro e w2 ⟨h, hB2⟩
  have hW2 : Below w.heap.size w w2 := hB1.trans (hB2.mono hs1)
  have hs2 := hW2.size
  rcases h with ⟨v1, rfl⟩ | ⟨sa, va, sA, lA, rfl, rA⟩
  · go_wp2_with fail
    refine (set_any m _ w2 (HV2.out.below hW2)).mono ?_
    rintro e w3 ⟨h, hB3⟩
    have hW3 : Below w.heap.size w w3 := hW2.trans (hB3.mono hs2)
    rcases h with ⟨v2, rfl⟩ | ⟨sb, vb, sB, lB, rfl, rB⟩
    · go_wp2
      go_ret
      exact ⟨rfl, hW3⟩
    · clear rB
      go_wp2
      go_ret
      exact ⟨rfl, hW3⟩
  · have Sa : Hid (IsSet sa) := sA
    have La : Hid (sa.length ≤ 100) := lA
    have Ra2 : Hid (RngSrc w2 va sa) := rA
    clear sA lA rA
    go_wp2_with fail
    refine (set_any m _ w2 (HV2.out.below hW2)).mono ?_
    rintro e w3 ⟨h, hB3⟩
    have hW3 : Below w.heap.size w w3 := hW2.trans (hB3.mono hs2)
    rcases h with ⟨v2, rfl⟩ | ⟨sb, vb, sB, lB, rfl, rB⟩
    · clear Ra2
      go_wp2
      go_ret
      exact ⟨rfl, hW3⟩
    · have Sb : Hid (IsSet sb) := sB
      have Lb : Hid (sb.length ≤ 100) := lB
      have Rb3 : Hid (RngSrc w3 vb sb) := rB
      have Ra3 : Hid (RngSrc w3 va sa) := Ra2.out.below hB3
      clear sB lB rB Ra2 hB1 hB2 hB3 hs1 hs2 hW2 HV HV2
      go_wp2_with fail
      refine (or_any sa sb Sa.out Sb.out  _ _ w3 Ra3.out.rng Rb3.out.rng).mono ?_
      rintro e w4 ⟨so1, vo1, rfl, hu, ho, hB4⟩
      have Uo1 : Hid (Upto (fun x => hasR sa x || hasR sb x) so1 1114112) := hu
      have So1 : Hid (IsSet so1) := hu.isSet
      have Qo1 : Hid (RngSrc w4 vo1 so1) := RngSrc.row ho
      clear hu ho
      have hs3 := hW3.size
      have hW4 : Below w.heap.size w w4 := hW3.trans (hB4.mono hs3)
      have Ra4 : Hid (RngSrc w4 va sa) := Ra3.out.below hB4
      have Rb4 : Hid (RngSrc w4 vb sb) := Rb3.out.below hB4
      clear Ra3 Rb3 hB4 hs3 hW3
      have Ro14 : Hid (RngSrc w4 vo1 so1) := Qo1.out
      clear Qo1
      go_wp2_with fail
      refine (or_any sb sa Sb.out Sa.out  _ _ w4 Rb4.out.rng Ra4.out.rng).mono ?_
      rintro e w5 ⟨so2, vo2, rfl, hu, ho, hB5⟩
      have Uo2 : Hid (Upto (fun x => hasR sb x || hasR sa x) so2 1114112) := hu
      have So2 : Hid (IsSet so2) := hu.isSet
      have Qo2 : Hid (RngSrc w5 vo2 so2) := RngSrc.row ho
      clear hu ho
      have hs4 := hW4.size
      have hW5 : Below w.heap.size w w5 := hW4.trans (hB5.mono hs4)
      have Ra5 : Hid (RngSrc w5 va sa) := Ra4.out.below hB5
      have Rb5 : Hid (RngSrc w5 vb sb) := Rb4.out.below hB5
      have Ro15 : Hid (RngSrc w5 vo1 so1) := Ro14.out.below hB5
      clear Ra4 Rb4 Ro14 hB5 hs4 hW4
      have Ro25 : Hid (RngSrc w5 vo2 so2) := Qo2.out
      clear Qo2
      have E5 : Hid (so2 = so1) := Upto.unique (Uo2.out.congr (fun x _ _ => Bool.or_comm _ _)) Uo1.out
      have Y5 : Hid (RngSrc w5 vo2 so1) := by rw [← E5.out]; exact Ro25.out
      go_wp2_with fail
      refine (same_any so1 (by have := So1.out.len; omega) _ _ w5 Ro15.out.rng Y5.out.rng).mono ?_
      rintro e w6 ⟨rfl, hB6⟩
      clear E5 Y5
      have hs5 := hW5.size
      have hW6 : Below w.heap.size w w6 := hW5.trans (hB6.mono hs5)
      have Ra6 : Hid (RngSrc w6 va sa) := Ra5.out.below hB6
      have Rb6 : Hid (RngSrc w6 vb sb) := Rb5.out.below hB6
      have Ro16 : Hid (RngSrc w6 vo1 so1) := Ro15.out.below hB6
      have Ro26 : Hid (RngSrc w6 vo2 so2) := Ro25.out.below hB6
      clear Ra5 Rb5 Ro15 Ro25 hB6 hs5 hW5
      clear Ro16
      clear Ro26
      go_wp2_with fail
      refine (and_any sa sb Sa.out Sb.out  _ _ w6 Ra6.out.rng Rb6.out.rng).mono ?_
      rintro e w7 ⟨sn1, vn1, rfl, hu, ho, hB7⟩
      have Un1 : Hid (Upto (fun x => hasR sa x && hasR sb x) sn1 1114112) := hu
      have Sn1 : Hid (IsSet sn1) := hu.isSet
      have Qn1 : Hid (RngSrc w7 vn1 sn1) := RngSrc.row ho
      clear hu ho
      have hs6 := hW6.size
      have hW7 : Below w.heap.size w w7 := hW6.trans (hB7.mono hs6)
      have Ra7 : Hid (RngSrc w7 va sa) := Ra6.out.below hB7
      have Rb7 : Hid (RngSrc w7 vb sb) := Rb6.out.below hB7
      clear Ra6 Rb6 hB7 hs6 hW6
      have Rn17 : Hid (RngSrc w7 vn1 sn1) := Qn1.out
      clear Qn1
      go_wp2_with fail
      refine (and_any sb sa Sb.out Sa.out  _ _ w7 Rb7.out.rng Ra7.out.rng).mono ?_
      rintro e w8 ⟨sn2, vn2, rfl, hu, ho, hB8⟩
      have Un2 : Hid (Upto (fun x => hasR sb x && hasR sa x) sn2 1114112) := hu
      have Sn2 : Hid (IsSet sn2) := hu.isSet
      have Qn2 : Hid (RngSrc w8 vn2 sn2) := RngSrc.row ho
      clear hu ho
      have hs7 := hW7.size
      have hW8 : Below w.heap.size w w8 := hW7.trans (hB8.mono hs7)
      have Ra8 : Hid (RngSrc w8 va sa) := Ra7.out.below hB8
      have Rb8 : Hid (RngSrc w8 vb sb) := Rb7.out.below hB8
      have Rn18 : Hid (RngSrc w8 vn1 sn1) := Rn17.out.below hB8
      clear Ra7 Rb7 Rn17 hB8 hs7 hW7
      have Rn28 : Hid (RngSrc w8 vn2 sn2) := Qn2.out
      clear Qn2
      have E8 : Hid (sn2 = sn1) := Upto.unique (Un2.out.congr (fun x _ _ => Bool.and_comm _ _)) Un1.out
      have Y8 : Hid (RngSrc w8 vn2 sn1) := by rw [← E8.out]; exact Rn28.out
      go_wp2_with fail
      refine (same_any sn1 (by have := Sn1.out.len; omega) _ _ w8 Rn18.out.rng Y8.out.rng).mono ?_
      rintro e w9 ⟨rfl, hB9⟩
      clear E8 Y8
      have hs8 := hW8.size
      have hW9 : Below w.heap.size w w9 := hW8.trans (hB9.mono hs8)
      have Ra9 : Hid (RngSrc w9 va sa) := Ra8.out.below hB9
      have Rb9 : Hid (RngSrc w9 vb sb) := Rb8.out.below hB9
      have Rn19 : Hid (RngSrc w9 vn1 sn1) := Rn18.out.below hB9
      have Rn29 : Hid (RngSrc w9 vn2 sn2) := Rn28.out.below hB9
      clear Ra8 Rb8 Rn18 Rn28 hB9 hs8 hW8
      clear Rn19
      clear Rn29
      go_wp2_with fail
      refine (or_any sa sa Sa.out Sa.out  _ _ w9 Ra9.out.rng Ra9.out.rng).mono ?_
      rintro e w10 ⟨sp1, vp1, rfl, hu, ho, hB10⟩
      have Up1 : Hid (Upto (fun x => hasR sa x || hasR sa x) sp1 1114112) := hu
      have Sp1 : Hid (IsSet sp1) := hu.isSet
      have Qp1 : Hid (RngSrc w10 vp1 sp1) := RngSrc.row ho
      clear hu ho
      have hs9 := hW9.size
      have hW10 : Below w.heap.size w w10 := hW9.trans (hB10.mono hs9)
      have Ra10 : Hid (RngSrc w10 va sa) := Ra9.out.below hB10
      have Rb10 : Hid (RngSrc w10 vb sb) := Rb9.out.below hB10
      clear Ra9 Rb9 hB10 hs9 hW9
      have Rp110 : Hid (RngSrc w10 vp1 sp1) := Qp1.out
      clear Qp1
      have E10 : Hid (sa = sp1) := Upto.unique Sa.out.upto (Up1.out.congr (fun x _ _ => Bool.or_self _))
      have Y10 : Hid (RngSrc w10 va sp1) := by rw [← E10.out]; exact Ra10.out
      go_wp2_with fail
      refine (same_any sp1 (by have := Sp1.out.len; omega) _ _ w10 Rp110.out.rng Y10.out.rng).mono ?_
      rintro e w11 ⟨rfl, hB11⟩
      clear E10 Y10
      have hs10 := hW10.size
      have hW11 : Below w.heap.size w w11 := hW10.trans (hB11.mono hs10)
      have Ra11 : Hid (RngSrc w11 va sa) := Ra10.out.below hB11
      have Rb11 : Hid (RngSrc w11 vb sb) := Rb10.out.below hB11
      have Rp111 : Hid (RngSrc w11 vp1 sp1) := Rp110.out.below hB11
      clear Ra10 Rb10 Rp110 hB11 hs10 hW10
      clear Rp111
      go_wp2_with fail
      refine (and_any sa sa Sa.out Sa.out  _ _ w11 Ra11.out.rng Ra11.out.rng).mono ?_
      rintro e w12 ⟨sp2, vp2, rfl, hu, ho, hB12⟩
      have Up2 : Hid (Upto (fun x => hasR sa x && hasR sa x) sp2 1114112) := hu
      have Sp2 : Hid (IsSet sp2) := hu.isSet
      have Qp2 : Hid (RngSrc w12 vp2 sp2) := RngSrc.row ho
      clear hu ho
      have hs11 := hW11.size
      have hW12 : Below w.heap.size w w12 := hW11.trans (hB12.mono hs11)
      have Ra12 : Hid (RngSrc w12 va sa) := Ra11.out.below hB12
      have Rb12 : Hid (RngSrc w12 vb sb) := Rb11.out.below hB12
      clear Ra11 Rb11 hB12 hs11 hW11
      have Rp212 : Hid (RngSrc w12 vp2 sp2) := Qp2.out
      clear Qp2
      have E12 : Hid (sa = sp2) := Upto.unique Sa.out.upto (Up2.out.congr (fun x _ _ => Bool.and_self _))
      have Y12 : Hid (RngSrc w12 va sp2) := by rw [← E12.out]; exact Ra12.out
      go_wp2_with fail
      refine (same_any sp2 (by have := Sp2.out.len; omega) _ _ w12 Rp212.out.rng Y12.out.rng).mono ?_
      rintro e w13 ⟨rfl, hB13⟩
      clear E12 Y12
      have hs12 := hW12.size
      have hW13 : Below w.heap.size w w13 := hW12.trans (hB13.mono hs12)
      have Ra13 : Hid (RngSrc w13 va sa) := Ra12.out.below hB13
      have Rb13 : Hid (RngSrc w13 vb sb) := Rb12.out.below hB13
      have Rp213 : Hid (RngSrc w13 vp2 sp2) := Rp212.out.below hB13
      clear Ra12 Rb12 Rp212 hB13 hs12 hW12
      clear Rp213
      have Sz : Hid (IsSet []) := IsSet.nil
      have Rz13 : Hid (RngSrc w13 (.slice none 0 0) []) := RngSrc.nil _
      go_wp2_with fail
      refine (or_any sa [] Sa.out Sz.out  _ _ w13 Ra13.out.rng Rz13.out.rng).mono ?_
      rintro e w14 ⟨sq1, vq1, rfl, hu, ho, hB14⟩
      have Uq1 : Hid (Upto (fun x => hasR sa x || hasR [] x) sq1 1114112) := hu
      have Sq1 : Hid (IsSet sq1) := hu.isSet
      have Qq1 : Hid (RngSrc w14 vq1 sq1) := RngSrc.row ho
      clear hu ho
      have hs13 := hW13.size
      have hW14 : Below w.heap.size w w14 := hW13.trans (hB14.mono hs13)
      have Ra14 : Hid (RngSrc w14 va sa) := Ra13.out.below hB14
      have Rb14 : Hid (RngSrc w14 vb sb) := Rb13.out.below hB14
      have Rz14 : Hid (RngSrc w14 (.slice none 0 0) []) := Rz13.out.below hB14
      clear Ra13 Rb13 Rz13 hB14 hs13 hW13
      have Rq114 : Hid (RngSrc w14 vq1 sq1) := Qq1.out
      clear Qq1
      have E14 : Hid (sa = sq1) := Upto.unique Sa.out.upto (Uq1.out.congr (fun x _ _ => Bool.or_false _))
      have Y14 : Hid (RngSrc w14 va sq1) := by rw [← E14.out]; exact Ra14.out
      go_wp2_with fail
      refine (same_any sq1 (by have := Sq1.out.len; omega) _ _ w14 Rq114.out.rng Y14.out.rng).mono ?_
      rintro e w15 ⟨rfl, hB15⟩
      clear E14 Y14
      have hs14 := hW14.size
      have hW15 : Below w.heap.size w w15 := hW14.trans (hB15.mono hs14)
      have Ra15 : Hid (RngSrc w15 va sa) := Ra14.out.below hB15
      have Rb15 : Hid (RngSrc w15 vb sb) := Rb14.out.below hB15
      have Rz15 : Hid (RngSrc w15 (.slice none 0 0) []) := Rz14.out.below hB15
      have Rq115 : Hid (RngSrc w15 vq1 sq1) := Rq114.out.below hB15
      clear Ra14 Rb14 Rz14 Rq114 hB15 hs14 hW14
      clear Rq115
      go_wp2_with fail
      refine (and_any sa [] Sa.out Sz.out  _ _ w15 Ra15.out.rng Rz15.out.rng).mono ?_
      rintro e w16 ⟨sq2, vq2, rfl, hu, ho, hB16⟩
      have Uq2 : Hid (Upto (fun x => hasR sa x && hasR [] x) sq2 1114112) := hu
      have Sq2 : Hid (IsSet sq2) := hu.isSet
      have Qq2 : Hid (RngSrc w16 vq2 sq2) := RngSrc.row ho
      clear hu ho
      have hs15 := hW15.size
      have hW16 : Below w.heap.size w w16 := hW15.trans (hB16.mono hs15)
      have Ra16 : Hid (RngSrc w16 va sa) := Ra15.out.below hB16
      have Rb16 : Hid (RngSrc w16 vb sb) := Rb15.out.below hB16
      have Rz16 : Hid (RngSrc w16 (.slice none 0 0) []) := Rz15.out.below hB16
      clear Ra15 Rb15 Rz15 hB16 hs15 hW15
      have Rq216 : Hid (RngSrc w16 vq2 sq2) := Qq2.out
      clear Qq2
      have Zq2 : Hid (sq2 = []) := upto_none Uq2.out (fun x => Bool.and_false _)
      have Nq2 : Hid (RngSrc w16 vq2 []) := by rw [← Zq2.out]; exact Rq216.out
      clear Rq216
      obtain ⟨adq2, cq2, rfl, _, _⟩ := Nq2.out.1
      clear Nq2
      go_wp2_with fail
      refine (less_any sa sa Sa.out Sa.out  _ _ w16 Ra16.out.rng Ra16.out.rng).mono ?_
      rintro e w17 ⟨sq3, vq3, rfl, hu, ho, hB17⟩
      have Uq3 : Hid (Upto (fun x => hasR sa x && !hasR sa x) sq3 1114112) := hu
      have Sq3 : Hid (IsSet sq3) := hu.isSet
      have Qq3 : Hid (RngSrc w17 vq3 sq3) := RngSrc.row ho
      clear hu ho
      have hs16 := hW16.size
      have hW17 : Below w.heap.size w w17 := hW16.trans (hB17.mono hs16)
      have Ra17 : Hid (RngSrc w17 va sa) := Ra16.out.below hB17
      have Rb17 : Hid (RngSrc w17 vb sb) := Rb16.out.below hB17
      have Rz17 : Hid (RngSrc w17 (.slice none 0 0) []) := Rz16.out.below hB17
      clear Ra16 Rb16 Rz16 hB17 hs16 hW16
      have Rq317 : Hid (RngSrc w17 vq3 sq3) := Qq3.out
      clear Qq3
      have Zq3 : Hid (sq3 = []) := upto_none Uq3.out (fun x => by cases hasR sa x <;> rfl)
      have Nq3 : Hid (RngSrc w17 vq3 []) := by rw [← Zq3.out]; exact Rq317.out
      clear Rq317
      obtain ⟨adq3, cq3, rfl, _, _⟩ := Nq3.out.1
      clear Nq3
      simp only [List.length_nil]
      clear Ra17 Rb17 Rz17
      go_wp2
      go_ret
      exact ⟨rfl, hW17⟩
end Go.Proofs.Ytmgbeglajpnicaa
