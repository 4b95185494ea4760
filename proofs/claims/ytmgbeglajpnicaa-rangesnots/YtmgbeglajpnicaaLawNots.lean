/-
  The law RangesNots: true, for all ranges.
-/
import Derived.Test.YtmgbeglajpnicaaLaw
namespace Go.Proofs.Ytmgbeglajpnicaa
open Go.RowKit
set_option linter.unusedVariables false

theorem Upto.has {f : Int → Bool} {l : List Rg} (h : Upto f l 1114112) {x : Int} (h0 : 0 ≤ x) (h1 : x < 1114112) : hasR l x = f x := by
  rw [h.2 x]
  cases q : f x with
  | true => exact decide_eq_true ⟨h0, h1, rfl⟩
  | false => exact decide_eq_false (fun z => by cases z.2.2)
theorem upto_none {f : Int → Bool} {l : List Rg} (h : Upto f l 1114112) (hf : ∀ x, f x = false) : l = [] := by
  refine Upto.unique h ⟨trivial, fun x => ?_⟩
  rw [hf x]
  exact (decide_eq_false (fun z => by cases z.2.2)).symm

set_option maxRecDepth 100000 in
set_option maxHeartbeats 8000000 in
theorem rangesNots_any (l : List Rg) (v : Value) (m : List Rg) (u : Value) (w : World) (hv : RngSrc w v l) (hbig : l.length * 16 ≤ 140737488355328) (hv2 : RngSrc w u m) (hbig2 : m.length * 16 ≤ 140737488355328) :
    Calls Try.prog 8 #[v, u] w fun e w' => e = .returned (.bool true) ∧ Below w.heap.size w w' := by
  have HV : Hid (RngSrc w v l) := hv
  have HV2 : Hid (RngSrc w u m) := hv2
  obtain ⟨a, cap, rfl, hc, _⟩ := hv.1
  obtain ⟨a2, cap2, rfl, hc2, _⟩ := hv2.1
  clear hv hv2
  go_enter Try.func8, Try.ntmps8
  go_wp2_with fail
  refine (awake_any w).mono ?_
  rintro e w1 ⟨rfl, hB1⟩
  have hs1 := hB1.size
  go_wp2_with fail
  refine (set_any l _ w1 (HV.out.below hB1)).mono ?_
  rintro e w2 ⟨h, hB2⟩
  have hW2 : Below w.heap.size w w2 := hB1.trans (hB2.mono hs1)
  have hs2 := hW2.size
  rcases h with ⟨v1, rfl⟩ | ⟨sa, va, sA, lA, rfl, rA⟩
  · go_wp2_with fail
    refine (set_any m _ w2 (HV2.out.below hW2)).mono ?_
    rintro e w3 ⟨h, hB3⟩
    have hW3 : Below w.heap.size w w3 := hW2.trans (hB3.mono hs2)
    rcases h with ⟨v2, rfl⟩ | ⟨sb, vb, sB, lB, rfl, rB⟩
    · go_wp2
      go_ret
      exact ⟨rfl, hW3⟩
    · clear rB
      go_wp2
      go_ret
      exact ⟨rfl, hW3⟩
  · have Sa : Hid (IsSet sa) := sA
    have La : Hid (sa.length ≤ 100) := lA
    have Ra2 : Hid (RngSrc w2 va sa) := rA
    clear sA lA rA
    go_wp2_with fail
    refine (set_any m _ w2 (HV2.out.below hW2)).mono ?_
    rintro e w3 ⟨h, hB3⟩
    have hW3 : Below w.heap.size w w3 := hW2.trans (hB3.mono hs2)
    rcases h with ⟨v2, rfl⟩ | ⟨sb, vb, sB, lB, rfl, rB⟩
    · clear Ra2
      go_wp2
      go_ret
      exact ⟨rfl, hW3⟩
    · have Sb : Hid (IsSet sb) := sB
      have Lb : Hid (sb.length ≤ 100) := lB
      have Rb3 : Hid (RngSrc w3 vb sb) := rB
      have Ra3 : Hid (RngSrc w3 va sa) := Ra2.out.below hB3
      clear sB lB rB Ra2 hB1 hB2 hB3 hs1 hs2 hW2 HV HV2
      go_wp2_with fail
      refine (not_any sa Sa.out  _ w3 Ra3.out.rng).mono ?_
      rintro e w4 ⟨sc, vc, rfl, hu, ho, hB4⟩
      have Uc : Hid (Upto (fun x => !hasR sa x) sc 1114112) := hu
      have Sc : Hid (IsSet sc) := hu.isSet
      have Qc : Hid (RngSrc w4 vc sc) := RngSrc.row ho
      clear hu ho
      have hs3 := hW3.size
      have hW4 : Below w.heap.size w w4 := hW3.trans (hB4.mono hs3)
      have Ra4 : Hid (RngSrc w4 va sa) := Ra3.out.below hB4
      have Rb4 : Hid (RngSrc w4 vb sb) := Rb3.out.below hB4
      clear Ra3 Rb3 hB4 hs3 hW3
      have Rc4 : Hid (RngSrc w4 vc sc) := Qc.out
      clear Qc
      go_wp2_with fail
      refine (not_any sb Sb.out  _ w4 Rb4.out.rng).mono ?_
      rintro e w5 ⟨sd, vd, rfl, hu, ho, hB5⟩
      have Ud : Hid (Upto (fun x => !hasR sb x) sd 1114112) := hu
      have Sd : Hid (IsSet sd) := hu.isSet
      have Qd : Hid (RngSrc w5 vd sd) := RngSrc.row ho
      clear hu ho
      have hs4 := hW4.size
      have hW5 : Below w.heap.size w w5 := hW4.trans (hB5.mono hs4)
      have Ra5 : Hid (RngSrc w5 va sa) := Ra4.out.below hB5
      have Rb5 : Hid (RngSrc w5 vb sb) := Rb4.out.below hB5
      have Rc5 : Hid (RngSrc w5 vc sc) := Rc4.out.below hB5
      clear Ra4 Rb4 Rc4 hB5 hs4 hW4
      have Rd5 : Hid (RngSrc w5 vd sd) := Qd.out
      clear Qd
      go_wp2_with fail
      refine (not_any sc Sc.out  _ w5 Rc5.out.rng).mono ?_
      rintro e w6 ⟨se, ve, rfl, hu, ho, hB6⟩
      have Ue : Hid (Upto (fun x => !hasR sc x) se 1114112) := hu
      have Se : Hid (IsSet se) := hu.isSet
      have Qe : Hid (RngSrc w6 ve se) := RngSrc.row ho
      clear hu ho
      have hs5 := hW5.size
      have hW6 : Below w.heap.size w w6 := hW5.trans (hB6.mono hs5)
      have Ra6 : Hid (RngSrc w6 va sa) := Ra5.out.below hB6
      have Rb6 : Hid (RngSrc w6 vb sb) := Rb5.out.below hB6
      have Rc6 : Hid (RngSrc w6 vc sc) := Rc5.out.below hB6
      have Rd6 : Hid (RngSrc w6 vd sd) := Rd5.out.below hB6
      clear Ra5 Rb5 Rc5 Rd5 hB6 hs5 hW5
      have Re6 : Hid (RngSrc w6 ve se) := Qe.out
      clear Qe
      have HC : Hid (∀ x, 0 ≤ x → x < 1114112 → hasR sc x = !hasR sa x) := fun x h0 h1 => Uc.out.has h0 h1
      have HD : Hid (∀ x, 0 ≤ x → x < 1114112 → hasR sd x = !hasR sb x) := fun x h0 h1 => Ud.out.has h0 h1
      have E6 : Hid (sa = se) := Upto.unique Sa.out.upto (Ue.out.congr (fun x h0 h1 => by rw [HC.out x h0 h1, Bool.not_not]))
      have Y6 : Hid (RngSrc w6 va se) := by rw [← E6.out]; exact Ra6.out
      go_wp2_with fail
      refine (same_any se (by have := Se.out.len; omega) _ _ w6 Re6.out.rng Y6.out.rng).mono ?_
      rintro e w7 ⟨rfl, hB7⟩
      clear E6 Y6
      have hs6 := hW6.size
      have hW7 : Below w.heap.size w w7 := hW6.trans (hB7.mono hs6)
      have Ra7 : Hid (RngSrc w7 va sa) := Ra6.out.below hB7
      have Rb7 : Hid (RngSrc w7 vb sb) := Rb6.out.below hB7
      have Rc7 : Hid (RngSrc w7 vc sc) := Rc6.out.below hB7
      have Rd7 : Hid (RngSrc w7 vd sd) := Rd6.out.below hB7
      have Re7 : Hid (RngSrc w7 ve se) := Re6.out.below hB7
      clear Ra6 Rb6 Rc6 Rd6 Re6 hB7 hs6 hW6
      clear Re7
      go_wp2_with fail
      refine (less_any sa sb Sa.out Sb.out  _ _ w7 Ra7.out.rng Rb7.out.rng).mono ?_
      rintro e w8 ⟨sf, vf, rfl, hu, ho, hB8⟩
      have Uf : Hid (Upto (fun x => hasR sa x && !hasR sb x) sf 1114112) := hu
      have Sf : Hid (IsSet sf) := hu.isSet
      have Qf : Hid (RngSrc w8 vf sf) := RngSrc.row ho
      clear hu ho
      have hs7 := hW7.size
      have hW8 : Below w.heap.size w w8 := hW7.trans (hB8.mono hs7)
      have Ra8 : Hid (RngSrc w8 va sa) := Ra7.out.below hB8
      have Rb8 : Hid (RngSrc w8 vb sb) := Rb7.out.below hB8
      have Rc8 : Hid (RngSrc w8 vc sc) := Rc7.out.below hB8
      have Rd8 : Hid (RngSrc w8 vd sd) := Rd7.out.below hB8
      clear Ra7 Rb7 Rc7 Rd7 hB8 hs7 hW7
      have Rf8 : Hid (RngSrc w8 vf sf) := Qf.out
      clear Qf
      go_wp2_with fail
      refine (and_any sa sd Sa.out Sd.out  _ _ w8 Ra8.out.rng Rd8.out.rng).mono ?_
      rintro e w9 ⟨sg, vg, rfl, hu, ho, hB9⟩
      have Ug : Hid (Upto (fun x => hasR sa x && hasR sd x) sg 1114112) := hu
      have Sg : Hid (IsSet sg) := hu.isSet
      have Qg : Hid (RngSrc w9 vg sg) := RngSrc.row ho
      clear hu ho
      have hs8 := hW8.size
      have hW9 : Below w.heap.size w w9 := hW8.trans (hB9.mono hs8)
      have Ra9 : Hid (RngSrc w9 va sa) := Ra8.out.below hB9
      have Rb9 : Hid (RngSrc w9 vb sb) := Rb8.out.below hB9
      have Rc9 : Hid (RngSrc w9 vc sc) := Rc8.out.below hB9
      have Rd9 : Hid (RngSrc w9 vd sd) := Rd8.out.below hB9
      have Rf9 : Hid (RngSrc w9 vf sf) := Rf8.out.below hB9
      clear Ra8 Rb8 Rc8 Rd8 Rf8 hB9 hs8 hW8
      have Rg9 : Hid (RngSrc w9 vg sg) := Qg.out
      clear Qg
      have E9 : Hid (sg = sf) := Upto.unique (Ug.out.congr (fun x h0 h1 => by rw [HD.out x h0 h1])) Uf.out
      have Y9 : Hid (RngSrc w9 vg sf) := by rw [← E9.out]; exact Rg9.out
      go_wp2_with fail
      refine (same_any sf (by have := Sf.out.len; omega) _ _ w9 Rf9.out.rng Y9.out.rng).mono ?_
      rintro e w10 ⟨rfl, hB10⟩
      clear E9 Y9
      have hs9 := hW9.size
      have hW10 : Below w.heap.size w w10 := hW9.trans (hB10.mono hs9)
      have Ra10 : Hid (RngSrc w10 va sa) := Ra9.out.below hB10
      have Rb10 : Hid (RngSrc w10 vb sb) := Rb9.out.below hB10
      have Rc10 : Hid (RngSrc w10 vc sc) := Rc9.out.below hB10
      have Rd10 : Hid (RngSrc w10 vd sd) := Rd9.out.below hB10
      have Rf10 : Hid (RngSrc w10 vf sf) := Rf9.out.below hB10
      have Rg10 : Hid (RngSrc w10 vg sg) := Rg9.out.below hB10
      clear Ra9 Rb9 Rc9 Rd9 Rf9 Rg9 hB10 hs9 hW9
      clear Rf10
      clear Rg10
      go_wp2_with fail
      refine (or_any sa sb Sa.out Sb.out  _ _ w10 Ra10.out.rng Rb10.out.rng).mono ?_
      rintro e w11 ⟨sh, vh, rfl, hu, ho, hB11⟩
      have Uh : Hid (Upto (fun x => hasR sa x || hasR sb x) sh 1114112) := hu
      have Sh : Hid (IsSet sh) := hu.isSet
      have Qh : Hid (RngSrc w11 vh sh) := RngSrc.row ho
      clear hu ho
      have hs10 := hW10.size
      have hW11 : Below w.heap.size w w11 := hW10.trans (hB11.mono hs10)
      have Ra11 : Hid (RngSrc w11 va sa) := Ra10.out.below hB11
      have Rb11 : Hid (RngSrc w11 vb sb) := Rb10.out.below hB11
      have Rc11 : Hid (RngSrc w11 vc sc) := Rc10.out.below hB11
      have Rd11 : Hid (RngSrc w11 vd sd) := Rd10.out.below hB11
      clear Ra10 Rb10 Rc10 Rd10 hB11 hs10 hW10
      have Rh11 : Hid (RngSrc w11 vh sh) := Qh.out
      clear Qh
      go_wp2_with fail
      refine (not_any sh Sh.out  _ w11 Rh11.out.rng).mono ?_
      rintro e w12 ⟨si, vi, rfl, hu, ho, hB12⟩
      have Ui : Hid (Upto (fun x => !hasR sh x) si 1114112) := hu
      have Si : Hid (IsSet si) := hu.isSet
      have Qi : Hid (RngSrc w12 vi si) := RngSrc.row ho
      clear hu ho
      have hs11 := hW11.size
      have hW12 : Below w.heap.size w w12 := hW11.trans (hB12.mono hs11)
      have Ra12 : Hid (RngSrc w12 va sa) := Ra11.out.below hB12
      have Rb12 : Hid (RngSrc w12 vb sb) := Rb11.out.below hB12
      have Rc12 : Hid (RngSrc w12 vc sc) := Rc11.out.below hB12
      have Rd12 : Hid (RngSrc w12 vd sd) := Rd11.out.below hB12
      have Rh12 : Hid (RngSrc w12 vh sh) := Rh11.out.below hB12
      clear Ra11 Rb11 Rc11 Rd11 Rh11 hB12 hs11 hW11
      have Ri12 : Hid (RngSrc w12 vi si) := Qi.out
      clear Qi
      have HH : Hid (∀ x, 0 ≤ x → x < 1114112 → hasR sh x = (hasR sa x || hasR sb x)) := fun x h0 h1 => Uh.out.has h0 h1
      clear Rh12
      go_wp2_with fail
      refine (and_any sc sd Sc.out Sd.out  _ _ w12 Rc12.out.rng Rd12.out.rng).mono ?_
      rintro e w13 ⟨sj, vj, rfl, hu, ho, hB13⟩
      have Uj : Hid (Upto (fun x => hasR sc x && hasR sd x) sj 1114112) := hu
      have Sj : Hid (IsSet sj) := hu.isSet
      have Qj : Hid (RngSrc w13 vj sj) := RngSrc.row ho
      clear hu ho
      have hs12 := hW12.size
      have hW13 : Below w.heap.size w w13 := hW12.trans (hB13.mono hs12)
      have Ra13 : Hid (RngSrc w13 va sa) := Ra12.out.below hB13
      have Rb13 : Hid (RngSrc w13 vb sb) := Rb12.out.below hB13
      have Rc13 : Hid (RngSrc w13 vc sc) := Rc12.out.below hB13
      have Rd13 : Hid (RngSrc w13 vd sd) := Rd12.out.below hB13
      have Ri13 : Hid (RngSrc w13 vi si) := Ri12.out.below hB13
      clear Ra12 Rb12 Rc12 Rd12 Ri12 hB13 hs12 hW12
      have Rj13 : Hid (RngSrc w13 vj sj) := Qj.out
      clear Qj
      have E13 : Hid (sj = si) := Upto.unique (Uj.out.congr (fun x h0 h1 => by rw [HC.out x h0 h1, HD.out x h0 h1])) (Ui.out.congr (fun x h0 h1 => by rw [HH.out x h0 h1, Bool.not_or]))
      have Y13 : Hid (RngSrc w13 vj si) := by rw [← E13.out]; exact Rj13.out
      go_wp2_with fail
      refine (same_any si (by have := Si.out.len; omega) _ _ w13 Ri13.out.rng Y13.out.rng).mono ?_
      rintro e w14 ⟨rfl, hB14⟩
      clear E13 Y13
      have hs13 := hW13.size
      have hW14 : Below w.heap.size w w14 := hW13.trans (hB14.mono hs13)
      have Ra14 : Hid (RngSrc w14 va sa) := Ra13.out.below hB14
      have Rb14 : Hid (RngSrc w14 vb sb) := Rb13.out.below hB14
      have Rc14 : Hid (RngSrc w14 vc sc) := Rc13.out.below hB14
      have Rd14 : Hid (RngSrc w14 vd sd) := Rd13.out.below hB14
      have Ri14 : Hid (RngSrc w14 vi si) := Ri13.out.below hB14
      have Rj14 : Hid (RngSrc w14 vj sj) := Rj13.out.below hB14
      clear Ra13 Rb13 Rc13 Rd13 Ri13 Rj13 hB14 hs13 hW13
      clear Ri14
      clear Rj14
      have HSUM : Hid (sumR sa + sumR sc = 1114112) := sum_not Sa.out.upto Uc.out
      have hb1 := sumR_bound Sa.out.upto sa.length
      have hb2 := sumR_bound Uc.out sc.length
      rw [List.take_length] at hb1 hb2
      go_wp2_with fail
      refine (count_any (hasR sa) sa Sa.out.upto _ w14 Ra14.out.rng).mono ?_
      rintro e w15 ⟨rfl, hB15⟩
      have hs14 := hW14.size
      have hW15 : Below w.heap.size w w15 := hW14.trans (hB15.mono hs14)
      have Ra15 : Hid (RngSrc w15 va sa) := Ra14.out.below hB15
      have Rb15 : Hid (RngSrc w15 vb sb) := Rb14.out.below hB15
      have Rc15 : Hid (RngSrc w15 vc sc) := Rc14.out.below hB15
      have Rd15 : Hid (RngSrc w15 vd sd) := Rd14.out.below hB15
      clear Ra14 Rb14 Rc14 Rd14 hB15 hs14 hW14
      go_wp2_with fail
      refine (count_any (fun x => !hasR sa x) sc Uc.out _ w15 Rc15.out.rng).mono ?_
      rintro e w16 ⟨rfl, hB16⟩
      have hs15 := hW15.size
      have hW16 : Below w.heap.size w w16 := hW15.trans (hB16.mono hs15)
      have Ra16 : Hid (RngSrc w16 va sa) := Ra15.out.below hB16
      have Rb16 : Hid (RngSrc w16 vb sb) := Rb15.out.below hB16
      have Rc16 : Hid (RngSrc w16 vc sc) := Rc15.out.below hB16
      have Rd16 : Hid (RngSrc w16 vd sd) := Rd15.out.below hB16
      clear Ra15 Rb15 Rc15 Rd15 hB16 hs15 hW15
      obtain ⟨t1, ht1⟩ : ∃ t, sumR sa = t := ⟨_, rfl⟩
      obtain ⟨t2, ht2⟩ : ∃ t, sumR sc = t := ⟨_, rfl⟩
      rw [ht1, ht2] at HSUM
      rw [ht1] at hb1 ⊢
      rw [ht2] at hb2 ⊢
      have hsum : (t1 + t2 == 1114112) = true := by rw [HSUM.out]; rfl
      clear ht1 ht2
      go_wp2_with fail
      refine (and_any sa sc Sa.out Sc.out  _ _ w16 Ra16.out.rng Rc16.out.rng).mono ?_
      rintro e w17 ⟨sk, vk, rfl, hu, ho, hB17⟩
      have Uk : Hid (Upto (fun x => hasR sa x && hasR sc x) sk 1114112) := hu
      have Sk : Hid (IsSet sk) := hu.isSet
      have Qk : Hid (RngSrc w17 vk sk) := RngSrc.row ho
      clear hu ho
      have hs16 := hW16.size
      have hW17 : Below w.heap.size w w17 := hW16.trans (hB17.mono hs16)
      have Ra17 : Hid (RngSrc w17 va sa) := Ra16.out.below hB17
      have Rb17 : Hid (RngSrc w17 vb sb) := Rb16.out.below hB17
      have Rc17 : Hid (RngSrc w17 vc sc) := Rc16.out.below hB17
      have Rd17 : Hid (RngSrc w17 vd sd) := Rd16.out.below hB17
      clear Ra16 Rb16 Rc16 Rd16 hB17 hs16 hW16
      have Rk17 : Hid (RngSrc w17 vk sk) := Qk.out
      clear Qk
      have Zk : Hid (sk = []) := by refine Upto.unique (Uk.out.congr (g := fun _ => false) (fun x h0 h1 => by rw [HC.out x h0 h1]; cases hasR sa x <;> rfl)) ⟨trivial, fun x => ?_⟩; exact (decide_eq_false (fun z => by cases z.2.2)).symm
      have Nk : Hid (RngSrc w17 vk []) := by rw [← Zk.out]; exact Rk17.out
      clear Rk17
      obtain ⟨adk, ck, rfl, _, _⟩ := Nk.out.1
      clear Nk
      simp only [List.length_nil]
      clear Ra17 Rb17 Rc17 Rd17
      go_wp2
      go_ret
      exact ⟨rfl, hW17⟩
end Go.Proofs.Ytmgbeglajpnicaa
