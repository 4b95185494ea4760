/-
  The law RangesJoins: true, for all ranges.
-/
import Derived.Test.YtmgbeglajpnicaaLaw
namespace Go.Proofs.Ytmgbeglajpnicaa
open Go.RowKit
set_option linter.unusedVariables false

set_option maxRecDepth 100000 in
set_option maxHeartbeats 8000000 in
theorem rangesJoins_any (l : List Rg) (v : Value) (m : List Rg) (u : Value) (w : World) (hv : RngSrc w v l) (hbig : l.length * 16 ≤ 140737488355328) (hv2 : RngSrc w u m) (hbig2 : m.length * 16 ≤ 140737488355328) :
    Calls Try.prog 4 #[v, u] w fun e w' => e = .returned (.bool true) ∧ Below w.heap.size w w' := by
  have HV : Hid (RngSrc w v l) := hv
  have HV2 : Hid (RngSrc w u m) := hv2
  obtain ⟨a, cap, rfl, hc, _⟩ := hv.1
  obtain ⟨a2, cap2, rfl, hc2, _⟩ := hv2.1
  clear hv hv2
  go_enter Try.func4, Try.ntmps4
  go_wp2_with fail
  refine (awake_any w).mono ?_
  rintro e w1 ⟨rfl, hB1⟩
  have hs1 := hB1.size
  go_wp2_with fail
  refine (set_any l _ w1 (HV.out.below hB1)).mono ?_
  rintro e w2 ⟨h, hB2⟩
  have hW2 : Below w.heap.size w w2 := hB1.trans (hB2.mono hs1)
  have hs2 := hW2.size
  rcases h with ⟨v1, rfl⟩ | ⟨sa, va, sA, lA, rfl, rA⟩
  · go_wp2_with fail
    refine (set_any m _ w2 (HV2.out.below hW2)).mono ?_
    rintro e w3 ⟨h, hB3⟩
    have hW3 : Below w.heap.size w w3 := hW2.trans (hB3.mono hs2)
    rcases h with ⟨v2, rfl⟩ | ⟨sb, vb, sB, lB, rfl, rB⟩
    · go_wp2
      go_ret
      exact ⟨rfl, hW3⟩
    · clear rB
      go_wp2
      go_ret
      exact ⟨rfl, hW3⟩
  · have Sa : Hid (IsSet sa) := sA
    have La : Hid (sa.length ≤ 100) := lA
    have Ra2 : Hid (RngSrc w2 va sa) := rA
    clear sA lA rA
    go_wp2_with fail
    refine (set_any m _ w2 (HV2.out.below hW2)).mono ?_
    rintro e w3 ⟨h, hB3⟩
    have hW3 : Below w.heap.size w w3 := hW2.trans (hB3.mono hs2)
    rcases h with ⟨v2, rfl⟩ | ⟨sb, vb, sB, lB, rfl, rB⟩
    · clear Ra2
      go_wp2
      go_ret
      exact ⟨rfl, hW3⟩
    · have Sb : Hid (IsSet sb) := sB
      have Lb : Hid (sb.length ≤ 100) := lB
      have Rb3 : Hid (RngSrc w3 vb sb) := rB
      have Ra3 : Hid (RngSrc w3 va sa) := Ra2.out.below hB3
      clear sB lB rB Ra2 hB1 hB2 hB3 hs1 hs2 hW2 HV HV2
      go_wp2_with fail
      refine (or_any sa sb Sa.out Sb.out  _ _ w3 Ra3.out.rng Rb3.out.rng).mono ?_
      rintro e w4 ⟨sor1, vor1, rfl, hu, ho, hB4⟩
      have Uor1 : Hid (Upto (fun x => hasR sa x || hasR sb x) sor1 1114112) := hu
      have Sor1 : Hid (IsSet sor1) := hu.isSet
      have Qor1 : Hid (RngSrc w4 vor1 sor1) := RngSrc.row ho
      clear hu ho
      have hs3 := hW3.size
      have hW4 : Below w.heap.size w w4 := hW3.trans (hB4.mono hs3)
      have Ra4 : Hid (RngSrc w4 va sa) := Ra3.out.below hB4
      have Rb4 : Hid (RngSrc w4 vb sb) := Rb3.out.below hB4
      clear Ra3 Rb3 hB4 hs3 hW3
      have Ror14 : Hid (RngSrc w4 vor1 sor1) := Qor1.out
      clear Qor1
      go_wp2_with fail
      refine (refOr_any sa sb Sa.out Sb.out La.out Lb.out _ _ w4 Ra4.out Rb4.out).mono ?_
      rintro e w5 ⟨sor2, vor2, rfl, hu, ho, hB5⟩
      have Uor2 : Hid (Upto (fun x => hasR sa x || hasR sb x) sor2 1114112) := hu
      have Sor2 : Hid (IsSet sor2) := hu.isSet
      have Qor2 : Hid (RngSrc w5 vor2 sor2) := RngSrc.row ho
      clear hu ho
      have hs4 := hW4.size
      have hW5 : Below w.heap.size w w5 := hW4.trans (hB5.mono hs4)
      have Ra5 : Hid (RngSrc w5 va sa) := Ra4.out.below hB5
      have Rb5 : Hid (RngSrc w5 vb sb) := Rb4.out.below hB5
      have Ror15 : Hid (RngSrc w5 vor1 sor1) := Ror14.out.below hB5
      clear Ra4 Rb4 Ror14 hB5 hs4 hW4
      have Ror25 : Hid (RngSrc w5 vor2 sor2) := Qor2.out
      clear Qor2
      have E5 : Hid (sor2 = sor1) := Upto.unique Uor2.out Uor1.out
      have Y5 : Hid (RngSrc w5 vor2 sor1) := by rw [← E5.out]; exact Ror25.out
      go_wp2_with fail
      refine (same_any sor1 (by have := Sor1.out.len; omega) _ _ w5 Ror15.out.rng Y5.out.rng).mono ?_
      rintro e w6 ⟨rfl, hB6⟩
      clear E5 Y5
      have hs5 := hW5.size
      have hW6 : Below w.heap.size w w6 := hW5.trans (hB6.mono hs5)
      have Ra6 : Hid (RngSrc w6 va sa) := Ra5.out.below hB6
      have Rb6 : Hid (RngSrc w6 vb sb) := Rb5.out.below hB6
      have Ror16 : Hid (RngSrc w6 vor1 sor1) := Ror15.out.below hB6
      have Ror26 : Hid (RngSrc w6 vor2 sor2) := Ror25.out.below hB6
      clear Ra5 Rb5 Ror15 Ror25 hB6 hs5 hW5
      clear Ror16
      clear Ror26
      go_wp2_with fail
      refine (and_any sa sb Sa.out Sb.out  _ _ w6 Ra6.out.rng Rb6.out.rng).mono ?_
      rintro e w7 ⟨sand1, vand1, rfl, hu, ho, hB7⟩
      have Uand1 : Hid (Upto (fun x => hasR sa x && hasR sb x) sand1 1114112) := hu
      have Sand1 : Hid (IsSet sand1) := hu.isSet
      have Qand1 : Hid (RngSrc w7 vand1 sand1) := RngSrc.row ho
      clear hu ho
      have hs6 := hW6.size
      have hW7 : Below w.heap.size w w7 := hW6.trans (hB7.mono hs6)
      have Ra7 : Hid (RngSrc w7 va sa) := Ra6.out.below hB7
      have Rb7 : Hid (RngSrc w7 vb sb) := Rb6.out.below hB7
      clear Ra6 Rb6 hB7 hs6 hW6
      have Rand17 : Hid (RngSrc w7 vand1 sand1) := Qand1.out
      clear Qand1
      go_wp2_with fail
      refine (refAnd_any sa sb Sa.out Sb.out La.out Lb.out _ _ w7 Ra7.out Rb7.out).mono ?_
      rintro e w8 ⟨sand2, vand2, rfl, hu, ho, hB8⟩
      have Uand2 : Hid (Upto (fun x => hasR sa x && hasR sb x) sand2 1114112) := hu
      have Sand2 : Hid (IsSet sand2) := hu.isSet
      have Qand2 : Hid (RngSrc w8 vand2 sand2) := RngSrc.row ho
      clear hu ho
      have hs7 := hW7.size
      have hW8 : Below w.heap.size w w8 := hW7.trans (hB8.mono hs7)
      have Ra8 : Hid (RngSrc w8 va sa) := Ra7.out.below hB8
      have Rb8 : Hid (RngSrc w8 vb sb) := Rb7.out.below hB8
      have Rand18 : Hid (RngSrc w8 vand1 sand1) := Rand17.out.below hB8
      clear Ra7 Rb7 Rand17 hB8 hs7 hW7
      have Rand28 : Hid (RngSrc w8 vand2 sand2) := Qand2.out
      clear Qand2
      have E8 : Hid (sand2 = sand1) := Upto.unique Uand2.out Uand1.out
      have Y8 : Hid (RngSrc w8 vand2 sand1) := by rw [← E8.out]; exact Rand28.out
      go_wp2_with fail
      refine (same_any sand1 (by have := Sand1.out.len; omega) _ _ w8 Rand18.out.rng Y8.out.rng).mono ?_
      rintro e w9 ⟨rfl, hB9⟩
      clear E8 Y8
      have hs8 := hW8.size
      have hW9 : Below w.heap.size w w9 := hW8.trans (hB9.mono hs8)
      have Ra9 : Hid (RngSrc w9 va sa) := Ra8.out.below hB9
      have Rb9 : Hid (RngSrc w9 vb sb) := Rb8.out.below hB9
      have Rand19 : Hid (RngSrc w9 vand1 sand1) := Rand18.out.below hB9
      have Rand29 : Hid (RngSrc w9 vand2 sand2) := Rand28.out.below hB9
      clear Ra8 Rb8 Rand18 Rand28 hB9 hs8 hW8
      clear Rand19
      clear Rand29
      go_wp2_with fail
      refine (less_any sa sb Sa.out Sb.out  _ _ w9 Ra9.out.rng Rb9.out.rng).mono ?_
      rintro e w10 ⟨sless1, vless1, rfl, hu, ho, hB10⟩
      have Uless1 : Hid (Upto (fun x => hasR sa x && !hasR sb x) sless1 1114112) := hu
      have Sless1 : Hid (IsSet sless1) := hu.isSet
      have Qless1 : Hid (RngSrc w10 vless1 sless1) := RngSrc.row ho
      clear hu ho
      have hs9 := hW9.size
      have hW10 : Below w.heap.size w w10 := hW9.trans (hB10.mono hs9)
      have Ra10 : Hid (RngSrc w10 va sa) := Ra9.out.below hB10
      have Rb10 : Hid (RngSrc w10 vb sb) := Rb9.out.below hB10
      clear Ra9 Rb9 hB10 hs9 hW9
      have Rless110 : Hid (RngSrc w10 vless1 sless1) := Qless1.out
      clear Qless1
      go_wp2_with fail
      refine (refLess_any sa sb Sa.out Sb.out La.out Lb.out _ _ w10 Ra10.out Rb10.out).mono ?_
      rintro e w11 ⟨sless2, vless2, rfl, hu, ho, hB11⟩
      have Uless2 : Hid (Upto (fun x => hasR sa x && !hasR sb x) sless2 1114112) := hu
      have Sless2 : Hid (IsSet sless2) := hu.isSet
      have Qless2 : Hid (RngSrc w11 vless2 sless2) := RngSrc.row ho
      clear hu ho
      have hs10 := hW10.size
      have hW11 : Below w.heap.size w w11 := hW10.trans (hB11.mono hs10)
      have Ra11 : Hid (RngSrc w11 va sa) := Ra10.out.below hB11
      have Rb11 : Hid (RngSrc w11 vb sb) := Rb10.out.below hB11
      have Rless111 : Hid (RngSrc w11 vless1 sless1) := Rless110.out.below hB11
      clear Ra10 Rb10 Rless110 hB11 hs10 hW10
      have Rless211 : Hid (RngSrc w11 vless2 sless2) := Qless2.out
      clear Qless2
      have E11 : Hid (sless2 = sless1) := Upto.unique Uless2.out Uless1.out
      have Y11 : Hid (RngSrc w11 vless2 sless1) := by rw [← E11.out]; exact Rless211.out
      go_wp2_with fail
      refine (same_any sless1 (by have := Sless1.out.len; omega) _ _ w11 Rless111.out.rng Y11.out.rng).mono ?_
      rintro e w12 ⟨rfl, hB12⟩
      clear E11 Y11
      have hs11 := hW11.size
      have hW12 : Below w.heap.size w w12 := hW11.trans (hB12.mono hs11)
      have Ra12 : Hid (RngSrc w12 va sa) := Ra11.out.below hB12
      have Rb12 : Hid (RngSrc w12 vb sb) := Rb11.out.below hB12
      have Rless112 : Hid (RngSrc w12 vless1 sless1) := Rless111.out.below hB12
      have Rless212 : Hid (RngSrc w12 vless2 sless2) := Rless211.out.below hB12
      clear Ra11 Rb11 Rless111 Rless211 hB12 hs11 hW11
      clear Rless112
      clear Rless212
      go_wp2_with fail
      refine (not_any sa Sa.out  _ w12 Ra12.out.rng).mono ?_
      rintro e w13 ⟨snot1, vnot1, rfl, hu, ho, hB13⟩
      have Unot1 : Hid (Upto (fun x => !hasR sa x) snot1 1114112) := hu
      have Snot1 : Hid (IsSet snot1) := hu.isSet
      have Qnot1 : Hid (RngSrc w13 vnot1 snot1) := RngSrc.row ho
      clear hu ho
      have hs12 := hW12.size
      have hW13 : Below w.heap.size w w13 := hW12.trans (hB13.mono hs12)
      have Ra13 : Hid (RngSrc w13 va sa) := Ra12.out.below hB13
      have Rb13 : Hid (RngSrc w13 vb sb) := Rb12.out.below hB13
      clear Ra12 Rb12 hB13 hs12 hW12
      have Rnot113 : Hid (RngSrc w13 vnot1 snot1) := Qnot1.out
      clear Qnot1
      go_wp2_with fail
      refine (refNot_any sa Sa.out La.out _ w13 Ra13.out).mono ?_
      rintro e w14 ⟨snot2, vnot2, rfl, hu, ho, hB14⟩
      have Unot2 : Hid (Upto (fun x => !hasR sa x) snot2 1114112) := hu
      have Snot2 : Hid (IsSet snot2) := hu.isSet
      have Qnot2 : Hid (RngSrc w14 vnot2 snot2) := RngSrc.row ho
      clear hu ho
      have hs13 := hW13.size
      have hW14 : Below w.heap.size w w14 := hW13.trans (hB14.mono hs13)
      have Ra14 : Hid (RngSrc w14 va sa) := Ra13.out.below hB14
      have Rb14 : Hid (RngSrc w14 vb sb) := Rb13.out.below hB14
      have Rnot114 : Hid (RngSrc w14 vnot1 snot1) := Rnot113.out.below hB14
      clear Ra13 Rb13 Rnot113 hB14 hs13 hW13
      have Rnot214 : Hid (RngSrc w14 vnot2 snot2) := Qnot2.out
      clear Qnot2
      have E14 : Hid (snot2 = snot1) := Upto.unique Unot2.out Unot1.out
      have Y14 : Hid (RngSrc w14 vnot2 snot1) := by rw [← E14.out]; exact Rnot214.out
      go_wp2_with fail
      refine (same_any snot1 (by have := Snot1.out.len; omega) _ _ w14 Rnot114.out.rng Y14.out.rng).mono ?_
      rintro e w15 ⟨rfl, hB15⟩
      clear E14 Y14
      have hs14 := hW14.size
      have hW15 : Below w.heap.size w w15 := hW14.trans (hB15.mono hs14)
      have Ra15 : Hid (RngSrc w15 va sa) := Ra14.out.below hB15
      have Rb15 : Hid (RngSrc w15 vb sb) := Rb14.out.below hB15
      have Rnot115 : Hid (RngSrc w15 vnot1 snot1) := Rnot114.out.below hB15
      have Rnot215 : Hid (RngSrc w15 vnot2 snot2) := Rnot214.out.below hB15
      clear Ra14 Rb14 Rnot114 Rnot214 hB15 hs14 hW14
      clear Rnot115
      clear Rnot215
      clear Ra15 Rb15
      go_wp2
      go_ret
      exact ⟨rfl, hW15⟩
end Go.Proofs.Ytmgbeglajpnicaa
