/-
  scansionlaw09.AlphabetWords walked: the masks of any numbers are the document's.
-/
import Derived.Test.YtmknifnhcgdkaaaX52
namespace Go.Proofs.Ytmknifnhcgdkaaa
open Go.RowKit Go.Shelf
set_option linter.unusedVariables false

set_option maxRecDepth 100000 in
set_option maxHeartbeats 16000000 in
theorem words_any (l : List (List Rg)) (v : Value) (r : List Int) (vr : Value) (w : World) (hv : StsIn w v l) (hr : IntsIn w vr r) :
    Calls Try.prog 4 #[v, vr] w fun e w' => e = .returned (.bool true) ∧ Below w.heap.size w w' := by
  have HV : Hid (StsIn w v l) := hv
  have HR : Hid (IntsIn w vr r) := hr
  obtain ⟨a, cap, rfl, _, _⟩ := hv
  obtain ⟨ar, capr, rfl, _, _⟩ := hr
  go_enter Try.func4, Try.ntmps4
  go_wp2_with fail
  refine (awake9_any w).mono ?_
  rintro e w1 ⟨rfl, hB1⟩
  have HB1 : Hid (Below w.heap.size w w1) := hB1
  have hs1 := hB1.size
  clear hB1
  go_wp2_with fail
  refine (few9_any l _ w1 (HV.out.below HB1.out)).mono ?_
  rintro e w2 ⟨b, rfl, hfew, rfl⟩
  cases b with
  | false =>
    clear hfew
    go_wp2
    go_ret
    exact ⟨rfl, HB1.out⟩
  | true =>
    have HF : Hid (FewS l) := hfew rfl
    clear hfew
    by_cases hrl : 300 < r.length
    · have hrl' : (300 : Int) < (r.length : Int) := by omega
      go_wp2
      go_ret
      exact ⟨rfl, HB1.out⟩
    have hrl' : ¬ ((300 : Int) < (r.length : Int)) := by omega
    have hr3 : r.length ≤ 300 := by omega
    go_wp2_with fail
    refine (sets9_any l _ w2 HF.out (HV.out.below HB1.out)).mono ?_
    rintro e w3 ⟨vT, T, rfl, hown, hmk, hB3⟩
    have hfl := hmk.flat HF.out
    have HN := new9_any T vT w3 (by omega) (fun s hs => by have := hfl.2.1 s hs; omega) (by omega) hown.sts
    obtain ⟨HT, HALL, HB3⟩ : Hid (StsIn w3 vT T) ∧ Hid (AllS T) ∧ Hid (Below w.heap.size w w3) := ⟨hown.sts, hmk.all, HB1.out.trans (hB3.mono hs1)⟩
    have herr := errN_all hmk.all
    have HT6 : Hid (∀ s ∈ T, s.length ≤ 601) := hfl.2.1
    have HTF : Hid (T.flatten.length ≤ 2501 ∧ T.length ≤ 101) := ⟨hfl.1, hfl.2.2⟩
    have hs3 := HB3.out.size
    obtain ⟨xs, hrow, _⟩ := hown
    obtain ⟨aT, capT, rfl⟩ := S3.slice_of_row hrow
    clear hrow hmk hB3 hfl
    unfold NewT at HN
    go_wp2_with fail
    refine HN.mono ?_
    rintro e w4 ⟨pa, rfl, ha1, ha2, hB4⟩
    clear HN
    have HM := rnew_any T _ w4 (by have := HTF.out.1; omega) (fun s hs => by have := HT6.out s hs; omega) (by have := HTF.out.2; omega) (HT.out.below hB4)
    have HB4 : Hid (Below w.heap.size w w4) := HB3.out.trans (hB4.mono hs3)
    have hs4 := HB4.out.size
    unfold RNewT at HM
    go_wp2_with fail
    refine HM.mono ?_
    rintro e w5 ⟨pb, rfl, hb1, hb2, hB5⟩
    clear HM
    have HB5 : Hid (Below w.heap.size w w5) := HB4.out.trans (hB5.mono hs4)
    have hs5 := HB5.out.size
    rcases herr with he | he
    · have hal := (ha2 he).below hB5
      obtain ⟨gb, vm, vl, rfl, hra⟩ := hb2 he
      have hrs : RAlS w5 (.pointer (some ⟨gb, 0, none⟩)) T := ⟨gb, _, vm, vl, rfl, hra, (HT.out.below hB4).below hB5⟩
      obtain ⟨ga, rfl⟩ := hal.ptr
      have hok := errN_ok he
      rw [he]
      have H1 := word9_any T _ r _ w5 hok.1 hr3 hal (HR.out.below HB5.out)
      have H2 : Hid (∀ W, Below w5.heap.size w5 W → Calls Try.prog 24 #[.pointer (some ⟨gb, 0, none⟩), .slice ar r.length capr] W fun e w' => ∃ v', e = .returned v' ∧ U64In w' v' (r.map (wrdN T)) ∧ Below W.heap.size W w') := fun W hW => rword_any T _ r _ W hok.2 (fun s hs => by have := HT6.out s hs; omega) hr3 (hrs.below hW) ((HR.out.below HB5.out).below hW)
      clear ha1 ha2 hb1 hb2 hB4 hB5 hal hrs hok hra he
      go_wp2_with fail
      refine H1.mono ?_
      rintro e w6 ⟨v6, rfl, hu6, hB6⟩
      clear H1
      have H3 := H2.out w6 hB6
      have hs6 := hB6.size
      have HB6 : Hid (Below w.heap.size w w6) := HB5.out.trans (hB6.mono hs5)
      have HU6 : Hid (U64In w6 v6 (r.map (wrdN T))) := hu6
      obtain ⟨a6, c6, rfl, _, _⟩ := hu6
      clear H2 hB6
      go_wp2_with fail
      refine H3.mono ?_
      rintro e w7 ⟨v7, rfl, hu7, hB7⟩
      clear H3
      have H4 := same64_any (r.map (wrdN T)) (by rw [List.length_map]; omega) _ v7 w7 (HU6.out.below hB7) hu7
      have HB7 : Hid (Below w.heap.size w w7) := HB6.out.trans (hB7.mono HB6.out.size)
      have hs7 := HB7.out.size
      obtain ⟨a7, c7, rfl, _, _⟩ := hu7
      rw [List.length_map] at H4 ⊢
      clear hB7
      go_wp2_with fail
      refine H4.mono ?_
      rintro e w8 ⟨rfl, m, rfl⟩
      clear H4
      go_wp2
      go_ret
      exact ⟨rfl, HB7.out.trans ((below_drewN' (Below.refl _ _) m).mono hs7)⟩
    · rw [he]
      obtain rfl := ha1 (by omega)
      obtain rfl := hb1 (by omega)
      clear ha1 ha2 hb1 hb2 hB4 hB5 he
      go_wp2
      go_ret
      exact ⟨rfl, HB5.out⟩
end Go.Proofs.Ytmknifnhcgdkaaa
