/-
  The law SyntaxBack.
-/
import Derived.Test.YtfdjchnckjgapaaGreatDoorX51
import Derived.Test.YtfdjchnckjgapaaGreatDoorX49
import Derived.Test.YtfdjchnckjgapaaGreatDoorX33
import Derived.Test.YtfdjchnckjgapaaGreatDoorX34
namespace Go.Proofs.YtfdjchnckjgapaaGreatDoor
open Go.RowKit Go.Shelf S1
set_option linter.unusedVariables false

theorem TxtB.bytes {w : World} {v : Value} {l : List Int} (h : TxtB w v l) : ∃ a cap, v = .slice a l.length cap ∧ BytesAt w.heap.size w (.slice a l.length cap) l := by
  obtain ⟨a, cap, rfl, hc, _, hi⟩ := h
  refine ⟨a, cap, rfl, ?_⟩
  cases l with
  | nil => exact .inl ⟨a, cap, rfl, rfl⟩
  | cons c l =>
    obtain ⟨g, off, rfl, hg, _⟩ := hi 0 (by simp)
    refine .inr ⟨g, off, cap, rfl, hc, hg, fun j hj => ?_⟩
    obtain ⟨g', off', e, _, h0⟩ := hi j hj
    cases e
    rw [h0, List.getElem?_eq_getElem hj]
    rfl

set_option maxRecDepth 100000 in
set_option maxHeartbeats 16000000 in
theorem law_back (st : Sts) (rl : List Rl) (sv rv : Value) (w : World) (hsv : SynV w) (hdb : DbV w) (h : SetSrc w sv st) (k : RulIn w rv rl) :
    Calls Tryz.prog 5 #[.agg #[sv, rv]] w fun e w' => e = .returned (.bool true) ∧ Below w.heap.size w w' := by
  have HSA : Hid (SetSrc w sv st) := h
  have HRA : Hid (RulIn w rv rl) := k
  have HDB : Hid (DbV w) := hdb
  have HSV : Hid (SynV w) := hsv
  obtain ⟨za, ca, rfl, hca, _⟩ := h
  obtain ⟨ya, da, rfl, hda, _⟩ := k
  obtain ⟨ns, hns⟩ : ∃ x, x = st.length := ⟨_, rfl⟩
  obtain ⟨nr, hnr⟩ : ∃ x, x = rl.length := ⟨_, rfl⟩
  have HNS : Hid (ns = st.length) := hns
  have HNR : Hid (nr = rl.length) := hnr
  rw [← hns] at HSA hca ⊢
  rw [← hnr] at HRA hda ⊢
  clear hns hnr
  have HB0 : Hid (Below w.heap.size w (w.alloc (.cells #[.slice za ns ca, .slice ya nr da] 27))) := below_alloc _ _
  have HE0 : Hid ((w.alloc (.cells #[.slice za ns ca, .slice ya nr da] 27)).heap[w.heap.size]? = some (.cells #[.slice za ns ca, .slice ya nr da] 27 (0, 0))) := heap_new' w _
  have haw := awake8_any (w.alloc (.cells #[.slice za ns ca, .slice ya nr da] 27)) (hsv.grown (World.grownBy_alloc _ _ none) (by simp))
  clear hsv hdb
  go_enter Tryz.func5, Tryz.ntmps5
  go_wp2_with fail
  refine haw.mono ?_
  rintro e w1 ⟨rfl, hB1⟩
  have HB01 : Hid (Below w.heap.size w w1) := below_after HB0.out hB1
  have HE1 : Hid (w1.heap[w.heap.size]? = some (.cells #[.slice za ns ca, .slice ya nr da] 27 (0, 0))) := (hB1.block _ (by simp)).trans HE0.out
  have hlt1 : w.heap.size < w1.heap.size := (Array.getElem?_eq_some_iff.1 HE1.out).1
  have d0 : w1.cell? ⟨w.heap.size, 0, none⟩ = some (.slice za ns ca) := cell_of_row _ _ 0 _ _ _ HE1.out
  have d1 : w1.cell? ⟨w.heap.size, 1, none⟩ = some (.slice ya nr da) := cell_of_row _ _ 1 _ _ _ HE1.out
  have hfw := few_any st rl (.slice za ns ca) (.slice ya nr da) w1 (HSA.out.in.below HB01.out) (HRA.out.below HB01.out)
  clear haw hB1
  go_wp2_with fail
  refine hfw.mono ?_
  rintro e w2 ⟨b, rfl, hbk, hB2⟩
  clear hfw d0 d1
  have HB02 : Hid (Below w.heap.size w w2) := below_after HB01.out hB2
  have HE2 : Hid (w2.heap[w.heap.size]? = some (.cells #[.slice za ns ca, .slice ya nr da] 27 (0, 0))) := (hB2.block _ hlt1).trans HE1.out
  clear hB2 hlt1
  cases b with
  | false =>
    clear hbk
    go_wp2
    go_ret
    exact ⟨rfl, HB02.out⟩
  | true =>
    have HOK : Hid (FewOk st rl) := hbk rfl
    have hlt2 : w.heap.size < w2.heap.size := (Array.getElem?_eq_some_iff.1 HE2.out).1
    have d0 : w2.cell? ⟨w.heap.size, 0, none⟩ = some (.slice za ns ca) := cell_of_row _ _ 0 _ _ _ HE2.out
    have d1 : w2.cell? ⟨w.heap.size, 1, none⟩ = some (.slice ya nr da) := cell_of_row _ _ 1 _ _ _ HE2.out
    have hpr := print_any8 st rl HOK.out (.slice za ns ca) (.slice ya nr da) w2 (HDB.out.below HB02.out HDB.out.2) (HSA.out.in.below HB02.out) (HRA.out.below HB02.out)
    clear hbk
    go_wp2_with fail
    refine hpr.mono ?_
    clear hpr
    rintro e w3 ⟨hB3, hcase⟩
    clear d0 d1
    have HB03 : Hid (Below w.heap.size w w3) := below_after HB02.out hB3
    have HE3 : Hid (w3.heap[w.heap.size]? = some (.cells #[.slice za ns ca, .slice ya nr da] 27 (0, 0))) := (hB3.block _ hlt2).trans HE2.out
    have hlt3 : w.heap.size < w3.heap.size := (Array.getElem?_eq_some_iff.1 HE3.out).1
    clear hB3 hlt2
    rcases hcase with ⟨hq, rfl⟩ | ⟨hq, tv, rfl, how⟩
    · clear hq
      go_wp2
      go_ret
      exact ⟨rfl, HB03.out⟩
    · have HQ : Hid (rightB st rl = true) := hq
      obtain ⟨ta, cap, htv, hI⟩ := (txtB_row how).bytes
      obtain ⟨zs, hzs⟩ : ∃ x, x = progT (st.map setL) rl := ⟨_, rfl⟩
      rw [← hzs] at htv hI
      subst htv
      have HA : Hid (∀ c ∈ zs, 0 ≤ c ∧ c < 128) := by rw [hzs]; exact progT_asc
      have HP : Hid (parseL (toksL zs.length (ascU 0 zs)) = .inr (rl, st)) := by
        show _ = _
        rw [hzs]
        exact back_parse HQ.out (fun x hx => ⟨(HOK.out.2.2.2 x hx).1.1, (HOK.out.2.2.2 x hx).2.1⟩) _
      have HI : Hid (BytesAt w3.heap.size w3 (.slice ta zs.length cap) zs) := hI
      clear hq how hzs hI
      by_cases hz : 60000 < zs.length
      · have hz' : decide (60000 < (zs.length : Int)) = true := by simp; omega
        clear hz
        go_wp2
        go_ret
        exact ⟨rfl, HB03.out⟩
      · have hz' : decide (60000 < (zs.length : Int)) = false := by simp; omega
        have hpp := parse_any8 zs (fun c hc => by have := HA.out c hc; omega) (by omega) (ascU 0 zs) (run_ascii HA.out) ta cap w3 (HSV.out.grown (grownR_below HB03.out none) (by simp)) HI.out
        rw [HP.out] at hpp
        have HWD : Hid (∀ x ∈ rl, WdR x) := parseL_wd (run_ascii HA.out) (by omega) HP.out
        clear hz
        go_wp2_with fail
        refine hpp.mono ?_
        clear hpp
        rintro e w4 ⟨hB4, (⟨a, x, hqe, _⟩ | ⟨rs, st', sv', rv', hqe, rfl, hpg⟩)⟩
        · cases hqe
        · obtain ⟨e1, e2⟩ := Prod.mk.inj (Sum.inr.inj hqe)
          subst e2
          have HSI : Hid (SetIn w4 sv' st) := hpg.sets
          have HRI : Hid (RulIn w4 rv' rl) := by rw [e1]; exact hpg.rules
          obtain ⟨sa, sc, hsv', _⟩ := HSI.out
          obtain ⟨ra, rc, hrv', _⟩ := HRI.out
          rw [← HNS.out] at hsv'
          rw [← HNR.out] at hrv'
          subst hsv' hrv'
          have HB05 : Hid (Below w.heap.size w (w4.alloc (.cells #[.slice sa ns sc, .slice ra nr rc] 27))) := below_after (below_after HB03.out hB4) (below_alloc _ _)
          have hB45 := below_alloc w4 (.cells #[.slice sa ns sc, .slice ra nr rc] 27)
          have h4 : w4.heap[w.heap.size]? = some (.cells #[.slice za ns ca, .slice ya nr da] 27 (0, 0)) := (hB4.block _ hlt3).trans HE3.out
          have hlt : w.heap.size < w4.heap.size := (Array.getElem?_eq_some_iff.1 h4).1
          have d0 : w4.cell? ⟨w.heap.size, 0, none⟩ = some (.slice za ns ca) := cell_of_row _ _ 0 _ _ _ h4
          have d1 : w4.cell? ⟨w.heap.size, 1, none⟩ = some (.slice ya nr da) := cell_of_row _ _ 1 _ _ _ h4
          have hl1 := HOK.out.1
          have hl2 := HOK.out.2.1
          have hsm := same_any8 rl st (by omega) (by omega) (fun s hs => by have := HOK.out.2.2.1 s hs; omega) HWD.out (.slice za ns ca) (.slice ya nr da) (.slice sa ns sc) (.slice ra nr rc) (w4.alloc (.cells #[.slice sa ns sc, .slice ra nr rc] 27)) (HSA.out.in.below HB05.out) (HSI.out.below hB45) (HRA.out.below HB05.out) (HRI.out.below hB45)
          clear hqe hpg e1 hB4 hB45 h4 hl1 hl2 hlt3
          go_wp2_with fail
          refine hsm.mono ?_
          rintro e w6 ⟨rfl, hB6⟩
          clear hsm
          go_wp2
          go_ret
          exact ⟨rfl, below_after HB05.out hB6⟩
end Go.Proofs.YtfdjchnckjgapaaGreatDoor
