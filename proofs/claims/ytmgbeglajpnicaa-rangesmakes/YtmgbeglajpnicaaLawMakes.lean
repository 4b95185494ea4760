/-
  The law RangesMakes: true, for all ranges.
-/
import Derived.Test.YtmgbeglajpnicaaLaw
namespace Go.Proofs.Ytmgbeglajpnicaa
open Go.RowKit
set_option linter.unusedVariables false

set_option maxHeartbeats 4000000 in
theorem rangesMakes_any (l : List Rg) (v : Value) (w : World) (hv : RngSrc w v l) (hbig : l.length * 16 ≤ 140737488355328) :
    Calls Try.prog 3 #[v] w fun e w' => e = .returned (.bool true) ∧ Below w.heap.size w w' := by
  have HV : Hid (RngSrc w v l) := hv
  obtain ⟨a, cap, rfl, hc, _⟩ := hv.1
  clear hv
  by_cases hlen : l.length ≤ 60
  · have h6 : ¬ (60 : Int) < (l.length : Int) := by omega
    have h6' : decide ((60 : Int) < (l.length : Int)) = false := by simpa using h6
    go_enter Try.func3, Try.ntmps3
    go_wp2_with fail
    refine (awake_any w).mono ?_
    rintro e w1 ⟨rfl, hB1⟩
    have hs1 := hB1.size
    go_wp2_with fail
    refine (make_any l _ w1 (by omega) (HV.out.1.below hB1)).mono ?_
    rintro e w2 ⟨h, hB2⟩
    have hs2 := hB2.size
    have hB12 : Below w.heap.size w w2 := hB1.trans (hB2.mono hs1)
    rcases h with ⟨hnf, rfl⟩ | ⟨hf, s, v2, hu, _, rfl, ho⟩
    · have HNF : Hid (¬ Fits l) := hnf
      clear hnf
      go_wp2_with fail
      refine (refMake_any l _ w2 hlen (HV.out.below hB12)).mono ?_
      rintro e w3 ⟨h, hB3⟩
      have hB13 : Below w.heap.size w w3 := hB12.trans (hB3.mono (by omega))
      rcases h with ⟨_, rfl⟩ | ⟨hf, _⟩
      · go_wp2_with fail
        refine (same_any [] (by simp) _ _ w3 (RngAt.nil _ _) (RngAt.nil _ _)).mono ?_
        rintro e w4 ⟨rfl, hB4⟩
        have hB14 : Below w.heap.size w w4 := hB13.trans (hB4.mono (by have := hB13.size; omega))
        go_wp2
        go_ret
        exact ⟨rfl, hB14⟩
      · exact absurd hf HNF.out
    · have HF : Hid (Fits l) := hf
      have HU : Hid (Upto (hasR l) s 1114112) := hu
      have HR : Hid (RngIn w2 v2 s) := rng_of_row ho
      clear hf hu ho
      go_wp2_with fail
      refine (refMake_any l _ w2 hlen (HV.out.below hB12)).mono ?_
      rintro e w3 ⟨h, hB3⟩
      have hB13 : Below w.heap.size w w3 := hB12.trans (hB3.mono (by omega))
      rcases h with ⟨hnf, _⟩ | ⟨_, s', v3, hu', rfl, ho'⟩
      · exact absurd HF.out hnf
      · obtain rfl : s' = s := Upto.unique hu' HU.out
        have HR3 : Hid (RngIn w3 v3 s') := rng_of_row ho'
        clear hu' ho'
        go_wp2_with fail
        refine (same_any s' (by have := HU.out.isSet.len; omega) _ _ w3 (HR.out.below hB3) HR3.out).mono ?_
        rintro e w4 ⟨rfl, hB4⟩
        have hB14 : Below w.heap.size w w4 := hB13.trans (hB4.mono (by have := hB13.size; omega))
        go_wp2
        go_ret
        exact ⟨rfl, hB14⟩
  · have h6 : (60 : Int) < (l.length : Int) := by omega
    go_enter Try.func3, Try.ntmps3
    go_wp2_with fail
    refine (awake_any w).mono ?_
    rintro e w1 ⟨rfl, hB1⟩
    go_wp2
    go_ret
    exact ⟨rfl, hB1⟩
end Go.Proofs.Ytmgbeglajpnicaa
