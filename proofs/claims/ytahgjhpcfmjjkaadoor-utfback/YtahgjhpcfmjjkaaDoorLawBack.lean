/-
  The law UtfBack: true, for all ints.
-/
import Derived.Test.YtahgjhpcfmjjkaaDoorLawRunes
import Derived.Test.YtahgjhpcfmjjkaaDoorBack
namespace Go.Proofs.YtahgjhpcfmjjkaaDoor
open Go.RowKit
set_option linter.unusedVariables false

theorem allR_mem {l : List Int} (h : allR l = true) : ∀ r ∈ l, isR r = true := by
  unfold allR at h
  exact List.all_eq_true.1 h
theorem byt_text {l : List Int} (h : allR l = true) : Byt (textL l) := by
  intro c hc
  unfold textL at hc
  obtain ⟨r, hr, hcr⟩ := List.mem_flatMap.1 hc
  exact encR_byte (allR_mem h r hr) c hcr

/-- Bytes that are told, as bytes that may be handed on. -/
theorem Told.form {w : World} {base : Nat} {v : Value} {l : List Int} (h : Told w base v l) : ∃ a cap, v = .slice a l.length cap ∧ BytesAt w.heap.size w v l := by
  rcases h.2 with ⟨rfl, h0⟩ | ⟨g, cap, cur, rfl, hb, hg, hc, hm, hs, ht⟩
  · obtain rfl : l = [] := List.length_eq_zero_iff.1 h0
    exact ⟨none, 0, rfl, .inl ⟨none, 0, rfl, rfl⟩⟩
  · refine ⟨_, cap, rfl, .inr ⟨g, 0, cap, rfl, hc, (Array.getElem?_eq_some_iff.1 hg).1, fun j hj => ?_⟩⟩
    have := World.ownsRow.cells h (g := g) rfl j (.int .u8 (l[j]?.getD 0)) (by simp [hj])
    have hp : (⟨g, 0, none⟩ : Addr).add j = ⟨g, 0 + j, none⟩ := by unfold Addr.add; split <;> simp_all
    rw [hp] at this
    exact this

set_option maxHeartbeats 1000000 in
theorem utfBack_any (b : Option Addr) (len2 cap2 : Nat) (ys : List Int) (w : World) (hy : IsRow .i64 w b len2 cap2 ys) (hm : Marks w) (h1 : 1 ≤ w.heap.size) :
    Calls Tryd.prog 8 #[.slice b len2 cap2] w fun e w' => e = .returned (.bool true) ∧ Below w.heap.size w w' := by
  obtain ⟨r, hr, hJ⟩ := hy.ints
  by_cases hlen2 : len2 ≤ 2000
  · have h6 : (len2 : Int) ≤ 2000 := by omega
    go_enter Tryd.func8, Tryd.ntmps8
    go_wp2_with fail
    refine (awake_any w hm h1).mono ?_
    rintro e w1 ⟨rfl, hB1⟩
    have hs1 := hB1.size
    go_wp2_with fail
    refine (text_any r (by omega) _ w1 (hm.below hB1 h1) (by omega) (hJ.below hB1)).mono ?_
    rintro e w2 ⟨v2, rfl, ho2, hB2⟩
    have hs2 := hB2.size
    have hB12 : Below w.heap.size w w2 := hB1.trans (hB2.mono hs1)
    obtain ⟨av, cv, rfl, hI2⟩ := ho2.form
    by_cases hall : allR r = true
    · have e1 : textE r = 0 := by simp [textE, hall]
      have e2 : textT r = textL r := by simp [textT, hall]
      have htl := textL_le r
      have hback := fun us h => Run.back r (allR_mem hall) (us := us) h
      have hbt := byt_text hall
      rw [e2] at hI2 ⊢
      rw [e1]
      have HB : Hid (∀ us, Run (textL r) 0 us (textL r).length → us.map U.r = r ∧ ∀ u ∈ us, u.bad = false) := hback
      clear e1 e2 ho2 hall hback
      go_wp2_with fail
      refine (valid_any (textL r) hbt (by omega) av (textL r).length cv w2 hI2).mono ?_
      rintro e w3 ⟨us3, rfl, hr3, hB3⟩
      have hs3 := hB3.size
      have hI3 := hI2.later hB3
      have hg : allGood us3 = true := allGood_true (HB.out us3 hr3).2
      rw [hg]
      have HR : Hid (us3.map U.r = r) := (HB.out us3 hr3).1
      clear hg
      go_wp2_with fail
      refine (runes_any (textL r) hbt (by omega) av (textL r).length cv w3 hI3).mono ?_
      rintro e w4 ⟨v4, us4, rfl, hr4, ho4, hB4⟩
      have hs4 := hB4.size
      obtain rfl : us3 = us4 := Run.unique hr3 hr4
      have hB14 : Below w.heap.size w w4 := (hB12.trans (hB3.mono (by omega))).trans (hB4.mono (by omega))
      have hi4 := ints_of_runes ho4
      rw [HR.out] at hi4
      go_wp2_with fail
      refine (sameInts_any r (by omega) v4 _ w4 hi4 (hJ.below hB14)).mono ?_
      rintro e w5 ⟨rfl, hB5⟩
      have hBz : Below w.heap.size w w5 := hB14.trans (hB5.mono (by omega))
      clear hI2 hI3 ho4 hB1 hB2 hB3 hB4 hB5 hB12 hB14 hm hJ hi4 hr3 hr4 hbt
      go_wp2
      go_ret
      exact ⟨rfl, hBz⟩
    · have e1 : textE r = 1 := by simp [textE, hall]
      have e2 : textT r = [] := by simp [textT, hall]
      rw [e1, e2]
      clear hI2 ho2 hJ hm hall e1 e2
      go_wp2
      go_ret
      exact ⟨rfl, hB12⟩
  · have h6 : ¬ (len2 : Int) ≤ 2000 := by omega
    go_enter Tryd.func8, Tryd.ntmps8
    go_wp2_with fail
    refine (awake_any w hm h1).mono ?_
    rintro e w1 ⟨rfl, hB1⟩
    clear hJ
    go_wp2
    go_ret
    exact ⟨rfl, hB1⟩
end Go.Proofs.YtahgjhpcfmjjkaaDoor
