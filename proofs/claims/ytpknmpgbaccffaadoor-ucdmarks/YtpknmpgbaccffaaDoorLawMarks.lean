/-
  The law UcdMarks: true, for every number.
-/
import Derived.Test.YtpknmpgbaccffaaDoorAwakeU
import Derived.Test.YtpknmpgbaccffaaDoorFacts
namespace Go.Proofs.YtpknmpgbaccffaaDoor
open Go.RowKit
set_option linter.unusedVariables false

set_option maxRecDepth 100000 in
set_option maxHeartbeats 8000000 in
theorem ucdMarks_any (r : Int) (w : World) (hs : Scripts w) (h0 : 0 < w.heap.size) :
    Calls Tryd.prog 8 #[.int .i64 r] w fun e w' => e = .returned (.bool true) ∧ Below w.heap.size w w' := by
  have HS : Hid (Scripts w) := hs
  have HH0 : Hid (0 < w.heap.size) := h0
  clear hs h0
  go_enter Tryd.func8, Tryd.ntmps8
  go_wp2_with fail
  refine (awake_u w HS.out HH0.out).mono ?_
  rintro e w0 ⟨rfl, hB0⟩
  have HB0 : Hid (Below w.heap.size w w0) := hB0
  have HS0 : Hid (Scripts w0 ∧ 0 < w0.heap.size) := ⟨HS.out.below HH0.out hB0, by have := HH0.out; have := hB0.size; omega⟩
  clear hB0
  go_wp2_with fail
  refine (new_ship w0 HS0.out.1 HS0.out.2).mono ?_
  rintro e w1 ⟨g, rfl, hd, hB1⟩
  obtain ⟨HD1, HB1⟩ : Hid (Ship w1 g) ∧ Hid (Below w.heap.size w w1) := ⟨hd, HB0.out.trans (hB1.mono HB0.out.size)⟩
  clear hd hB1
  go_wp2_with fail
  refine (ship_cluster w1 g r HD1.out).mono ?_
  rintro e w2 ⟨rfl, hB2⟩
  obtain ⟨HD2, HB2⟩ : Hid (Ship w2 g) ∧ Hid (Below w.heap.size w w2) := ⟨HD1.out.below hB2, HB1.out.trans (hB2.mono HB1.out.size)⟩
  clear hB2
  obtain ⟨c, hc⟩ : ∃ c, c = clV r := ⟨_, rfl⟩
  have HWB : Hid (0 ≤ valP wdR r ∧ valP wdR r ≤ 18) := wd_small r
  have HNF : Hid (valP scR r ≠ 0 → valP wdR r ≠ 16 ∧ valP wdR r ≠ 18) := no_figure r
  have HM : Hid (c = 4 → valP wdR r = 4) := fun e => by
    rw [hc] at e
    unfold clV at e
    split at e
    · split at e <;> omega
    · exact marks_are r e
  rw [← hc]
  clear hc
  obtain ⟨x, hx⟩ : ∃ x, x = valP wdR r := ⟨_, rfl⟩
  obtain ⟨s, hsv⟩ : ∃ s, s = valP scR r := ⟨_, rfl⟩
  have HX : Hid (x = valP wdR r) := hx
  have HSV : Hid (s = valP scR r) := hsv
  rw [← hx] at HWB HNF HM
  rw [← hsv] at HNF
  clear hx hsv
  by_cases c4 : c = 4
  · have x4 := HM.out c4
    have HX4 : Hid (valP wdR r = 4) := by show _ = _; rw [← HX.out]; exact x4
    subst c4
    clear x4
    go_wp2_with fail
    refine (ship_word w2 g r HD2.out).mono ?_
    rintro e w3 ⟨rfl, hB3⟩
    obtain ⟨HD3, HB3⟩ : Hid (Ship w3 g) ∧ Hid (Below w.heap.size w w3) := ⟨HD2.out.below hB3, HB2.out.trans (hB3.mono HB2.out.size)⟩
    clear hB3
    rw [HX4.out]
    go_wp2_with fail
    refine (ship_script w3 g r HD3.out).mono ?_
    rintro e w4 ⟨rfl, hB4⟩
    obtain ⟨HD4, HB4⟩ : Hid (Ship w4 g) ∧ Hid (Below w.heap.size w w4) := ⟨HD3.out.below hB4, HB3.out.trans (hB4.mono HB3.out.size)⟩
    clear hB4
    rw [← HSV.out]
    by_cases s0 : s = 0
    · subst s0
      go_wp2
      go_ret
      exact ⟨rfl, HB4.out⟩
    · have s1 : (s == 0) = false := by simpa using s0
      clear s0
      go_wp2_with fail
      refine (ship_word w4 g r HD4.out).mono ?_
      rintro e w5 ⟨rfl, hB5⟩
      obtain ⟨HD5, HB5⟩ : Hid (Ship w5 g) ∧ Hid (Below w.heap.size w w5) := ⟨HD4.out.below hB5, HB4.out.trans (hB5.mono HB4.out.size)⟩
      clear hB5
      rw [HX4.out]
      go_wp2_with fail
      refine (ship_word w5 g r HD5.out).mono ?_
      rintro e w6 ⟨rfl, hB6⟩
      obtain ⟨HD6, HB6⟩ : Hid (Ship w6 g) ∧ Hid (Below w.heap.size w w6) := ⟨HD5.out.below hB6, HB5.out.trans (hB6.mono HB5.out.size)⟩
      clear hB6
      rw [HX4.out]
      go_wp2
      go_ret
      exact ⟨rfl, HB6.out⟩
  · have c5 : (c == 4) = false := by simpa using c4
    clear c4
    go_wp2_with fail
    refine (ship_script w2 g r HD2.out).mono ?_
    rintro e w3 ⟨rfl, hB3⟩
    obtain ⟨HD3, HB3⟩ : Hid (Ship w3 g) ∧ Hid (Below w.heap.size w w3) := ⟨HD2.out.below hB3, HB2.out.trans (hB3.mono HB2.out.size)⟩
    clear hB3
    rw [← HSV.out]
    by_cases s0 : s = 0
    · subst s0
      go_wp2
      go_ret
      exact ⟨rfl, HB3.out⟩
    · have s1 : (s == 0) = false := by simpa using s0
      have hnf := HNF.out s0
      have x16 : (x != 16) = true := by simpa using hnf.1
      have x18 : (x != 18) = true := by simpa using hnf.2
      clear s0 hnf
      go_wp2_with fail
      refine (ship_word w3 g r HD3.out).mono ?_
      rintro e w4 ⟨rfl, hB4⟩
      obtain ⟨HD4, HB4⟩ : Hid (Ship w4 g) ∧ Hid (Below w.heap.size w w4) := ⟨HD3.out.below hB4, HB3.out.trans (hB4.mono HB3.out.size)⟩
      clear hB4
      rw [← HX.out]
      go_wp2_with fail
      refine (ship_word w4 g r HD4.out).mono ?_
      rintro e w5 ⟨rfl, hB5⟩
      obtain ⟨HD5, HB5⟩ : Hid (Ship w5 g) ∧ Hid (Below w.heap.size w w5) := ⟨HD4.out.below hB5, HB4.out.trans (hB5.mono HB4.out.size)⟩
      clear hB5
      rw [← HX.out]
      go_wp2
      go_ret
      exact ⟨rfl, HB5.out⟩
end Go.Proofs.YtpknmpgbaccffaaDoor
