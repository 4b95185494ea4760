/-
  The law UcdOutside: true, for every number.
-/
import Derived.Test.YtpknmpgbaccffabDoorAwakeU
import Derived.Test.YtpknmpgbaccffabDoorFacts
namespace Go.Proofs.YtpknmpgbaccffabDoor
open Go.RowKit
set_option linter.unusedVariables false

set_option maxRecDepth 100000 in
set_option maxHeartbeats 8000000 in
theorem ucdOutside_any (r : Int) (w : World) (hs : Scripts w) (h0 : 0 < w.heap.size) :
    Calls Tryd.prog 3 #[.int .i64 r] w fun e w' => e = .returned (.bool true) ∧ Below w.heap.size w w' := by
  have HS : Hid (Scripts w) := hs
  have HH0 : Hid (0 < w.heap.size) := h0
  clear hs h0
  go_enter Tryd.func3, Tryd.ntmps3
  go_wp2_with fail
  refine (awake_u w HS.out HH0.out).mono ?_
  rintro e w0 ⟨rfl, hB0⟩
  have HB0 : Hid (Below w.heap.size w w0) := hB0
  have HS0 : Hid (Scripts w0 ∧ 0 < w0.heap.size) := ⟨HS.out.below HH0.out hB0, by have := HH0.out; have := hB0.size; omega⟩
  clear hB0
  go_wp2_with fail
  refine (new_ship w0 HS0.out.1 HS0.out.2).mono ?_
  rintro e w1 ⟨g, rfl, hd, hB1⟩
  obtain ⟨HD1, HB1⟩ : Hid (Ship w1 g) ∧ Hid (Below w.heap.size w w1) := ⟨hd, HB0.out.trans (hB1.mono HB0.out.size)⟩
  clear hd hB1
  by_cases hin : 0 ≤ r ∧ r ≤ 1114111
  · have i1 : (0 : Int) ≤ r := hin.1
    have i2 : r ≤ 1114111 := hin.2
    obtain ⟨c, hc⟩ : ∃ c, c = clV r := ⟨_, rfl⟩
    obtain ⟨x, hx⟩ : ∃ x, x = valP wdR r := ⟨_, rfl⟩
    obtain ⟨s, hsv⟩ : ∃ s, s = valP scR r := ⟨_, rfl⟩
    obtain ⟨HC, HX, HSV⟩ : Hid (c = clV r) ∧ Hid (x = valP wdR r) ∧ Hid (s = valP scR r) := ⟨hc, hx, hsv⟩
    have cb : 0 ≤ c ∧ c ≤ 13 := by
      have := cl_small r
      rw [hc]
      unfold clV
      split
      · split <;> omega
      · omega
    have xb := wd_small r
    have sb := sc_small r
    rw [← hx] at xb
    rw [← hsv] at sb
    have c1 : (0 : Int) ≤ c := cb.1
    have c2 : c ≤ 13 := cb.2
    have x1 : (0 : Int) ≤ x := xb.1
    have x2 : x ≤ 18 := xb.2
    have s1 : (0 : Int) ≤ s := sb.1
    have s2 : s ≤ 4 := sb.2
    clear hin hc hx hsv cb xb sb
    go_wp2_with fail
    refine (ship_cluster w1 g r HD1.out).mono ?_
    rintro e w2 ⟨rfl, hB2⟩
    obtain ⟨HD2, HB2⟩ : Hid (Ship w2 g) ∧ Hid (Below w.heap.size w w2) := ⟨HD1.out.below hB2, HB1.out.trans (hB2.mono HB1.out.size)⟩
    clear hB2
    rw [← HC.out]
    go_wp2_with fail
    refine (ship_cluster w2 g r HD2.out).mono ?_
    rintro e w3 ⟨rfl, hB3⟩
    obtain ⟨HD3, HB3⟩ : Hid (Ship w3 g) ∧ Hid (Below w.heap.size w w3) := ⟨HD2.out.below hB3, HB2.out.trans (hB3.mono HB2.out.size)⟩
    clear hB3
    rw [← HC.out]
    go_wp2_with fail
    refine (ship_word w3 g r HD3.out).mono ?_
    rintro e w4 ⟨rfl, hB4⟩
    obtain ⟨HD4, HB4⟩ : Hid (Ship w4 g) ∧ Hid (Below w.heap.size w w4) := ⟨HD3.out.below hB4, HB3.out.trans (hB4.mono HB3.out.size)⟩
    clear hB4
    rw [← HX.out]
    go_wp2_with fail
    refine (ship_word w4 g r HD4.out).mono ?_
    rintro e w5 ⟨rfl, hB5⟩
    obtain ⟨HD5, HB5⟩ : Hid (Ship w5 g) ∧ Hid (Below w.heap.size w w5) := ⟨HD4.out.below hB5, HB4.out.trans (hB5.mono HB4.out.size)⟩
    clear hB5
    rw [← HX.out]
    go_wp2_with fail
    refine (ship_script w5 g r HD5.out).mono ?_
    rintro e w6 ⟨rfl, hB6⟩
    obtain ⟨HD6, HB6⟩ : Hid (Ship w6 g) ∧ Hid (Below w.heap.size w w6) := ⟨HD5.out.below hB6, HB5.out.trans (hB6.mono HB5.out.size)⟩
    clear hB6
    rw [← HSV.out]
    go_wp2_with fail
    refine (ship_script w6 g r HD6.out).mono ?_
    rintro e w7 ⟨rfl, hB7⟩
    obtain ⟨HD7, HB7⟩ : Hid (Ship w7 g) ∧ Hid (Below w.heap.size w w7) := ⟨HD6.out.below hB7, HB6.out.trans (hB7.mono HB6.out.size)⟩
    clear hB7
    rw [← HSV.out]
    go_wp2
    go_ret
    exact ⟨rfl, HB7.out⟩
  · have ho : r < 0 ∨ 1114111 < r := by omega
    have HC : Hid (clV r = 0) := by
      show _ = _
      unfold clV
      rw [if_neg (by omega)]
      exact out_zero 0 (by omega) r ho
    have HX : Hid (valP wdR r = 0) := out_zero 1 (by omega) r ho
    have HSV : Hid (valP scR r = 0) := out_zero 2 (by omega) r ho
    have HPV : Hid (valP piR r = 0) := out_zero 3 (by omega) r ho
    have hex : r < 0 ∨ ¬ (r < 0) ∧ 1114111 < r := by omega
    clear ho hin
    rcases hex with n1 | ⟨n0, n1⟩
    · go_wp2_with fail
      refine (ship_cluster w1 g r HD1.out).mono ?_
      rintro e w2 ⟨rfl, hB2⟩
      obtain ⟨HD2, HB2⟩ : Hid (Ship w2 g) ∧ Hid (Below w.heap.size w w2) := ⟨HD1.out.below hB2, HB1.out.trans (hB2.mono HB1.out.size)⟩
      clear hB2
      rw [HC.out]
      go_wp2_with fail
      refine (ship_word w2 g r HD2.out).mono ?_
      rintro e w3 ⟨rfl, hB3⟩
      obtain ⟨HD3, HB3⟩ : Hid (Ship w3 g) ∧ Hid (Below w.heap.size w w3) := ⟨HD2.out.below hB3, HB2.out.trans (hB3.mono HB2.out.size)⟩
      clear hB3
      rw [HX.out]
      go_wp2_with fail
      refine (ship_script w3 g r HD3.out).mono ?_
      rintro e w4 ⟨rfl, hB4⟩
      obtain ⟨HD4, HB4⟩ : Hid (Ship w4 g) ∧ Hid (Below w.heap.size w w4) := ⟨HD3.out.below hB4, HB3.out.trans (hB4.mono HB3.out.size)⟩
      clear hB4
      rw [HSV.out]
      go_wp2_with fail
      refine (ship_picto w4 g r HD4.out).mono ?_
      rintro e w5 ⟨rfl, hB5⟩
      obtain ⟨HD5, HB5⟩ : Hid (Ship w5 g) ∧ Hid (Below w.heap.size w w5) := ⟨HD4.out.below hB5, HB4.out.trans (hB5.mono HB4.out.size)⟩
      clear hB5
      rw [HPV.out]
      go_wp2
      go_ret
      exact ⟨rfl, HB5.out⟩
    · go_wp2_with fail
      refine (ship_cluster w1 g r HD1.out).mono ?_
      rintro e w2 ⟨rfl, hB2⟩
      obtain ⟨HD2, HB2⟩ : Hid (Ship w2 g) ∧ Hid (Below w.heap.size w w2) := ⟨HD1.out.below hB2, HB1.out.trans (hB2.mono HB1.out.size)⟩
      clear hB2
      rw [HC.out]
      go_wp2_with fail
      refine (ship_word w2 g r HD2.out).mono ?_
      rintro e w3 ⟨rfl, hB3⟩
      obtain ⟨HD3, HB3⟩ : Hid (Ship w3 g) ∧ Hid (Below w.heap.size w w3) := ⟨HD2.out.below hB3, HB2.out.trans (hB3.mono HB2.out.size)⟩
      clear hB3
      rw [HX.out]
      go_wp2_with fail
      refine (ship_script w3 g r HD3.out).mono ?_
      rintro e w4 ⟨rfl, hB4⟩
      obtain ⟨HD4, HB4⟩ : Hid (Ship w4 g) ∧ Hid (Below w.heap.size w w4) := ⟨HD3.out.below hB4, HB3.out.trans (hB4.mono HB3.out.size)⟩
      clear hB4
      rw [HSV.out]
      go_wp2_with fail
      refine (ship_picto w4 g r HD4.out).mono ?_
      rintro e w5 ⟨rfl, hB5⟩
      obtain ⟨HD5, HB5⟩ : Hid (Ship w5 g) ∧ Hid (Below w.heap.size w w5) := ⟨HD4.out.below hB5, HB4.out.trans (hB5.mono HB4.out.size)⟩
      clear hB5
      rw [HPV.out]
      go_wp2
      go_ret
      exact ⟨rfl, HB5.out⟩
end Go.Proofs.YtpknmpgbaccffabDoor
