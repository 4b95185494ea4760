/-
  The laws UtfRunes and UtfBack: true, for all bytes and all ints.
-/
import Derived.Test.YtahgjhpcfmjjkaaDoorText
namespace Go.Proofs.YtahgjhpcfmjjkaaDoor
open Go.RowKit
set_option linter.unusedVariables false

theorem runes_any (zs : List Int) (hby : Byt zs) (hlen : zs.length ≤ 10000) (a : Option Addr) (len cap : Nat) (w : World) (hI : BytesAt w.heap.size w (.slice a len cap) zs) :
    Calls Tryd.prog 16 #[.slice a len cap] w fun e w' => ∃ v us, e = .returned v ∧ Run zs 0 us zs.length ∧ w'.ownsRow w.heap.size 3 1 v us.length (runesV us) ∧ Below w.heap.size w w' :=
  callsIn_wide.1 (runes_in 3 (Nat.le_refl _) _ a len cap rfl zs hby hlen w hI)
theorem valid_any (zs : List Int) (hby : Byt zs) (hlen : zs.length ≤ 10000) (a : Option Addr) (len cap : Nat) (w : World) (hI : BytesAt w.heap.size w (.slice a len cap) zs) :
    Calls Tryd.prog 20 #[.slice a len cap] w fun e w' => ∃ us, e = .returned (.bool (allGood us)) ∧ Run zs 0 us zs.length ∧ Below w.heap.size w w' :=
  callsIn_wide.1 (valid_in 3 (Nat.le_refl _) _ a len cap rfl zs hby hlen w hI)

theorem ints_of_runes {w : World} {base : Nat} {v : Value} {us : List U} (h : w.ownsRow base 3 1 v us.length (runesV us)) : IntsIn w v (us.map U.r) :=
  ints_of_row (base := base) (by simpa [runesV] using h)

theorem BytesAt.later {w w' : World} {sv : Value} {l : List Int} (h : BytesAt w.heap.size w sv l) (hb : Below w.heap.size w w') : BytesAt w'.heap.size w' sv l := (h.below hb).mono hb.size

set_option maxHeartbeats 1000000 in
theorem utfRunes_any (a : Option Addr) (len cap : Nat) (zs : List Int) (b : Option Addr) (len2 cap2 : Nat) (ys : List Int) (w : World) (hz : IsRow .u8 w a len cap zs) (hy : IsRow .i64 w b len2 cap2 ys) (hm : Marks w) (h1 : 1 ≤ w.heap.size) :
    Calls Tryd.prog 5 #[.slice a len cap, .slice b len2 cap2] w fun e w' => e = .returned (.bool true) ∧ Below w.heap.size w w' := by
  obtain ⟨l, hl, hby, hI⟩ := hz.bytes
  obtain ⟨r, hr, hJ⟩ := hy.ints
  by_cases hlen : len ≤ 5000
  · have h5 : (len : Int) ≤ 5000 := by omega
    by_cases hlen2 : len2 ≤ 2000
    · have h6 : (len2 : Int) ≤ 2000 := by omega
      go_enter Tryd.func5, Tryd.ntmps5
      go_wp2_with fail
      refine (awake_any w hm h1).mono ?_
      rintro e w1 ⟨rfl, hB1⟩
      have hs1 := hB1.size
      have hI1 := hI.later hB1
      go_wp2_with fail
      refine (runes_any l hby (by omega) a len cap w1 hI1).mono ?_
      rintro e w2 ⟨v2, us, rfl, hr2, ho2, hB2⟩
      have hs2 := hB2.size
      have hI2 := hI1.later hB2
      go_wp2_with fail
      refine (refRunes_any l hby (by omega) a len cap w2 hI2).mono ?_
      rintro e w3 ⟨v3, vs, rfl, hr3, ho3, hB3⟩
      have hs3 := hB3.size
      have hI3 := hI2.later hB3
      obtain rfl : us = vs := Run.unique hr2 hr3
      have hB13 : Below w.heap.size w w3 := (hB1.trans (hB2.mono hs1)).trans (hB3.mono (by omega))
      go_wp2_with fail
      refine (sameInts_any (us.map U.r) (by have := Run.le hr2 (Nat.zero_le _); simp; omega) v2 v3 w3 ((ints_of_runes ho2).below hB3) (ints_of_runes ho3)).mono ?_
      rintro e w4 ⟨rfl, hB4⟩
      have hs4 := hB4.size
      have hI4 := hI3.later hB4
      have hB14 : Below w.heap.size w w4 := hB13.trans (hB4.mono (by omega))
      clear ho2 ho3 hI1 hI2 hI3
      go_wp2_with fail
      refine (text_any r (by omega) _ w4 (hm.below hB14 h1) (by omega) (hJ.below hB14)).mono ?_
      rintro e w5 ⟨v5, rfl, ho5, hB5⟩
      have hs5 := hB5.size
      have hI5 := hI4.later hB5
      have hB15 : Below w.heap.size w w5 := hB14.trans (hB5.mono (by omega))
      go_wp2_with fail
      refine (refText_any r (by omega) _ w5 (hJ.below hB15)).mono ?_
      rintro e w6 ⟨v6, rfl, ho6, hB6⟩
      have hs6 := hB6.size
      have hI6 := hI5.later hB6
      have hB16 : Below w.heap.size w w6 := hB15.trans (hB6.mono (by omega))
      have ho56 := ho5.below hB6
      clear ho5 hI4 hI5
      go_wp2_with fail
      refine (valid_any l hby (by omega) a len cap w6 hI6).mono ?_
      rintro e w7 ⟨us7, rfl, hr7, hB7⟩
      have hs7 := hB7.size
      have hI7 := hI6.later hB7
      obtain rfl : us = us7 := Run.unique hr2 hr7
      go_wp2_with fail
      refine (refValid_any l hby (by omega) a len cap w7 hI7).mono ?_
      rintro e w8 ⟨us8, rfl, hr8, hB8⟩
      have hs8 := hB8.size
      obtain rfl : us = us8 := Run.unique hr2 hr8
      have hc5 := ((ho56.below hB7).below hB8).convert
      have hc6 := ((ho6.below hB7).below hB8).convert
      have hBz : Below w.heap.size w w8 := (hB16.trans (hB7.mono (by omega))).trans (hB8.mono (by omega))
      have hgg : (allGood us == allGood us) = true := by simp
      have hee : (textE r == textE r) = true := by simp
      clear ho56 ho6 hB1 hB2 hB3 hB4 hB5 hB6 hB7 hB8 hB13 hB14 hB15 hB16 hm hI hI6 hI7 hr2 hr3 hr7 hr8 hJ
      go_wp2
      go_ret
      exact ⟨by simp, hBz⟩
    · have h6 : ¬ (len2 : Int) ≤ 2000 := by omega
      go_enter Tryd.func5, Tryd.ntmps5
      go_wp2_with fail
      refine (awake_any w hm h1).mono ?_
      rintro e w1 ⟨rfl, hB1⟩
      clear hI hJ
      go_wp2
      go_ret
      exact ⟨rfl, hB1⟩
  · have h5 : ¬ (len : Int) ≤ 5000 := by omega
    go_enter Tryd.func5, Tryd.ntmps5
    go_wp2_with fail
    refine (awake_any w hm h1).mono ?_
    rintro e w1 ⟨rfl, hB1⟩
    clear hI hJ
    go_wp2
    go_ret
    exact ⟨rfl, hB1⟩
end Go.Proofs.YtahgjhpcfmjjkaaDoor
