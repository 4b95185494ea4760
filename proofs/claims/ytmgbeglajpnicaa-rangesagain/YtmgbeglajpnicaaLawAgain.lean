/-
  The law RangesAgain: true, for all ranges and all numbers.
-/
import Derived.Test.YtmgbeglajpnicaaLaw
namespace Go.Proofs.Ytmgbeglajpnicaa
open Go.RowKit
set_option linter.unusedVariables false

theorem wf_max {n : Int} (h : (Lit.int .i64 n).wf = true) : n ≤ 9223372036854775807 ∧ -9223372036854775808 ≤ n := by
  simp [Lit.wf, IntKind.min, IntKind.max, IntKind.signed, IntKind.bits] at h
  omega

theorem nth_cases {f : Int → Bool} {a : List Rg} (hu : Upto f a 1114112) (n : Int) :
    (n < 0 ∧ nthV a n = (0, 4)) ∨ (0 ≤ n ∧ sumR a ≤ n ∧ nthV a n = (0, 4)) ∨ (0 ≤ n ∧ n < sumR a ∧ ∃ x, nthV a n = (x, 0) ∧ nthL a n = some x ∧ hasR a x = true) := by
  by_cases h : n < 0
  · exact .inl ⟨h, nthV_neg h⟩
  · have h0 : 0 ≤ n := by omega
    have hs := nthL_some hu.1 h0
    have e : nthV a n = optV (nthL a n) := by simp [nthV, h]
    cases q : nthL a n with
    | none =>
      rw [q] at hs e
      simp at hs
      exact .inr (.inl ⟨h0, hs, e⟩)
    | some x =>
      rw [q] at hs e
      simp at hs
      exact .inr (.inr ⟨h0, hs, x, e, rfl, nthL_has hu.1 h0 q⟩)

set_option maxRecDepth 100000 in
set_option maxHeartbeats 8000000 in
theorem rangesAgain_any (l : List Rg) (v : Value) (n : Int) (w : World) (hv : RngSrc w v l) (hbig : l.length * 16 ≤ 140737488355328) (hn : (Lit.int .i64 n).wf = true) :
    Calls Try.prog 6 #[v, .int .i64 n] w fun e w' => e = .returned (.bool true) ∧ Below w.heap.size w w' := by
  have HV : Hid (RngSrc w v l) := hv
  have hnm := wf_max hn
  obtain ⟨a, cap, rfl, hc, _⟩ := hv.1
  clear hv hn
  go_enter Try.func6, Try.ntmps6
  go_wp2_with fail
  refine (awake_any w).mono ?_
  rintro e w1 ⟨rfl, hB1⟩
  have hs1 := hB1.size
  go_wp2_with fail
  refine (make_any l _ w1 hbig (HV.out.1.below hB1)).mono ?_
  rintro e w2 ⟨h, hB2⟩
  have hW2 : Below w.heap.size w w2 := hB1.trans (hB2.mono hs1)
  have hs2 := hW2.size
  rcases h with ⟨_, rfl⟩ | ⟨hf, sa, va, hu, _, rfl, ho⟩
  · go_wp2
    go_ret
    exact ⟨rfl, hW2⟩
  · have U : Hid (Upto (hasR l) sa 1114112) := hu
    have R2 : Hid (RngIn w2 va sa) := rng_of_row ho
    clear hf hu ho hB1 hB2 HV
    by_cases hlen : l.length ≤ 60
    · have h6 : ¬ (60 : Int) < (l.length : Int) := by omega
      have h6' : decide ((60 : Int) < (l.length : Int)) = false := by simpa using h6
      have hle := U.out.isSet.len
      go_wp2_with fail
      refine (make_any sa _ w2 (by omega) R2.out).mono ?_
      rintro e w3 ⟨h, hB3⟩
      have hW3 : Below w.heap.size w w3 := hW2.trans (hB3.mono hs2)
      have hs3 := hW3.size
      rcases h with ⟨hnf, _⟩ | ⟨_, sb, vb, hu, _, rfl, ho⟩
      · exact absurd U.out.fits hnf
      · obtain rfl : sb = sa := Upto.unique hu U.out.self
        have Rb3 : Hid (RngIn w3 vb sb) := rng_of_row ho
        have R3 : Hid (RngIn w3 va sb) := R2.out.below hB3
        clear hu ho R2 hB3
        go_wp2_with fail
        refine (same_any sb (by omega) _ _ w3 R3.out Rb3.out).mono ?_
        rintro e w4 ⟨rfl, hB4⟩
        have hW4 : Below w.heap.size w w4 := hW3.trans (hB4.mono hs3)
        have hs4 := hW4.size
        have R4 : Hid (RngIn w4 va sb) := R3.out.below hB4
        clear R3 Rb3 hB4
        obtain ⟨t, ht⟩ : ∃ t, sumR sb = t := ⟨_, rfl⟩
        have htb := sumR_bound U.out sb.length
        rw [List.take_length, ht] at htb
        have N1 := count_any (hasR l) sb U.out va w4 R4.out
        rw [ht] at N1
        go_wp2_with fail
        refine N1.mono ?_
        rintro e w5 ⟨rfl, hB5⟩
        have hW5 : Below w.heap.size w w5 := hW4.trans (hB5.mono hs4)
        have hs5 := hW5.size
        have R5 : Hid (RngIn w5 va sb) := R4.out.below hB5
        clear R4 hB5 N1
        have N2 := nth_any (hasR l) sb U.out n hnm.1 va w5 R5.out
        have hcs := nth_cases U.out n
        rw [ht] at hcs
        have HT : Hid (sumR sb = t) := ht
        clear ht
        rcases hcs with ⟨hn0, e1⟩ | ⟨hn0, hn1, e1⟩ | ⟨hn0, hn1, x, e1, e2, e3⟩
        · rw [e1] at N2
          have hd : decide (0 ≤ n) = false := by simp; omega
          clear e1
          go_wp2_with fail
          refine N2.mono ?_
          rintro e w6 ⟨rfl, hB6⟩
          have hW6 : Below w.heap.size w w6 := hW5.trans (hB6.mono hs5)
          clear N2 R5 hB6
          go_wp2
          go_ret
          exact ⟨rfl, hW6⟩
        · rw [e1] at N2
          have hd : decide (n < t) = false := by simp; omega
          clear e1
          go_wp2_with fail
          refine N2.mono ?_
          rintro e w6 ⟨rfl, hB6⟩
          have hW6 : Below w.heap.size w w6 := hW5.trans (hB6.mono hs5)
          clear N2 R5 hB6
          go_wp2
          go_ret
          exact ⟨rfl, hW6⟩
        · rw [e1] at N2
          have E2 : Hid (nthL sb n = some x) := e2
          have E3 : Hid (hasR sb x = true) := e3
          clear e1 e2 e3
          go_wp2_with fail
          refine N2.mono ?_
          rintro e w6 ⟨rfl, hB6⟩
          have hW6 : Below w.heap.size w w6 := hW5.trans (hB6.mono hs5)
          have hs6 := hW6.size
          have R6 : Hid (RngIn w6 va sb) := R5.out.below hB6
          clear N2 R5 hB6
          have N3 := has_any 0 sb (by omega) U.out.1 x va w6 R6.out
          rw [E3.out] at N3
          go_wp2_with fail
          refine N3.mono ?_
          rintro e w7 ⟨rfl, hB7⟩
          have hW7 : Below w.heap.size w w7 := hW6.trans (hB7.mono hs6)
          have hs7 := hW7.size
          have R7 : Hid (RngIn w7 va sb) := R6.out.below hB7
          clear N3 R6 hB7
          by_cases hz : n = 0
          · have hz' : (n == 0) = true := by simp [hz]
            clear hz R7
            go_wp2
            go_ret
            exact ⟨rfl, hW7⟩
          · have hz' : (n == 0) = false := by simp [hz]
            have N4 := nth_any (hasR l) sb U.out (n - 1) (by omega) va w7 R7.out
            rcases nth_cases U.out (n - 1) with ⟨q, _⟩ | ⟨_, q, _⟩ | ⟨_, _, y, f1, f2, _⟩
            · omega
            · rw [HT.out] at q; omega
            · rw [f1] at N4
              have hyx : y < x := nthL_lt U.out.1 (by omega) (by omega) f2 E2.out
              clear hz f1 f2 R7
              go_wp2_with fail
              refine N4.mono ?_
              rintro e w8 ⟨rfl, hB8⟩
              have hW8 : Below w.heap.size w w8 := hW7.trans (hB8.mono hs7)
              clear N4 hB8
              go_wp2
              go_ret
              exact ⟨rfl, hW8⟩
    · have h6 : (60 : Int) < (l.length : Int) := by omega
      clear R2
      go_wp2
      go_ret
      exact ⟨rfl, hW2⟩
end Go.Proofs.Ytmgbeglajpnicaa
