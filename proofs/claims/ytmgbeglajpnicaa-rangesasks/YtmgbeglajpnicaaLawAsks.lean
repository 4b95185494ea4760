/-
  The law RangesAsks: true, for all ranges and all numbers.
-/
import Derived.Test.YtmgbeglajpnicaaLaw
namespace Go.Proofs.Ytmgbeglajpnicaa
open Go.RowKit
set_option linter.unusedVariables false

theorem wf_max {n : Int} (h : (Lit.int .i64 n).wf = true) : n ≤ 9223372036854775807 ∧ -9223372036854775808 ≤ n := by
  simp [Lit.wf, IntKind.min, IntKind.max, IntKind.signed, IntKind.bits] at h
  omega

set_option maxRecDepth 100000 in
set_option maxHeartbeats 8000000 in
theorem rangesAsks_any (l : List Rg) (v : Value) (r n : Int) (w : World) (hv : RngSrc w v l) (hbig : l.length * 16 ≤ 140737488355328) (hr : (Lit.int .i64 r).wf = true) (hn : (Lit.int .i64 n).wf = true) :
    Calls Try.prog 5 #[v, .int .i64 r, .int .i64 n] w fun e w' => e = .returned (.bool true) ∧ Below w.heap.size w w' := by
  have HV : Hid (RngSrc w v l) := hv
  have hnm := wf_max hn
  obtain ⟨a, cap, rfl, hc, _⟩ := hv.1
  clear hv hr hn
  go_enter Try.func5, Try.ntmps5
  go_wp2_with fail
  refine (awake_any w).mono ?_
  rintro e w1 ⟨rfl, hB1⟩
  have hs1 := hB1.size
  go_wp2_with fail
  refine (set_any l _ w1 (HV.out.below hB1)).mono ?_
  rintro e w2 ⟨h, hB2⟩
  have hW2 : Below w.heap.size w w2 := hB1.trans (hB2.mono hs1)
  have hs2 := hW2.size
  rcases h with ⟨v1, rfl⟩ | ⟨sa, va, sA, lA, rfl, rA⟩
  · go_wp2
    go_ret
    exact ⟨rfl, hW2⟩
  · have Sa : Hid (IsSet sa) := sA
    have R2 : Hid (RngIn w2 va sa) := rA.1
    clear sA lA rA hB1 hB2 HV
    obtain ⟨p1, hp1⟩ : ∃ p, (nthV sa n).1 = p := ⟨_, rfl⟩
    obtain ⟨p2, hp2⟩ : ∃ p, (nthV sa n).2 = p := ⟨_, rfl⟩
    have N1 := nth_any (hasR sa) sa Sa.out.upto n hnm.1 va w2 R2.out
    rw [hp1, hp2] at N1
    go_wp2_with fail
    refine N1.mono ?_
    rintro e w3 ⟨rfl, hB3⟩
    have hW3 : Below w.heap.size w w3 := hW2.trans (hB3.mono hs2)
    have hs3 := hW3.size
    have R3 : Hid (RngIn w3 va sa) := R2.out.below hB3
    have N2 := refNth_any (hasR sa) sa Sa.out.upto n hnm.1 va w3 R3.out
    rw [hp1, hp2] at N2
    clear R2 N1 hB3
    go_wp2_with fail
    refine N2.mono ?_
    rintro e w4 ⟨rfl, hB4⟩
    have hW4 : Below w.heap.size w w4 := hW3.trans (hB4.mono hs3)
    have hs4 := hW4.size
    have R4 : Hid (RngIn w4 va sa) := R3.out.below hB4
    clear R3 N2 hB4
    obtain ⟨hx, hhx⟩ : ∃ x, hasR sa r = x := ⟨_, rfl⟩
    have N3 := has_any 0 sa (by have := Sa.out.len; omega) Sa.out.1 r va w4 R4.out
    rw [hhx] at N3
    go_wp2_with fail
    refine N3.mono ?_
    rintro e w5 ⟨rfl, hB5⟩
    have hW5 : Below w.heap.size w w5 := hW4.trans (hB5.mono hs4)
    have hs5 := hW5.size
    have R5 : Hid (RngIn w5 va sa) := R4.out.below hB5
    have N4 := refHas_any sa (by have := Sa.out.len; omega) r va w5 R5.out
    rw [hhx] at N4
    clear R4 N3 hB5
    go_wp2_with fail
    refine N4.mono ?_
    rintro e w6 ⟨rfl, rfl⟩
    have hbb : (hx == hx) = true := by simp
    have hq1 : (p1 == p1) = true := by simp
    have hq2 : (p2 == p2) = true := by simp
    obtain ⟨t, ht⟩ : ∃ t, sumR sa = t := ⟨_, rfl⟩
    have hqt : (t == t) = true := by simp
    have N5 := count_any (hasR sa) sa Sa.out.upto va w6 R5.out
    rw [ht] at N5
    clear N4
    go_wp2_with fail
    refine N5.mono ?_
    rintro e w7 ⟨rfl, hB7⟩
    have hW7 : Below w.heap.size w w7 := hW5.trans (hB7.mono hs5)
    have hs7 := hW7.size
    have R7 : Hid (RngIn w7 va sa) := R5.out.below hB7
    have N6 := refCount_any (hasR sa) sa Sa.out.upto va w7 R7.out
    rw [ht] at N6
    clear R5 N5 hB7
    go_wp2_with fail
    refine N6.mono ?_
    rintro e w8 ⟨rfl, hB8⟩
    have hW8 : Below w.heap.size w w8 := hW7.trans (hB8.mono hs7)
    clear R7 N6 hB8
    go_wp2
    go_ret
    exact ⟨rfl, hW8⟩
end Go.Proofs.Ytmgbeglajpnicaa
