/-
  What the document's rows say together.
-/
import Derived.Test.YtpmlbdfdiebkcaaDoorAwakeU
namespace Go.Proofs.YtpmlbdfdiebkcaaDoor
open Go.RowKit
set_option linter.unusedVariables false

/- What the tables' rows say together. -/
theorem cl_small (r : Int) : 0 ≤ valP clR r ∧ valP clR r ≤ 11 := by
  have h : (clR.all fun p => decide (0 ≤ p.v) && decide (p.v ≤ 11)) = true := by kernel_rfl
  rcases val_cases clR r with e | ⟨p, hp, _, e⟩
  · omega
  · have := List.all_eq_true.1 h p hp
    simp only [Bool.and_eq_true, decide_eq_true_eq] at this
    omega
theorem wd_small (r : Int) : 0 ≤ valP wdR r ∧ valP wdR r ≤ 18 := by
  have h : (wdR.all fun p => decide (0 ≤ p.v) && decide (p.v ≤ 18)) = true := by kernel_rfl
  rcases val_cases wdR r with e | ⟨p, hp, _, e⟩
  · omega
  · have := List.all_eq_true.1 h p hp
    simp only [Bool.and_eq_true, decide_eq_true_eq] at this
    omega
theorem sc_small (r : Int) : 0 ≤ valP scR r ∧ valP scR r ≤ 4 := by
  have h : (scR.all fun p => decide (0 ≤ p.v) && decide (p.v ≤ 4)) = true := by kernel_rfl
  rcases val_cases scR r with e | ⟨p, hp, _, e⟩
  · omega
  · have := List.all_eq_true.1 h p hp
    simp only [Bool.and_eq_true, decide_eq_true_eq] at this
    omega
theorem marks_are (r : Int) (h : valP clR r = 4) : valP wdR r = 4 := by
  have h0 : (clR.all fun p => decide (p.v ≠ 4) || wdR.any fun q => decide (q.v = 4) && decide (q.lo ≤ p.lo) && decide (p.hi ≤ q.hi)) = true := by kernel_rfl
  rcases val_cases clR r with e | ⟨p, hp, h1, e⟩
  · omega
  · have h2 := List.all_eq_true.1 h0 p hp
    rw [Bool.or_eq_true] at h2
    rcases h2 with q | q
    · simp only [decide_eq_true_eq] at q
      exact absurd (by omega) q
    · obtain ⟨x, hx, q⟩ := List.any_eq_true.1 q
      simp only [Bool.and_eq_true, decide_eq_true_eq] at q
      have hr := hasP_iff.1 h1
      have := row_val (i := 1) (by omega) (p := x) hx (r := r) (hasP_iff.2 ⟨by omega, by omega⟩)
      exact this.trans q.1.1
theorem no_figure (r : Int) (h : valP scR r ≠ 0) : valP wdR r ≠ 16 ∧ valP wdR r ≠ 18 := by
  have h0 : (scR.all fun p => wdR.all fun q => (decide (q.v ≠ 16) && decide (q.v ≠ 18)) || decide (p.hi < q.lo) || decide (q.hi < p.lo)) = true := by kernel_rfl
  rcases val_cases scR r with e | ⟨p, hp, h1, e⟩
  · exact absurd e h
  · rcases val_cases wdR r with e2 | ⟨x, hx, h2, e2⟩
    · omega
    · have h3 := List.all_eq_true.1 (List.all_eq_true.1 h0 p hp) x hx
      simp only [Bool.or_eq_true, Bool.and_eq_true, decide_eq_true_eq] at h3
      have hr1 := hasP_iff.1 h1
      have hr2 := hasP_iff.1 h2
      rcases h3 with (q | q) | q
      · rw [e2]; exact q
      · omega
      · omega
theorem out_zero (i : Nat) (hi : i < 4) (r : Int) (hr : r < 0 ∨ 1114111 < r) : valP (tabR i) r = 0 := val_out (fun p hp => by have := tab_goodR i hi p hp; omega) hr
end Go.Proofs.YtpmlbdfdiebkcaaDoor
