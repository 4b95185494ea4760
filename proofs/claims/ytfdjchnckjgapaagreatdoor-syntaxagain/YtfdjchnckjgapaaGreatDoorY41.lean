/-
  What inBrackets, hasParts, meets and mayBe answer.
-/
import Derived.Test.YtfdjchnckjgapaaGreatDoorY36
import Derived.Test.YtfdjchnckjgapaaGreatDoorY17
namespace Go.Proofs.YtfdjchnckjgapaaGreatDoor
open Go.RowKit Go.Shelf S1
set_option linter.unusedVariables false

theorem inBrackets_any (p q : Int) (w : World) : Calls Tryz.prog 66 #[.int .i64 p, .int .i64 q] w fun e w' => e = .returned (.bool (inBr p q)) ∧ w = w' := by
  by_cases h2 : p = 2
  · subst h2
    have e : inBr 2 q = true := by simp [inBr]
    rw [e]
    clear e
    go_enter Tryz.func66, Tryz.ntmps66
    go_wp2
    go_ret
    exact ⟨rfl, rfl⟩
  by_cases h0 : p = 0
  · subst h0
    have e : inBr 0 q = (q != 2) := by simp [inBr]
    rw [e]
    clear e h2
    go_enter Tryz.func66, Tryz.ntmps66
    go_wp2
    go_ret
    exact ⟨rfl, rfl⟩
  have e : inBr p q = false := by simp [inBr, h2, h0]
  rw [e]
  have k2 : (p == 2) = false := by simpa using h2
  have k0 : (p == 0) = false := by simpa using h0
  clear e h2 h0
  go_enter Tryz.func66, Tryz.ntmps66
  go_wp2
  go_ret
  exact ⟨rfl, rfl⟩

set_option maxRecDepth 100000 in
set_option maxHeartbeats 4000000 in
theorem hasParts_any (k s : Int) (a : Option Addr) (len cap : Nat) (w : World) : Calls Tryz.prog 65 #[.agg #[.int .i64 k, .int .i64 s, .slice a len cap]] w fun e w' => e = .returned (.bool (hasP k len)) ∧ Below w.heap.size w w' := by
  have HB0 : Hid (Below w.heap.size w (w.alloc (.cells #[.int .i64 k, .int .i64 s, .slice a len cap] 39))) := below_alloc _ _
  by_cases h0 : k = 0
  · subst h0
    have e : hasP 0 len = ((len : Int) != 1) := by
      simp only [hasP, if_true]
      by_cases q : len = 1
      · subst q; rfl
      · have h1 : (len != 1) = true := by simpa using q
        have h2 : ((len : Int) != 1) = true := by simp; omega
        rw [h1, h2]
    rw [e]
    clear e
    go_enter Tryz.func65, Tryz.ntmps65
    go_wp2
    go_ret
    exact ⟨rfl, HB0.out⟩
  by_cases h2 : k = 2
  · subst h2
    have e : hasP 2 len = decide ((len : Int) ≥ 2) := by
      have : hasP 2 len = decide (2 ≤ len) := by simp [hasP]
      rw [this]
      apply decide_eq_decide.2; omega
    rw [e]
    clear e h0
    go_enter Tryz.func65, Tryz.ntmps65
    go_wp2
    go_ret
    exact ⟨by first | rfl | simp, HB0.out⟩
  have e : hasP k len = (signK k && len == 1) := by simp [hasP, h0, h2]
  rw [e]
  have k2 : (k == 2) = false := by simpa using h2
  have k0 : (k == 0) = false := by simpa using h0
  have h1 := fun W => signOf_any k W
  clear e h2 h0
  cases hs : signK k with
  | false =>
    rw [signT_none hs] at h1
    have h1' : ∀ W, Calls Tryz.prog 64 #[.int .i64 k] W fun e w' => e = .returned (.string ⟨#[]⟩) ∧ W = w' := h1
    clear h1 hs
    go_enter Tryz.func65, Tryz.ntmps65
    go_wp2_with fail
    refine (h1' _).mono ?_
    rintro e w1 ⟨rfl, rfl⟩
    go_wp2
    go_ret
    exact ⟨rfl, HB0.out⟩
  | true =>
    have hne := signT_some hs
    obtain ⟨sg, hsg⟩ : ∃ sg, sg = strOfNums (signT k) := ⟨_, rfl⟩
    rw [← hsg] at hne h1
    have e1 : ((len : Int) == 1) = (len == 1) := by
      by_cases q : len = 1
      · subst q; rfl
      · have h1 : (len == 1) = false := by simpa using q
        have h2 : ((len : Int) == 1) = false := by simp; omega
        rw [h1, h2]
    rw [Bool.true_and, ← e1]
    clear hs hsg e1
    go_enter Tryz.func65, Tryz.ntmps65
    go_wp2_with fail
    refine (h1 _).mono ?_
    rintro e w1 ⟨rfl, rfl⟩
    go_wp2
    go_ret
    exact ⟨rfl, HB0.out⟩

/-- The checker at C. -/
def ChkAt (w : World) (C m : Nat) : Prop := w.heap[C]? = some (.cells #[.int .i64 (m : Int)] 69 (0, 0))
theorem meets_any (C m : Nat) (hm : m ≤ 1000000) (s : Int) (w : World) (hC : ChkAt w C m) :
    Calls Tryz.prog 63 #[.pointer (some ⟨C, 0, none⟩), .int .i64 s] w fun e w' => ∃ b m', e = .returned (.bool b) ∧ ChkAt w' C m' ∧ w.grownBy w' (some C) ∧ b = (meetS m s).isSome ∧ (b = true → meetS m s = some m') := by
  have HC : Hid (ChkAt w C m) := hC
  have hlt : C < w.heap.size := (Array.getElem?_eq_some_iff.1 hC).1
  have c0 : w.cell? ⟨C, 0, none⟩ = some (.int .i64 (m : Int)) := cell_of_row _ _ 0 _ _ _ hC
  have f0 : w.frozen? ⟨C, 0, none⟩ = false := frozen_of_row _ _ 0 _ _ hC
  clear hC
  by_cases h : s = (m : Int)
  · subst h
    have e : meetS m (m : Int) = some (m + 1) := by simp [meetS]
    rw [e]
    have h1 : decide ((0 : Int) ≤ (m : Int)) = true := by simp
    have h2 : decide ((m : Int) < (m : Int) + 1) = true := by simp; omega
    clear e
    go_enter Tryz.func63, Tryz.ntmps63
    go_wp2
    go_ret
    refine ⟨true, m + 1, by first | rfl | simp, ?_, grownR_set w C 0 _, rfl, fun _ => rfl⟩
    have := heap_set HC.out (i := 0) (.int .i64 ((m : Int) + 1))
    exact this
  · have hs : (s == (m : Int)) = false := by simpa using h
    by_cases h2 : 0 ≤ s ∧ s < (m : Int)
    · have e : meetS m s = some m := by simp [meetS, h, h2]
      rw [e]
      have h3 : decide ((0 : Int) ≤ s) = true := by simp; omega
      have h4 : decide (s < (m : Int)) = true := by simp; omega
      clear e h h2
      go_enter Tryz.func63, Tryz.ntmps63
      go_wp2
      go_ret
      exact ⟨true, m, by first | rfl | simp, HC.out, World.grownBy.refl _ _, rfl, fun _ => rfl⟩
    · have e : meetS m s = none := by unfold meetS; rw [if_neg h, if_neg h2]
      rw [e]
      by_cases h5 : 0 ≤ s
      · have h3 : decide ((0 : Int) ≤ s) = true := by simp; omega
        have h4 : decide (s < (m : Int)) = false := by simp; omega
        clear e h h2 h5
        go_enter Tryz.func63, Tryz.ntmps63
        go_wp2
        go_ret
        exact ⟨false, m, by first | rfl | simp, HC.out, World.grownBy.refl _ _, rfl, fun h => (by cases h)⟩
      · have h3 : decide ((0 : Int) ≤ s) = false := by simp; omega
        clear e h h2 h5
        go_enter Tryz.func63, Tryz.ntmps63
        go_wp2
        go_ret
        exact ⟨false, m, by first | rfl | simp, HC.out, World.grownBy.refl _ _, rfl, fun h => (by cases h)⟩
end Go.Proofs.YtfdjchnckjgapaaGreatDoor
