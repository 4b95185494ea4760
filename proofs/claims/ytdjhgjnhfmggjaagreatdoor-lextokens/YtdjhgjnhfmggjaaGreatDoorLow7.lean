/-
  What the document's lower and goes answer.
-/
import Derived.Test.YtdjhgjnhfmggjaaGreatDoorLxMath
import Derived.Test.YtdjhgjnhfmggjaaGreatDoorRdr
namespace Go.Proofs.YtdjhgjnhfmggjaaGreatDoor
open Go.RowKit Go.Shelf S1
set_option linter.unusedVariables false

theorem refLower_any (r : Int) (w : World) : Calls Tryz.prog 18 #[.int .i64 r] w fun e w' => e = .returned (.bool (nameB r)) ∧ w' = w := by
  by_cases h1 : 97 ≤ r
  · have e : nameB r = decide (r ≤ 122) := by simp [nameB, h1]
    rw [e]
    go_enter Tryz.func18, Tryz.ntmps18
    go_wp2
    go_ret
    exact ⟨rfl, rfl⟩
  · have e : nameB r = false := by simp [nameB, h1]
    rw [e]
    have h1' : decide (97 ≤ r) = false := by simpa using h1
    go_enter Tryz.func18, Tryz.ntmps18
    go_wp2
    go_ret
    exact ⟨rfl, rfl⟩
theorem refGoes_any (r : Int) (w : World) : Calls Tryz.prog 19 #[.int .i64 r] w fun e w' => e = .returned (.bool (nameR r)) ∧ w' = w := by
  have c1 := refLower_any r w
  cases h1 : nameB r with
  | true =>
    have e : nameR r = true := by simp [nameR, h1]
    rw [e]
    rw [h1] at c1
    go_enter Tryz.func19, Tryz.ntmps19
    go_wp2_with (go_at_call 18; refine c1.mono ?_; rintro e w' ⟨rfl, rfl⟩)
    go_ret
    exact ⟨rfl, rfl⟩
  | false =>
    rw [h1] at c1
    by_cases h2 : 48 ≤ r
    · by_cases h3 : r ≤ 57
      · have e : nameR r = true := by simp [nameR, decB, h2, h3]
        rw [e]
        go_enter Tryz.func19, Tryz.ntmps19
        go_wp2_with (go_at_call 18; refine c1.mono ?_; rintro e w' ⟨rfl, rfl⟩)
        go_ret
        exact ⟨rfl, rfl⟩
      · have e : nameR r = (r == 95) := by simp [nameR, decB, h1, h2, h3]
        rw [e]
        have h3' : decide (r ≤ 57) = false := by simpa using h3
        go_enter Tryz.func19, Tryz.ntmps19
        go_wp2_with (go_at_call 18; refine c1.mono ?_; rintro e w' ⟨rfl, rfl⟩)
        go_ret
        exact ⟨rfl, rfl⟩
    · have e : nameR r = (r == 95) := by simp [nameR, decB, h1, h2]
      rw [e]
      have h2' : decide (48 ≤ r) = false := by simpa using h2
      go_enter Tryz.func19, Tryz.ntmps19
      go_wp2_with (go_at_call 18; refine c1.mono ?_; rintro e w' ⟨rfl, rfl⟩)
      go_ret
      exact ⟨rfl, rfl⟩
end Go.Proofs.YtdjhgjnhfmggjaaGreatDoor
