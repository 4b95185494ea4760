/-
  What utf.size and scansionref01.IsRune answer, for every number.
-/
import Derived.Test.YtdjhgjnhfmggjabGreatDoorRows
import Derived.Test.YtdjhgjnhfmggjabGreatDoorS1Plain
import Derived.WalkKit
import Derived.WalkSpells
namespace Go.Proofs.YtdjhgjnhfmggjabGreatDoor.S1
open Go.RowKit
set_option linter.unusedVariables false

theorem size_any (r : Int) (w : World) : Calls Tryz.prog 79 #[.int .i64 r] w fun e w' => e = .returned (.int .i64 (szR r)) ∧ w' = w := by
  by_cases h0 : r < 0
  · go_enter Tryz.func79, Tryz.ntmps79
    go_wp2
    go_ret
    exact ⟨by simp [szR, h0], rfl⟩
  by_cases h1 : 1114111 < r
  · go_enter Tryz.func79, Tryz.ntmps79
    go_wp2
    go_ret
    exact ⟨by simp [szR, h1], rfl⟩
  by_cases h2 : 55296 ≤ r ∧ r ≤ 57343
  · obtain ⟨h2, h3⟩ := h2
    go_enter Tryz.func79, Tryz.ntmps79
    go_wp2
    go_ret
    exact ⟨by simp [szR, h2, h3], rfl⟩
  have e : szR r = if r < 128 then 1 else if r < 2048 then 2 else if r < 65536 then 3 else 4 := by
    unfold szR; rw [if_neg h0, if_neg h1, if_neg h2]
  rw [e]
  clear e
  rcases (show r < 55296 ∨ 57343 < r by omega) with h3 | h3
  all_goals
    clear h2
    go_enter Tryz.func79, Tryz.ntmps79
    go_wp2
    all_goals
      go_ret
      refine ⟨?_, rfl⟩
      repeat' split
      all_goals first | rfl | omega

end Go.Proofs.YtdjhgjnhfmggjabGreatDoor.S1
