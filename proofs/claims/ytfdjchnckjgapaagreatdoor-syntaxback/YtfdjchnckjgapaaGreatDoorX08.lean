/-
  Rules7
-/
import Derived.Test.YtfdjchnckjgapaaGreatDoorX07
import Derived.Shelf.Abstract
namespace Go.Proofs.YtfdjchnckjgapaaGreatDoor
open Go.RowKit Go.Shelf S1
set_option linter.unusedVariables false
def RuleF (g : Nat) (p : Int → Bool) : Prop := ∀ (r : Int) (w : World), Calls Tryz.prog g #[.int .i64 r] w fun e w' => e = .returned (.bool (p r)) ∧ w = w'
theorem beginsName_any : RuleF 76 nameB := fun r w => by
  by_cases h1 : 97 ≤ r
  · by_cases h2 : r ≤ 122
    · have e : nameB r = true := by simp [nameB, h1, h2]
      rw [e]
      go_enter Tryz.func76, Tryz.ntmps76
      go_wp2
      go_ret
      exact ⟨rfl, rfl⟩
    · have e : nameB r = false := by simp [nameB, h1, h2]
      rw [e]
      have h2' : decide (r ≤ 122) = false := by simpa using h2
      go_enter Tryz.func76, Tryz.ntmps76
      go_wp2
      go_ret
      exact ⟨rfl, rfl⟩
  · have e : nameB r = false := by simp [nameB, h1]
    rw [e]
    have h1' : decide (97 ≤ r) = false := by simpa using h1
    go_enter Tryz.func76, Tryz.ntmps76
    go_wp2
    go_ret
    exact ⟨rfl, rfl⟩
theorem isDecimal_any : RuleF 110 decB := fun r w => by
  by_cases h1 : 48 ≤ r
  · by_cases h2 : r ≤ 57
    · have e : decB r = true := by simp [decB, h1, h2]
      rw [e]
      go_enter Tryz.func110, Tryz.ntmps110
      go_wp2
      go_ret
      exact ⟨rfl, rfl⟩
    · have e : decB r = false := by simp [decB, h1, h2]
      rw [e]
      have h2' : decide (r ≤ 57) = false := by simpa using h2
      go_enter Tryz.func110, Tryz.ntmps110
      go_wp2
      go_ret
      exact ⟨rfl, rfl⟩
  · have e : decB r = false := by simp [decB, h1]
    rw [e]
    have h1' : decide (48 ≤ r) = false := by simpa using h1
    go_enter Tryz.func110, Tryz.ntmps110
    go_wp2
    go_ret
    exact ⟨rfl, rfl⟩
theorem isBlank_any : RuleF 71 blankR := fun r w => by
  by_cases h32 : r = 32
  · subst h32
    go_enter Tryz.func71, Tryz.ntmps71
    go_wp2
    go_ret
    exact ⟨rfl, rfl⟩
  by_cases h9 : r = 9
  · subst h9
    go_enter Tryz.func71, Tryz.ntmps71
    go_wp2
    go_ret
    exact ⟨rfl, rfl⟩
  by_cases h13 : r = 13
  · subst h13
    go_enter Tryz.func71, Tryz.ntmps71
    go_wp2
    go_ret
    exact ⟨rfl, rfl⟩
  by_cases h10 : r = 10
  · subst h10
    go_enter Tryz.func71, Tryz.ntmps71
    go_wp2
    go_ret
    exact ⟨rfl, rfl⟩
  have k32 : (r == 32) = false := by simpa using h32
  have k9 : (r == 9) = false := by simpa using h9
  have k13 : (r == 13) = false := by simpa using h13
  have k10 : (r == 10) = false := by simpa using h10
  have e : blankR r = false := by simp [blankR, h32, h9, h13, h10]
  rw [e]
  clear e h32 h9 h13 h10
  go_enter Tryz.func71, Tryz.ntmps71
  go_wp2
  go_ret
  exact ⟨rfl, rfl⟩
theorem isToken_any : RuleF 79 tokR := fun r w => by
  by_cases h61 : r = 61
  · subst h61
    go_enter Tryz.func79, Tryz.ntmps79
    go_wp2
    go_ret
    exact ⟨rfl, rfl⟩
  by_cases h59 : r = 59
  · subst h59
    go_enter Tryz.func79, Tryz.ntmps79
    go_wp2
    go_ret
    exact ⟨rfl, rfl⟩
  by_cases h47 : r = 47
  · subst h47
    go_enter Tryz.func79, Tryz.ntmps79
    go_wp2
    go_ret
    exact ⟨rfl, rfl⟩
  by_cases h124 : r = 124
  · subst h124
    go_enter Tryz.func79, Tryz.ntmps79
    go_wp2
    go_ret
    exact ⟨rfl, rfl⟩
  by_cases h42 : r = 42
  · subst h42
    go_enter Tryz.func79, Tryz.ntmps79
    go_wp2
    go_ret
    exact ⟨rfl, rfl⟩
  by_cases h43 : r = 43
  · subst h43
    go_enter Tryz.func79, Tryz.ntmps79
    go_wp2
    go_ret
    exact ⟨rfl, rfl⟩
  by_cases h63 : r = 63
  · subst h63
    go_enter Tryz.func79, Tryz.ntmps79
    go_wp2
    go_ret
    exact ⟨rfl, rfl⟩
  by_cases h40 : r = 40
  · subst h40
    go_enter Tryz.func79, Tryz.ntmps79
    go_wp2
    go_ret
    exact ⟨rfl, rfl⟩
  by_cases h41 : r = 41
  · subst h41
    go_enter Tryz.func79, Tryz.ntmps79
    go_wp2
    go_ret
    exact ⟨rfl, rfl⟩
  by_cases h46 : r = 46
  · subst h46
    go_enter Tryz.func79, Tryz.ntmps79
    go_wp2
    go_ret
    exact ⟨rfl, rfl⟩
  by_cases h126 : r = 126
  · subst h126
    go_enter Tryz.func79, Tryz.ntmps79
    go_wp2
    go_ret
    exact ⟨rfl, rfl⟩
  by_cases h38 : r = 38
  · subst h38
    go_enter Tryz.func79, Tryz.ntmps79
    go_wp2
    go_ret
    exact ⟨rfl, rfl⟩
  by_cases h45 : r = 45
  · subst h45
    go_enter Tryz.func79, Tryz.ntmps79
    go_wp2
    go_ret
    exact ⟨rfl, rfl⟩
  have k61 : (r == 61) = false := by simpa using h61
  have k59 : (r == 59) = false := by simpa using h59
  have k47 : (r == 47) = false := by simpa using h47
  have k124 : (r == 124) = false := by simpa using h124
  have k42 : (r == 42) = false := by simpa using h42
  have k43 : (r == 43) = false := by simpa using h43
  have k63 : (r == 63) = false := by simpa using h63
  have k40 : (r == 40) = false := by simpa using h40
  have k41 : (r == 41) = false := by simpa using h41
  have k46 : (r == 46) = false := by simpa using h46
  have k126 : (r == 126) = false := by simpa using h126
  have k38 : (r == 38) = false := by simpa using h38
  have k45 : (r == 45) = false := by simpa using h45
  have e : tokR r = false := by simp [tokR, h61, h59, h47, h124, h42, h43, h63, h40, h41, h46, h126, h38, h45]
  rw [e]
  clear e h61 h59 h47 h124 h42 h43 h63 h40 h41 h46 h126 h38 h45
  go_enter Tryz.func79, Tryz.ntmps79
  go_wp2
  go_ret
  exact ⟨rfl, rfl⟩
theorem isGuarded_any : RuleF 175 guardR := fun r w => by
  by_cases h91 : r = 91
  · subst h91
    go_enter Tryz.func175, Tryz.ntmps175
    go_wp2
    go_ret
    exact ⟨rfl, rfl⟩
  by_cases h93 : r = 93
  · subst h93
    go_enter Tryz.func175, Tryz.ntmps175
    go_wp2
    go_ret
    exact ⟨rfl, rfl⟩
  by_cases h45 : r = 45
  · subst h45
    go_enter Tryz.func175, Tryz.ntmps175
    go_wp2
    go_ret
    exact ⟨rfl, rfl⟩
  by_cases h92 : r = 92
  · subst h92
    go_enter Tryz.func175, Tryz.ntmps175
    go_wp2
    go_ret
    exact ⟨rfl, rfl⟩
  have k91 : (r == 91) = false := by simpa using h91
  have k93 : (r == 93) = false := by simpa using h93
  have k45 : (r == 45) = false := by simpa using h45
  have k92 : (r == 92) = false := by simpa using h92
  have e : guardR r = false := by simp [guardR, h91, h93, h45, h92]
  rw [e]
  clear e h91 h93 h45 h92
  go_enter Tryz.func175, Tryz.ntmps175
  go_wp2
  go_ret
  exact ⟨rfl, rfl⟩
theorem isInNote_any : RuleF 74 noteR := fun r w => by
  go_enter Tryz.func74, Tryz.ntmps74
  go_wp2
  go_ret
  exact ⟨rfl, rfl⟩
theorem isInName_any : RuleF 77 nameR := fun r w => by
  cases h1 : nameB r with
  | true =>
    have e : nameR r = true := by simp [nameR, h1]
    rw [e]
    have c1 := beginsName_any r w
    rw [h1] at c1
    go_enter Tryz.func77, Tryz.ntmps77
    go_wp2_with (go_at_call 76; refine c1.mono ?_; rintro e w' ⟨rfl, rfl⟩)
    go_ret
    exact ⟨rfl, rfl⟩
  | false =>
    have c1 := beginsName_any r w
    rw [h1] at c1
    cases h2 : decB r with
    | true =>
      have e : nameR r = true := by simp [nameR, h2]
      rw [e]
      have c2 := isDecimal_any r w
      rw [h2] at c2
      go_enter Tryz.func77, Tryz.ntmps77
      go_wp2_with (first | (go_at_call 76; refine c1.mono ?_; rintro e w' ⟨rfl, rfl⟩) | (go_at_call 110; refine c2.mono ?_; rintro e w' ⟨rfl, rfl⟩))
      go_ret
      exact ⟨rfl, rfl⟩
    | false =>
      have e : nameR r = (r == 95) := by simp [nameR, h1, h2]
      rw [e]
      have c2 := isDecimal_any r w
      rw [h2] at c2
      go_enter Tryz.func77, Tryz.ntmps77
      go_wp2_with (first | (go_at_call 76; refine c1.mono ?_; rintro e w' ⟨rfl, rfl⟩) | (go_at_call 110; refine c2.mono ?_; rintro e w' ⟨rfl, rfl⟩))
      go_ret
      exact ⟨rfl, rfl⟩
theorem isFigure_any : RuleF 202 figR := fun r w => by
  cases h1 : decB r with
  | true =>
    have e : figR r = true := by simp [figR, h1]
    rw [e]
    have c1 := isDecimal_any r w
    rw [h1] at c1
    go_enter Tryz.func202, Tryz.ntmps202
    go_wp2_with (go_at_call 110; refine c1.mono ?_; rintro e w' ⟨rfl, rfl⟩)
    go_ret
    exact ⟨rfl, rfl⟩
  | false =>
    have c1 := isDecimal_any r w
    rw [h1] at c1
    by_cases h2 : 65 ≤ r
    · have e : figR r = decide (r ≤ 70) := by simp [figR, h1, h2]
      rw [e]
      go_enter Tryz.func202, Tryz.ntmps202
      go_wp2_with (go_at_call 110; refine c1.mono ?_; rintro e w' ⟨rfl, rfl⟩)
      go_ret
      exact ⟨rfl, rfl⟩
    · have e : figR r = false := by simp [figR, h1, h2]
      rw [e]
      have h2' : decide (65 ≤ r) = false := by simpa using h2
      go_enter Tryz.func202, Tryz.ntmps202
      go_wp2_with (go_at_call 110; refine c1.mono ?_; rintro e w' ⟨rfl, rfl⟩)
      go_ret
      exact ⟨rfl, rfl⟩
theorem isPlain_any : RuleF 174 plainR := fun r w => by
  by_cases h1 : 32 ≤ r
  · have c1 := isGuarded_any r w
    have e : plainR r = !guardR r := by simp [plainR, h1]
    rw [e]
    cases h2 : guardR r with
    | true =>
      rw [h2] at c1
      go_enter Tryz.func174, Tryz.ntmps174
      go_wp2_with (go_at_call 175; refine c1.mono ?_; rintro e w' ⟨rfl, rfl⟩)
      go_ret
      exact ⟨rfl, rfl⟩
    | false =>
      rw [h2] at c1
      go_enter Tryz.func174, Tryz.ntmps174
      go_wp2_with (go_at_call 175; refine c1.mono ?_; rintro e w' ⟨rfl, rfl⟩)
      go_ret
      exact ⟨rfl, rfl⟩
  · have e : plainR r = false := by simp [plainR, h1]
    rw [e]
    have h1' : decide (32 ≤ r) = false := by simpa using h1
    go_enter Tryz.func174, Tryz.ntmps174
    go_wp2
    go_ret
    exact ⟨rfl, rfl⟩
set_option maxHeartbeats 1000000 in

theorem is_any (c : Int) (w : World) : Calls Tryz.prog 72 #[.int .i64 c] w fun e w' => e = .returned (.func (.func 109) #[] #[.pointer (some ⟨w.heap.size, 0, none⟩)]) ∧ w.alloc (.cells #[.int .i64 c] 3) = w' := by
  go_enter Tryz.func72, Tryz.ntmps72
  go_wp2
  go_ret
  exact ⟨rfl, rfl⟩
theorem is1_any (c r : Int) (B : Nat) (w : World) (hc : w.cell? ⟨B, 0, none⟩ = some (.int .i64 c)) : Calls Tryz.prog 109 #[.int .i64 r, .pointer (some ⟨B, 0, none⟩)] w fun e w' => e = .returned (.bool (isC c r)) ∧ w = w' := by
  go_enter Tryz.func109, Tryz.ntmps109
  go_wp2
  go_ret
  exact ⟨rfl, rfl⟩
end Go.Proofs.YtfdjchnckjgapaaGreatDoor
