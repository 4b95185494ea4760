/-
  words.past.with: the past behind one head more.
-/
import Derived.Test.YtpmlbdfdiebkcaaDoorEnds6
namespace Go.Proofs.YtpmlbdfdiebkcaaDoor
open Go.RowKit
set_option linter.unusedVariables false

set_option maxRecDepth 100000 in
set_option maxHeartbeats 4000000 in
theorem with_any (before last : Int) (regs : Nat) (k : Int) (w : World) (hr : regs ≤ 10000) :
    Calls Tryd.prog 25 #[pastV before last (regs : Int), .int .i64 k] w fun e w' => e = .returned (pastV last k ((if k = 7 then regs + 1 else 0 : Nat) : Int)) ∧ Below w.heap.size w w' := by
  unfold pastV
  by_cases h : k = 7
  · subst h
    rw [if_pos rfl]
    have hw : IntKind.i64.wrap ((regs : Int) + 1) = ((regs + 1 : Nat) : Int) := (IntWalk.i64_in _ (by omega)).trans (by omega)
    clear hr
    go_enter Tryd.func25, Tryd.ntmps25
    go_wp2
    refine bodyPost_ret (v := .agg #[.int .i64 last, .int .i64 7, .int .i64 ((regs + 1 : Nat) : Int)]) (by simp [results, Tryd.results25, go_sem]) rfl ⟨rfl, ?_⟩
    exact (((Below.refl _ _).alloc (Nat.le_refl _) _).alloc (by simp) _).alloc (by simp; omega) _
  · rw [if_neg h]
    have h2 : (k == 7) = false := by simpa using h
    clear h hr
    go_enter Tryd.func25, Tryd.ntmps25
    go_wp2
    refine bodyPost_ret (v := .agg #[.int .i64 last, .int .i64 k, .int .i64 0]) (by simp [results, Tryd.results25, go_sem]) rfl ⟨rfl, ?_⟩
    exact (((Below.refl _ _).alloc (Nat.le_refl _) _).alloc (by simp) _).alloc (by simp; omega) _
end Go.Proofs.YtpmlbdfdiebkcaaDoor
