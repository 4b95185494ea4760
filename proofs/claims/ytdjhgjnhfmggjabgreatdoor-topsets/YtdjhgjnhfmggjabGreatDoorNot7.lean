/-
  What ranges.Not answers.
-/
import Derived.Test.YtdjhgjnhfmggjabGreatDoorChoose
namespace Go.Proofs.YtdjhgjnhfmggjabGreatDoor
open Go.RowKit
set_option linter.unusedVariables false

theorem not1_any : Takes 29 (fun x _ => !x) := fun x y w => by
  go_enter Tryz.func29, Tryz.ntmps29
  go_wp2
  go_ret
  exact ⟨rfl, rfl⟩
/-- What is told of a call that makes a set. -/
def Makes (w : World) (f : Int → Bool) (e : Ending) (w' : World) : Prop := ∃ l v, e = .returned v ∧ Upto f l 1114112 ∧ w'.ownsRow w.heap.size 27 2 v l.length (cellsRs l) ∧ Below w.heap.size w w'
theorem not_any (a : List Rg) (ha : IsSet a) (va : Value) (w : World) (hva : RngIn w va a) :
    Calls Tryz.prog 9 #[va] w fun e w' => Makes w (fun x => !hasR a x) e w' := by
  have HC := choose_any 29 _ not1_any (enters_of Tryz.func29 (by kernel_rfl) rfl) a [] ha IsSet.nil va _ w hva (RngAt.nil _ _)
  obtain ⟨ada, ca, rfl, _, _⟩ := hva
  go_enter Tryz.func9, Tryz.ntmps9
  go_wp2_with fail
  refine HC.mono ?_
  rintro e w1 ⟨l, v, hu, rfl, ho, hB⟩
  have HO : Hid _ := ho
  have HU : Hid _ := hu
  clear ho hu HC
  go_wp2
  go_ret
  exact ⟨l, v, rfl, HU.out, HO.out, hB⟩
end Go.Proofs.YtdjhgjnhfmggjabGreatDoor
