/-
  Small things.
-/
import Derived.Test.YtklhjjgnhigbiaaGreatDoorFlPut
namespace Go.Proofs.YtklhjjgnhigbiaaGreatDoor
open Go.RowKit Go.Shelf
set_option linter.unusedVariables false

/-- What follows the last statement of a block, as a variable: so that it may be cut around. -/
theorem wp_last {P : Program} {s : Code} {Q : Exit → Act → World → Prop} {a : Act} {w : World} (h : ∀ K : Act → World → Prop, (∀ a' w', Q .normal a' w' → K a' w') → s.wp P (Exit.then K Q) a w) : s.wp P Q a w := by
  refine wp_mono (h (fun a' w' => Q .normal a' w') (fun _ _ q => q)) ?_
  intro e a' w' hq
  cases e <;> exact hq
theorem has_snoc (l : List Nat) (x i : Nat) : (l ++ [x]).contains i = (l.contains i || decide (i = x)) := by
  rw [Bool.eq_iff_iff]; simp
end Go.Proofs.YtklhjjgnhigbiaaGreatDoor
