/-
  The form of an own slice.
-/
import Derived.Test.YtklhjjgnhigbiaaGreatDoorGD
namespace Go.Proofs.YtklhjjgnhigbiaaGreatDoor
open Go.RowKit Go.Shelf
set_option linter.unusedVariables false

theorem own_slice' {w : World} {base e size n : Nat} {v : Value} {xs : List Value} (h : w.ownsRow base e size v n xs) : ∃ a m c, v = .slice a m c := by
  rcases h.2 with ⟨e, _⟩ | ⟨g, c, cur, e, _⟩
  · exact ⟨_, _, _, e⟩
  · exact ⟨_, _, _, e⟩
end Go.Proofs.YtklhjjgnhigbiaaGreatDoor
