/-
  What ranges.choose answers of two sets: the one list of the numbers that the closure takes; and what Or, And, Less, Not answer.
-/
import Derived.Test.YtdjhgjnhfmggjaaGreatDoorStretch
import Derived.Shelf.Abstract
namespace Go.Proofs.YtdjhgjnhfmggjaaGreatDoor
open Go.RowKit Go.Shelf
set_option linter.unusedVariables false

/-- A set: its ranges rise and do not touch, from 0 to 10FFFF. -/
def IsSet (a : List Rg) : Prop := NormFrom 0 a ∧ ∀ r ∈ a, r.hi ≤ 1114111
theorem IsSet.upto {a : List Rg} (h : IsSet a) : Upto (hasR a) a 1114112 := by
  refine ⟨h.1, fun x => ?_⟩
  cases q : hasR a x with
  | false => exact (decide_eq_false (fun z => by cases z.2.2)).symm
  | true =>
    obtain ⟨r, hr, z1, z2⟩ := hasR_iff.1 q
    have := h.2 r hr
    have := h.1.ord r hr
    exact (decide_eq_true ⟨by omega, by omega, rfl⟩).symm
theorem Upto.isSet {f : Int → Bool} {a : List Rg} (h : Upto f a 1114112) : IsSet a := ⟨h.1, fun r hr => by have := h.hi r hr; omega⟩
theorem IsSet.len {a : List Rg} (h : IsSet a) : a.length ≤ 557056 := h.upto.len (by omega) (by omega)
theorem IsSet.nil : IsSet [] := ⟨trivial, fun r hr => by cases hr⟩

/-- The closure g answers f, and turns nothing. -/
def Takes (g : Nat) (f : Bool → Bool → Bool) : Prop := ∀ x y w, Calls Tryz.prog g #[.bool x, .bool y] w fun e w' => e = .returned (.bool (f x y)) ∧ w' = w

end Go.Proofs.YtdjhgjnhfmggjaaGreatDoor
