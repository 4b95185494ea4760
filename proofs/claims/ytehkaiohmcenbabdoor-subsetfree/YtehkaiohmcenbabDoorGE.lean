/-
  The document's has, and End. The document's Step.
-/
import Derived.Test.YtehkaiohmcenbabDoorGD
namespace Go.Proofs.YtehkaiohmcenbabDoor
open Go.RowKit Go.Shelf
set_option linter.unusedVariables false


end Go.Proofs.YtehkaiohmcenbabDoor

namespace Go.Proofs.YtehkaiohmcenbabDoor
open Go.RowKit Go.Shelf
set_option linter.unusedVariables false

/-- Does the place k follow one of the first j, or begin, where one stands at 0? -/
def isJ (d : AutD) (at' : List Nat) (k j : Nat) : Bool := (at'.contains 0 && d.first.contains k) || (at'.take j).any (fun x => decide (0 < x) && (folP d x).contains k)
theorem isJ_zero (d : AutD) (at' : List Nat) (k : Nat) : isJ d at' k 0 = (at'.contains 0 && d.first.contains k) := by simp [isJ]
theorem isJ_succ (d : AutD) (at' : List Nat) (k : Nat) {j : Nat} (h : j < at'.length) : isJ d at' k (j + 1) = (isJ d at' k j || (decide (0 < at'[j]) && (folP d at'[j]).contains k)) := by
  unfold isJ
  rw [List.take_add_one, List.getElem?_eq_getElem h, List.any_append, Bool.or_assoc]
  simp
theorem isJ_all (d : AutD) (at' : List Nat) (k : Nat) : isJ d at' k at'.length = at'.any (fun x => (folP d x).contains k) := by
  unfold isJ
  rw [List.take_length, Bool.eq_iff_iff]
  simp only [Bool.or_eq_true, Bool.and_eq_true, List.contains_iff_mem, List.any_eq_true, decide_eq_true_eq]
  constructor
  · rintro (⟨h1, h2⟩ | ⟨x, h1, _, h2⟩)
    · exact ⟨0, h1, by simpa [folP] using h2⟩
    · exact ⟨x, h1, h2⟩
  · rintro ⟨x, h1, h2⟩
    by_cases h0 : x = 0
    · subst h0
      exact .inl ⟨h1, by simpa [folP] using h2⟩
    · exact .inr ⟨x, h1, by omega, h2⟩
theorem rgF_suc (f : Nat → Bool) (k : Nat) : rgF f (k + 1) = if f k then rgF f k ++ [k] else rgF f k := by
  unfold rgF
  rw [List.range_succ, List.filter_append]
  cases h : f k <;> simp [h]
theorem drewN_heap' (w : World) : ∀ k, (w.drewN k).heap = w.heap
  | 0 => rfl
  | k + 1 => drewN_heap' w.drew k
theorem own_slice' {w : World} {base e size n : Nat} {v : Value} {xs : List Value} (h : w.ownsRow base e size v n xs) : ∃ a m c, v = .slice a m c := by
  rcases h.2 with ⟨e, _⟩ | ⟨g, c, cur, e, _⟩
  · exact ⟨_, _, _, e⟩
  · exact ⟨_, _, _, e⟩
/-- Where one stands behind a sign, of the places below k. -/
def stepK (d : AutD) (at' : List Nat) (sign k : Nat) : List Nat := rgF (fun y => at'.any (fun x => (folP d x).contains y) && tkP d sign y) k
theorem stepK_all (d : AutD) (at' : List Nat) (sign : Nat) : stepK d at' sign (d.sets.length + 1) = stepL d at' sign := rfl

end Go.Proofs.YtehkaiohmcenbabDoor
