/-
  scansionref13.both and met; steps in memory.
-/
import Derived.Test.YtklhjjgnhigbiaaGreatDoorLsRLeast
import Derived.BigQuiet
namespace Go.Proofs.YtklhjjgnhigbiaaGreatDoor
open Go.RowKit Go.Shelf
set_option linter.unusedVariables false

/-- May two be held against one another? -/
def bothB (N : List (List Int)) (F : List Bool) (N' : List (List Int)) (F' : List Bool) : Bool := rightD N F && rightD N' F' && decide ((N.getD 0 []).length = (N'.getD 0 []).length)
theorem row0_at {w : World} {na : Option Addr} {N : List (List Int)} {F : List Bool} (hr : rightD N F = true) (hx : ∀ i, (h : i < N.length) → ∃ g off x, na = some ⟨g, off, none⟩ ∧ g < w.heap.size ∧ w.cell? ⟨g, off + i, none⟩ = some x ∧ IntsAt w x N[i]) : ∃ g off y yc, na = some ⟨g, off, none⟩ ∧ g < w.heap.size ∧ w.cell? ⟨g, off, none⟩ = some (.slice y (N.getD 0 []).length yc) := by
  have h0 : 0 < N.length := (rightD_iff.1 hr).1
  obtain ⟨g, off, x, h1, h2, h3, h4⟩ := hx 0 h0
  obtain ⟨y, yc, rfl, _⟩ := h4.slice
  have e : (N.getD 0 []).length = N[0].length := by rw [List.getD_eq_getElem?_getD, List.getElem?_eq_getElem h0]; rfl
  rw [Nat.add_zero] at h3
  rw [e]
  exact ⟨g, off, y, yc, h1, h2, h3⟩


/-- A pair of states, which one led to it, and by which class. -/
structure St where
  a : Nat
  b : Nat
  fr : Int
  c : Nat
def stC (x : St) : List Value := [.int .i64 (x.a : Int), .int .i64 (x.b : Int), .int .i64 x.fr, .int .i64 (x.c : Int)]
def stCs (l : List St) : List Value := l.flatMap stC
theorem stCs_len (l : List St) : (stCs l).length = l.length * 4 := by
  induction l with
  | nil => rfl
  | cons x l ih =>
    show (stC x ++ stCs l).length = _
    rw [List.length_append, ih]
    simp [stC]
    omega
theorem stCs_snoc (l : List St) (x : St) : stCs (l ++ [x]) = stCs l ++ stC x := by simp [stCs]
theorem stCs_at : ∀ (l : List St) (i f : Nat), (h : i < l.length) → f < 4 → (stCs l)[i * 4 + f]? = (stC l[i])[f]?
  | x :: l, 0, f, h, hf => by
    show (stC x ++ stCs l)[0 * 4 + f]? = _
    rw [List.getElem?_append_left (by simp [stC]; omega)]
    simp
  | x :: l, i + 1, f, h, hf => by
    show (stC x ++ stCs l)[(i + 1) * 4 + f]? = _
    rw [List.getElem?_append_right (by simp [stC]; omega)]
    have e : (i + 1) * 4 + f - (stC x).length = i * 4 + f := by simp [stC]; omega
    rw [e, stCs_at l i f (by simpa using h) hf]
    rfl
def metS (l : List St) (a b : Nat) : Bool := l.any fun x => x.a == a && x.b == b

end Go.Proofs.YtklhjjgnhigbiaaGreatDoor
