/-
  slices.Reverse of numbers.
-/
import Derived.Test.YtklhjjgnhigbiaaGreatDoorLsLnk
namespace Go.Proofs.YtklhjjgnhigbiaaGreatDoor
open Go.RowKit Go.Shelf
set_option linter.unusedVariables false

/-- As RowN, with room behind. -/
def RowC (w : World) (base g n cap : Nat) (L : Nat → Nat) : Prop := w.ownsRow base 3 1 (.slice (some ⟨g, 0, none⟩) n cap) n (rowN n L)
section
variable {w w' : World} {base g n cap : Nat} {L : Nat → Nat}
theorem RowC.below (h : RowC w base g n cap L) (hb : Below w.heap.size w w') : RowC w' base g n cap L := ownsRow_below h hb
theorem RowC.at (h : RowC w base g n cap L) {i : Nat} (hi : i < n) : w.cell? ⟨g, i, none⟩ = some (.int .i64 ((L i : Nat) : Int)) := by
  have := h.cells (g := g) rfl i (.int .i64 ((L i : Nat) : Int)) (by simp [rowN, hi])
  rw [add_lit', Nat.zero_add] at this
  exact this
theorem RowC.lt (h : RowC w base g n cap L) : g < w.heap.size ∧ base ≤ g := by
  have := World.ownsRow.lt h g rfl
  exact ⟨this.2, this.1⟩
theorem RowC.nf (h : RowC w base g n cap L) (i : Nat) : w.frozen? ⟨g, i, none⟩ = false := nf_own h i
theorem RowC.set (h : RowC w base g n cap L) {i : Nat} (hi : i < n) (v : Nat) : RowC (w.setCell ⟨g, i, none⟩ (.int .i64 (v : Int))) base g n cap (upN L i v) := by
  have := own_set (i := i) h (.int .i64 (v : Int))
  rw [rowN_set hi] at this
  exact this
theorem RowC.same (h : RowC w base g n cap L) {L' : Nat → Nat} (e : ∀ x, x < n → L x = L' x) : RowC w base g n cap L' := by
  have e2 : rowN n L = rowN n L' := List.map_congr_left (fun x hx => by rw [e x (List.mem_range.1 hx)])
  unfold RowC at h ⊢
  rw [← e2]
  exact h
theorem rowN_cellP (l : List Nat) : rowN l.length (fun k => l.getD k 0) = cellP l := by
  refine List.ext_getElem (by simp [rowN, cellP]) (fun i h1 h2 => ?_)
  have hi : i < l.length := by simpa [rowN] using h1
  simp [rowN, cellP, hi]
end

end Go.Proofs.YtklhjjgnhigbiaaGreatDoor
