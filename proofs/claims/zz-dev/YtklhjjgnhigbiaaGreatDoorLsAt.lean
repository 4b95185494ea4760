/-
  A state's row in memory.
-/
import Derived.Test.YtklhjjgnhigbiaaGreatDoorLsRApart
namespace Go.Proofs.YtklhjjgnhigbiaaGreatDoor
open Go.RowKit Go.Shelf
set_option linter.unusedVariables false

theorem at_row {w : World} {na fa : Option Addr} {n C a : Nat} {M : Mach} (h : AtD w na fa n C M) (ha : a < n) (hC : 1 ≤ C) : ∃ g off yc g2 o2, na = some ⟨g, off, none⟩ ∧ g < w.heap.size ∧ w.cell? ⟨g, off + a, none⟩ = some (.slice (some ⟨g2, o2, none⟩) C yc) ∧ g2 < w.heap.size ∧ ∀ c, c < C → w.cell? ⟨g2, o2 + c, none⟩ = some (.int .i64 ((M.d a c : Nat) : Int)) ∧ M.d a c < n := by
  obtain ⟨g, off, y, yc, g2, o2, h1, h2, h3, h4, h5, _, _⟩ := h.1 a 0 ha (by omega)
  subst h4
  refine ⟨g, off, yc, g2, o2, h1, h2, h3, h5, fun c hc => ?_⟩
  obtain ⟨g', off', y', yc', g2', o2', k1, k2, k3, k4, k5, k6, k7⟩ := h.1 a c ha hc
  subst k4
  rw [h1] at k1
  injection k1 with k1
  injection k1 with k1 k1' _
  subst k1 k1'
  rw [h3] at k3
  injection k3 with k3
  injection k3 with k3 _ _
  injection k3 with k3
  injection k3 with k3 k3' _
  subst k3 k3'
  exact ⟨k6, k7⟩
end Go.Proofs.YtklhjjgnhigbiaaGreatDoor
