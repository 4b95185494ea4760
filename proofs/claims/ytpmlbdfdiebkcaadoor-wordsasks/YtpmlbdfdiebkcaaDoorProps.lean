/-
  Slices of entries that a call made.
-/
import Derived.Test.YtpmlbdfdiebkcaaDoorAwake
namespace Go.Proofs.YtpmlbdfdiebkcaaDoor
open Go.RowKit
set_option linter.unusedVariables false

theorem Tryd.undPs : Tryd.prog.underlying 45 = some (.slice 70) := by kernel_rfl
/-- The cells of entries. -/
def cellsP (p : Pp) : List Value := [.int .i64 p.lo, .int .i64 p.hi, .int .u8 p.v]
def cellsPs (l : List Pp) : List Value := l.flatMap cellsP
theorem cellsPs_snoc (l : List Pp) (p : Pp) : cellsPs (l ++ [p]) = cellsPs l ++ cellsP p := by simp [cellsPs]
theorem cellsPs_length : ∀ (l : List Pp), (cellsPs l).length = l.length * 3
  | [] => rfl
  | r :: l => by
    have e : cellsPs (r :: l) = cellsP r ++ cellsPs l := rfl
    rw [e, List.length_append, cellsPs_length l]
    simp [cellsP]; omega
theorem cellsPs_at : ∀ (l : List Pp) (i j : Nat) (h : i < l.length), j < 3 → (cellsPs l)[i * 3 + j]? = (cellsP l[i])[j]?
  | u :: us, 0, j, h, hj => by
    have e : cellsPs (u :: us) = cellsP u ++ cellsPs us := rfl
    rw [e, Nat.zero_mul, Nat.zero_add, List.getElem?_append_left (by simpa [cellsP] using hj)]
    rfl
  | u :: us, i + 1, j, h, hj => by
    have e : cellsPs (u :: us) = cellsP u ++ cellsPs us := rfl
    rw [e, List.getElem?_append_right (by simp [cellsP]; omega)]
    have e2 : (i + 1) * 3 + j - (cellsP u).length = i * 3 + j := by simp [cellsP]; omega
    rw [e2, cellsPs_at us i j (by simpa using h) hj]
    rfl
theorem cellsPs_one (l : List Pp) : ∀ u ∈ cellsPs l, u.oneCell' = true := fun u hu => by
  obtain ⟨r, _, h⟩ := List.mem_flatMap.1 hu
  simp [cellsP] at h
  rcases h with rfl | rfl | rfl <;> rfl
theorem props_of_row {w : World} {base : Nat} {v : Value} {l : List Pp} (h : w.ownsRow base 70 3 v l.length (cellsPs l)) : PropsIn w v l := by
  rcases h.2 with ⟨rfl, h0⟩ | ⟨g, cap, cur, rfl, hb, hg, hc, hm, hs, ht⟩
  · exact ⟨none, 0, by rw [h0], by omega, fun i hi => by omega⟩
  · refine ⟨_, cap, rfl, hc, fun i hi => ⟨g, 0, rfl, heap_lt hg, ?_, ?_, ?_⟩⟩
    · have := h.cells (g := g) rfl (i * 3 + 0) (.int .i64 l[i].lo) (by rw [cellsPs_at l i 0 hi (by omega)]; rfl)
      rw [Addr.add_mid] at this
      exact this
    · have := h.cells (g := g) rfl (i * 3 + 1) (.int .i64 l[i].hi) (by rw [cellsPs_at l i 1 hi (by omega)]; rfl)
      rw [Addr.add_mid] at this
      exact this
    · have := h.cells (g := g) rfl (i * 3 + 2) (.int .u8 l[i].v) (by rw [cellsPs_at l i 2 hi (by omega)]; rfl)
      rw [Addr.add_mid] at this
      exact this

theorem below_drewN' {B : Nat} {a w : World} (h : Below B a w) : ∀ k, Below B a (w.drewN k)
  | 0 => h
  | k + 1 => (below_drewN' h k).drew
theorem size_drewN (w : World) : ∀ k, (w.drewN k).heap.size = w.heap.size
  | 0 => rfl
  | k + 1 => by
    show ((w.drewN k).drew).heap.size = _
    exact size_drewN w k
end Go.Proofs.YtpmlbdfdiebkcaaDoor
