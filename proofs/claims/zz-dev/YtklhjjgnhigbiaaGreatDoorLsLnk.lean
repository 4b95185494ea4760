/-
  least.links: numbers that are linked.
-/
import Derived.Test.YtklhjjgnhigbiaaGreatDoorLsSplit
import Derived.Test.YtklhjjgnhigbiaaGreatDoorLsUf
namespace Go.Proofs.YtklhjjgnhigbiaaGreatDoor
open Go.RowKit Go.Shelf
set_option linter.unusedVariables false

def rowN (n : Nat) (L : Nat → Nat) : List Value := (List.range n).map fun x => Value.int .i64 ((L x : Nat) : Int)
theorem rowN_set {n : Nat} {L : Nat → Nat} {i : Nat} (hi : i < n) (v : Nat) : (rowN n L).set i (.int .i64 (v : Int)) = rowN n (upN L i v) := by
  refine List.ext_getElem (by simp [rowN]) (fun k h1 h2 => ?_)
  rw [List.getElem_set]
  by_cases e : i = k
  · subst e
    simp [rowN, upN]
  · have e2 : ¬ k = i := fun q => e q.symm
    simp [rowN, upN, e, e2]
/-- The block g holds the n numbers that L tells. -/
def RowN (w : World) (base g n : Nat) (L : Nat → Nat) : Prop := w.ownsRow base 3 1 (.slice (some ⟨g, 0, none⟩) n n) n (rowN n L)
section
variable {w w' : World} {base g n : Nat} {L : Nat → Nat}
theorem RowN.below (h : RowN w base g n L) (hb : Below w.heap.size w w') : RowN w' base g n L := ownsRow_below h hb
theorem RowN.at (h : RowN w base g n L) {i : Nat} (hi : i < n) : w.cell? ⟨g, i, none⟩ = some (.int .i64 ((L i : Nat) : Int)) := by
  have := h.cells (g := g) rfl i (.int .i64 ((L i : Nat) : Int)) (by simp [rowN, hi])
  rw [add_lit', Nat.zero_add] at this
  exact this
theorem RowN.lt (h : RowN w base g n L) : g < w.heap.size ∧ base ≤ g := by
  have := World.ownsRow.lt h g rfl
  exact ⟨this.2, this.1⟩
theorem RowN.nf (h : RowN w base g n L) (i : Nat) : w.frozen? ⟨g, i, none⟩ = false := nf_own h i
theorem RowN.typed (h : RowN w base g n L) : ∃ cs, w.heap[g]? = some (.cells cs 3 (0, 0)) := own_typed h (k := g) rfl
theorem RowN.set (h : RowN w base g n L) {i : Nat} (hi : i < n) (v : Nat) : RowN (w.setCell ⟨g, i, none⟩ (.int .i64 (v : Int))) base g n (upN L i v) := by
  have := own_set (i := i) h (.int .i64 (v : Int))
  rw [rowN_set hi] at this
  exact this
theorem RowN.blk (h : RowN w base g n L) (hk : w'.heap[g]? = w.heap[g]?) : RowN w' base g n L := own_blk h (fun k e => by
  have : g = k := by injection e
  subst this
  exact hk)
theorem RowN.same (h : RowN w base g n L) {L' : Nat → Nat} (e : ∀ x, x < n → L x = L' x) : RowN w base g n L' := by
  have e2 : rowN n L = rowN n L' := List.map_congr_left (fun x hx => by rw [e x (List.mem_range.1 hx)])
  unfold RowN at h ⊢
  rw [← e2]
  exact h
theorem row_made (w : World) (hb : base ≤ w.heap.size) (hn : n ≤ maxLen) : RowN (w.alloc (.cells (madeCells #[.int .i64 0] n) 3)) base w.heap.size n (fun _ => 0) := by
  have := World.ownsRow_lit (base := base) (e := 3) (size := 1) w (madeCells #[.int .i64 0] n) n hb hn (by simp [size_madeCells])
  rw [made_one] at this
  exact this
end

end Go.Proofs.YtklhjjgnhigbiaaGreatDoor
