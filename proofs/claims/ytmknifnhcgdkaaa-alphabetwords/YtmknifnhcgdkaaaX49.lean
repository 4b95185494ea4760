/-
  The document's alphabet while it is made, in memory.
-/
import Derived.Test.YtmknifnhcgdkaaaX48
namespace Go.Proofs.Ytmknifnhcgdkaaa
open Go.RowKit Go.Shelf
set_option linter.unusedVariables false

/-- The alphabet at block g, whose rows were all made behind the world w2; P: the entries. -/
structure RDrf (w2 w : World) (g : Nat) (vs vm vl ve : Value) (M : List Nat) (L : List Int) (P : List S3.Pp) : Prop where
  glt : g < w2.heap.size
  heap : w.heap[g]? = some (.cells [vs, vm, vl].toArray 41 (0, 0))
  fr : w2.grownBy w (some g)
  masks : w.ownsRow w2.heap.size 34 1 vm M.length (u64s M)
  least : w.ownsRow w2.heap.size 3 1 vl L.length (L.map (Value.int .i64))
  ents : w.ownsRow w2.heap.size 66 3 ve P.length (S3.cellsPs P)
theorem fr_step {w2 w w' : World} {g : Nat} {row : Option Nat} (h : w2.grownBy w (some g)) (hg : w.grownBy w' row) (hr : ∀ k, row = some k → w2.heap.size ≤ k) : w2.grownBy w' (some g) :=
  ⟨hg.os.trans h.os, hg.tape.trans h.tape, hg.output.trans h.output, Nat.le_trans h.size hg.size, fun k hk hne => (hg.block k (Nat.lt_of_lt_of_le hk h.size) (fun e => by have := hr k e.symm; omega)).trans (h.block k hk hne)⟩
section
variable {w2 w w' : World} {g : Nat} {vs vm vl ve v' : Value} {M M' : List Nat} {L L' : List Int} {P P' : List S3.Pp}
theorem RDrf.lt (h : RDrf w2 w g vs vm vl ve M L P) : g < w.heap.size := S3.heap_lt h.heap
theorem RDrf.below (h : RDrf w2 w g vs vm vl ve M L P) (hb : Below w.heap.size w w') : RDrf w2 w' g vs vm vl ve M L P :=
  ⟨h.glt, (hb.block g h.lt).trans h.heap, fr_step (row := none) h.fr ⟨hb.os, hb.tape, hb.output, hb.size, fun k hk _ => hb.block k hk⟩ (fun k e => by cases e), ownsRow_below h.masks hb, ownsRow_below h.least hb, ownsRow_below h.ents hb⟩
theorem RDrf.rowM (h : RDrf w2 w g vs vm vl ve M L P) (hg : w.grownBy w' vm.ownBlock) (hr : w'.ownsRow w2.heap.size 34 1 v' M'.length (u64s M')) :
    (w'.cell? ⟨g, 1, none⟩ = some vm ∧ w'.frozen? ⟨g, 1, none⟩ = false) ∧ RDrf w2 (w'.setCell ⟨g, 1, none⟩ v') g vs v' vl ve M' L P := by
  have hgd : w'.heap[g]? = some (.cells [vs, vm, vl].toArray 41 (0, 0)) := (hg.block g h.lt (fun e => S3.own_ne h.masks h.heap (by decide) e.symm)).trans h.heap
  have k2 := h.least.kept hg (S3.rows_apart h.least h.masks (by decide))
  have k3 := h.ents.kept hg (S3.rows_apart h.ents h.masks (by decide))
  refine ⟨⟨S3.cell_row hgd rfl, frozen_of_row _ _ _ _ _ hgd⟩, ⟨h.glt, S3.heap_set_row hgd rfl, (fr_step h.fr hg (fun k hk => (h.masks.lt k hk).1)).trans (S3.set_grown w' g 1 _), ?_, ?_, ?_⟩⟩
  · exact hr.kept (S3.set_grown w' g 1 _) (.inr (S3.own_ne hr hgd (by decide)))
  · exact k2.kept (S3.set_grown w' g 1 _) (.inr (S3.own_ne k2 hgd (by decide)))
  · exact k3.kept (S3.set_grown w' g 1 _) (.inr (S3.own_ne k3 hgd (by decide)))
theorem RDrf.rowL (h : RDrf w2 w g vs vm vl ve M L P) (hg : w.grownBy w' vl.ownBlock) (hr : w'.ownsRow w2.heap.size 3 1 v' L'.length (L'.map (Value.int .i64))) :
    (w'.cell? ⟨g, 2, none⟩ = some vl ∧ w'.frozen? ⟨g, 2, none⟩ = false) ∧ RDrf w2 (w'.setCell ⟨g, 2, none⟩ v') g vs vm v' ve M L' P := by
  have hgd : w'.heap[g]? = some (.cells [vs, vm, vl].toArray 41 (0, 0)) := (hg.block g h.lt (fun e => S3.own_ne h.least h.heap (by decide) e.symm)).trans h.heap
  have k2 := h.masks.kept hg (S3.rows_apart h.masks h.least (by decide))
  have k3 := h.ents.kept hg (S3.rows_apart h.ents h.least (by decide))
  refine ⟨⟨S3.cell_row hgd rfl, frozen_of_row _ _ _ _ _ hgd⟩, ⟨h.glt, S3.heap_set_row hgd rfl, (fr_step h.fr hg (fun k hk => (h.least.lt k hk).1)).trans (S3.set_grown w' g 2 _), ?_, ?_, ?_⟩⟩
  · exact k2.kept (S3.set_grown w' g 2 _) (.inr (S3.own_ne k2 hgd (by decide)))
  · exact hr.kept (S3.set_grown w' g 2 _) (.inr (S3.own_ne hr hgd (by decide)))
  · exact k3.kept (S3.set_grown w' g 2 _) (.inr (S3.own_ne k3 hgd (by decide)))
theorem RDrf.rowP (h : RDrf w2 w g vs vm vl ve M L P) (hg : w.grownBy w' ve.ownBlock) (hr : w'.ownsRow w2.heap.size 66 3 v' P'.length (S3.cellsPs P')) : RDrf w2 w' g vs vm vl v' M L P' :=
  ⟨h.glt, (hg.block g h.lt (fun e => S3.own_ne h.ents h.heap (by decide) e.symm)).trans h.heap, fr_step h.fr hg (fun k hk => (h.ents.lt k hk).1), h.masks.kept hg (S3.rows_apart h.masks h.ents (by decide)), h.least.kept hg (S3.rows_apart h.least h.ents (by decide)), hr⟩
theorem RDrf.alp (h : RDrf w2 w g vs vm vl ve M L P) : RAlp w g vs vm vl M L := ⟨h.heap, u64_of_row h.masks, ints_of_row h.least⟩
end
theorem RAlp.below {w w' : World} {g : Nat} {vs vm vl : Value} {M : List Nat} {L : List Int} (h : RAlp w g vs vm vl M L) (hb : Below w.heap.size w w') : RAlp w' g vs vm vl M L :=
  ⟨(hb.block g (S3.heap_lt h.1)).trans h.1, h.2.1.below hb, h.2.2.below hb⟩
/-- A slice of ints that lies apart from the alphabet's block is as it was. -/
theorem ints_apart {w2 w : World} {g : Nat} {vs vm vl vE : Value} {E : List Int} (hv : ∃ a n c, vs = .slice a n c) (hm : ∃ a n c, vm = .slice a n c) (hl : ∃ a n c, vl = .slice a n c) (hg : w2.heap[g]? = some (.cells [vs, vm, vl].toArray 41 (0, 0))) (h : IntsIn w2 vE E) (hf : w2.grownBy w (some g)) : IntsIn w vE E := by
  obtain ⟨a, cap, rfl, hc, hi⟩ := h
  refine ⟨a, cap, rfl, hc, fun i hlt => ?_⟩
  obtain ⟨ge, off, rfl, hge, hci⟩ := hi i hlt
  refine ⟨ge, off, rfl, Nat.lt_of_lt_of_le hge hf.size, ?_⟩
  have hne : ge ≠ g := fun e => by
    subst e
    rw [cell_of_row _ _ _ _ _ _ hg] at hci
    obtain ⟨a1, n1, c1, rfl⟩ := hv
    obtain ⟨a2, n2, c2, rfl⟩ := hm
    obtain ⟨a3, n3, c3, rfl⟩ := hl
    have h3 : off + i = 0 ∨ off + i = 1 ∨ off + i = 2 ∨ 3 ≤ off + i := by omega
    rcases h3 with q | q | q | q
    · rw [q] at hci; simp at hci
    · rw [q] at hci; simp at hci
    · rw [q] at hci; simp at hci
    · rw [Array.getElem?_eq_none (by simpa using q)] at hci; cases hci
  exact (hf.cell_far ⟨ge, off + i, none⟩ hge (by simpa using hne)).trans hci
theorem findR_cls {M : List Nat} {m : Nat} (h : m ∈ M) : findR M m = ((M.idxOf m : Nat) : Int) := by unfold findR; rw [if_pos h]
theorem findR_no {M : List Nat} {m : Nat} (h : ¬ m ∈ M) : findR M m = -1 := by unfold findR; rw [if_neg h]
end Go.Proofs.Ytmknifnhcgdkaaa
