/-
  follow.Build.
-/
import Derived.Test.YtehkaiohmcenbabDoorFlAut
import Derived.Test.YtehkaiohmcenbabDoorFlNote
import Derived.Test.YtehkaiohmcenbabDoorFlRd
import Derived.Deep.CutRange
namespace Go.Proofs.YtehkaiohmcenbabDoor
open Go.RowKit Go.Shelf
set_option linter.unusedVariables false

theorem Tryd.infoMarks : (Tryd.prog.info? 76).map (fun i => (i.zero, i.size, i.bytes)) = some (some (.agg #[.int .i64 0, .slice none 0 0]), 2, 32) := by kernel_rfl
theorem Tryd.infoInts : (Tryd.prog.info? 28).map (fun i => (i.zero, i.size, i.bytes)) = some (some (.slice none 0 0), 1, 24) := by kernel_rfl
/-- The rows of the first j marks are laid. -/
def Laid (lo m nw j : Nat) (G : Nat → Nat) (w : World) : Prop :=
  w.cell? ⟨lo + 2, 0, none⟩ = some (.slice (some ⟨lo + 1, 0, none⟩) m m) ∧
  (∃ cs, w.heap[lo + 1]? = some (.cells cs 76 (0, 0)) ∧ cs.size = m * 2 ∧ ∀ i, i < j → cs[i * 2]? = some (.int .i64 (m : Int)) ∧ cs[i * 2 + 1]? = some (.slice (some ⟨G i, 0, none⟩) nw nw)) ∧
  (∀ i, i < j → lo + 3 ≤ G i ∧ G i < w.heap.size ∧ MrkAt w (G i) (List.replicate nw 0)) ∧ ∀ i k, i < j → k < j → G i = G k → i = k
theorem Laid.to {lo m nw j : Nat} {G : Nat → Nat} {w w' : World} (h : Laid lo m nw j G w) (hq : ∀ k, k < w.heap.size → w'.heap[k]? = w.heap[k]?) (hs : w.heap.size ≤ w'.heap.size) : Laid lo m nw j G w' := by
  obtain ⟨h1, ⟨cs, h2, h3, h4⟩, h5, h6⟩ := h
  refine ⟨(World.cell?_of_block (a := ⟨lo + 2, 0, none⟩) (hq _ (cell_some_lt h1))).trans h1, ⟨cs, (hq _ (lt_of_heap h2)).trans h2, h3, h4⟩, fun i hi => ?_, h6⟩
  obtain ⟨a, b, c⟩ := h5 i hi
  exact ⟨a, by omega, (hq _ b).trans c⟩
theorem Laid.add {lo m nw j g : Nat} {G : Nat → Nat} {w w' : World} (h : Laid lo m nw j G w) (hj : j < m) (hb : Below w.heap.size w w') (hlo : lo + 3 ≤ w.heap.size) (hg : w.heap.size ≤ g) (hm : MrkAt w' g (List.replicate nw 0)) :
    Laid lo m nw (j + 1) (fun i => if i = j then g else G i) ((w'.setCell ⟨lo + 1, j * 2, none⟩ (.int .i64 (m : Int))).setCell ⟨lo + 1, j * 2 + 1, none⟩ (.slice (some ⟨g, 0, none⟩) nw nw)) := by
  obtain ⟨h1, ⟨cs, h2, h3, h4⟩, h5, h6⟩ := h.to (fun k hk => hb.block k hk) hb.size
  have hO : OnlyB (lo + 1) w' ((w'.setCell ⟨lo + 1, j * 2, none⟩ (.int .i64 (m : Int))).setCell ⟨lo + 1, j * 2 + 1, none⟩ (.slice (some ⟨g, 0, none⟩) nw nw)) := ((OnlyB.refl _ _).set _ _).set _ _
  have hne : ∀ i, i < j → G i ≠ g := fun i hi => by have := (h.2.2.1 i hi).2.1; omega
  refine ⟨(World.cell?_of_block (a := ⟨lo + 2, 0, none⟩) (hO.block _ (by show lo + 2 ≠ lo + 1; omega))).trans h1, ⟨_, heap_setN (heap_setN h2 _) _, by simp [h3], fun i hi => ?_⟩, fun i hi => ?_, fun i k hi hk e => ?_⟩
  · dsimp only
    by_cases e : i = j
    · subst e
      rw [if_pos rfl]
      constructor
      · rw [Array.getElem?_setIfInBounds_ne (by omega), Array.getElem?_setIfInBounds_self_of_lt (by omega)]
      · rw [Array.getElem?_setIfInBounds_self_of_lt (by simp; omega)]
    · rw [if_neg e, Array.getElem?_setIfInBounds_ne (by omega), Array.getElem?_setIfInBounds_ne (by omega), Array.getElem?_setIfInBounds_ne (by omega), Array.getElem?_setIfInBounds_ne (by omega)]
      exact h4 i (by omega)
  · dsimp only
    by_cases e : i = j
    · subst e
      rw [if_pos rfl]
      exact ⟨by omega, by rw [hO.size]; exact hm.lt, (hO.block g (by omega)).trans hm⟩
    · rw [if_neg e]
      obtain ⟨a, b, c⟩ := h5 i (by omega)
      exact ⟨a, by rw [hO.size]; exact b, (hO.block _ (by omega)).trans c⟩
  · dsimp only at e
    by_cases e1 : i = j
    · by_cases e2 : k = j
      · omega
      · rw [if_pos e1, if_neg e2] at e
        exact absurd e.symm (hne k (by omega))
    · by_cases e2 : k = j
      · rw [if_neg e1, if_pos e2] at e
        exact absurd e (hne i (by omega))
      · rw [if_neg e1, if_neg e2] at e
        exact h6 i k (by omega) (by omega) e

theorem bldA_zero {n : Nd} {w w' : World} {er : Int} (hE : errF n = er) (h0 : er ≠ 0) (hB : Below w.heap.size w w') : BldA n w (.returned (.tuple #[.agg #[.bool false, .slice none 0 0, .slice none 0 0, .slice none 0 0, .slice none 0 0], .int .i64 er])) w' := by
  refine ⟨_, by rw [hE], ?_, hB⟩
  have e : autF n = autZ := by unfold autF; rw [hE, if_neg h0]
  rw [e]; exact autZ_at _

end Go.Proofs.YtehkaiohmcenbabDoor
