/-
  What a round of a range over a function keeps: every block of cells that is not the body's own.
-/
import Derived.RangeFuncNested
import Derived.RangeFuncBound
import Derived.RangeFuncCalls
import Derived.RangeFuncLeaves
import Derived.Shelf.Abstract
import Derived.Shelf.RegionOpen
import Derived.WalkKit
import Derived.OwnWalkIn
import Derived.TacticsInMore
import Derived.LoopNIn
import Derived.LoopIn
import Derived.RangeFuncBox
import Derived.Maps.OwnIn
import Derived.WalkSpells
import Derived.Deep.AppendLies
import Derived.Test.YtmhligcmcfikfaaDoorEnds
namespace Go.Proofs.YtmhligcmcfikfaaDoor
open Go.RowKit Go.Shelf
set_option linter.unusedVariables false
attribute [local go_sem] Oper.semAt_some

/-- Block k is the body's own: its box B, or what the slice in that box leads to. -/
def Own1 (B : Nat) (W : World) (k : Nat) : Prop := k = B ∨ ∃ n c, W.cell? ⟨B, 0, none⟩ = some (.slice (some ⟨k, 0, none⟩) n c)
/-- The box is there, and what its slice leads to is there. -/
def Fit1 (B : Nat) (W : World) : Prop := B < W.heap.size ∧ ∀ k n c, W.cell? ⟨B, 0, none⟩ = some (.slice (some ⟨k, 0, none⟩) n c) → k < W.heap.size
/-- What a round keeps: all below n₀; and every block of cells that is not the body's own. -/
def Kp1 (n₀ B : Nat) (W W' : World) : Prop :=
  Below n₀ W W' ∧ (Fit1 B W → Fit1 B W' ∧ ∀ k cs t fr, W.heap[k]? = some (.cells cs t fr) → ¬ Own1 B W k → W'.heap[k]? = some (.cells cs t fr) ∧ ¬ Own1 B W' k)

theorem kp1_refl (n₀ B : Nat) (W : World) : Kp1 n₀ B W W := ⟨Below.refl _ _, fun h => ⟨h, fun _ _ _ _ e o => ⟨e, o⟩⟩⟩
theorem kp1_t {n₀ B : Nat} {X Y Z : World} (h : Kp1 n₀ B X Y) (k : Kp1 n₀ B Y Z) : Kp1 n₀ B X Z :=
  ⟨h.1.trans k.1, fun f => ⟨(k.2 (h.2 f).1).1, fun b cs t fr e o => (k.2 (h.2 f).1).2 b cs t fr ((h.2 f).2 b cs t fr e o).1 ((h.2 f).2 b cs t fr e o).2⟩⟩

theorem cell_same {W W' : World} {a : Addr} (h : W'.heap[a.block]? = W.heap[a.block]?) : W'.cell? a = W.cell? a := World.cell?_of_block h

/-- Whatever leaves the blocks that are there as they are, but for one that is no cells and lies beyond the box. -/
theorem kp1_grown {n₀ B : Nat} {W W' : World} {row : Option Nat} (hg : W.grownBy W' row) (hr : ∀ r, row = some r → B < r ∧ n₀ ≤ r ∧ ∃ o : Obj, W.heap[r]? = some o ∧ o.isCells = false) (hn : n₀ ≤ W.heap.size) : Kp1 n₀ B W W' := by
  refine ⟨(Below.refl n₀ W).grown hg hn (fun k e => (hr k e).2.1), fun f => ?_⟩
  have hB : W'.heap[B]? = W.heap[B]? := hg.block B f.1 (fun e => by have := (hr B e.symm).1; omega)
  have hc : W'.cell? ⟨B, 0, none⟩ = W.cell? ⟨B, 0, none⟩ := cell_same (a := ⟨B, 0, none⟩) hB
  refine ⟨⟨Nat.lt_of_lt_of_le f.1 hg.size, fun k n c e => ?_⟩, fun k cs t fr e o => ⟨?_, ?_⟩⟩
  · rw [hc] at e
    exact Nat.lt_of_lt_of_le (f.2 k n c e) hg.size
  · have hk : k < W.heap.size := (Array.getElem?_eq_some_iff.1 e).1
    rw [hg.block k hk (fun q => ?_)]
    · exact e
    · obtain ⟨_, _, o', h1, h2⟩ := hr k q.symm
      rw [e] at h1
      cases h1
      cases h2
  · intro o'
    apply o
    rcases o' with h | ⟨n, c, h⟩
    · exact .inl h
    · exact .inr ⟨n, c, by rw [← hc]; exact h⟩

theorem kp1_alloc {n₀ B : Nat} (W : World) (o : Obj) (hn : n₀ ≤ W.heap.size) : Kp1 n₀ B W (W.alloc o) :=
  kp1_grown (World.grownBy_alloc W o none) (fun r e => by cases e) hn
theorem kp1_b {n₀ B : Nat} {w : World} (hn : n₀ ≤ w.heap.size) (hB : B < w.heap.size) : ∀ (W : World) (l : Nat) (o o' : Obj), w.heap.size ≤ l → W.heap[l]? = some o → o.isCells = false → o.isWalk = false → Kp1 n₀ B W (W.putObj l o') :=
  fun W l o o' hl ho hc _ => kp1_grown (grownBy_putObj' W l o') (fun r e => by cases e; exact ⟨by omega, by omega, o, ho, hc⟩) (by have := (Array.getElem?_eq_some_iff.1 ho).1; omega)

/-- A slice in the box is appended to, and stored back: what the iterator may lean on is kept. -/
theorem kp1_appended {W w1 : World} {n₀ B : Nat} {t e : TypeId} {size : Nat} {v v' : Value} {k m : Nat} {xs ys : List Value} {tmp : Obj}
    (hv : Boxed W B t v) (hte : t ≠ e) (hrow : W.ownsRow n₀ e size v k xs) (hn₀ : n₀ ≤ W.heap.size) (hB : n₀ ≤ B)
    (hown' : w1.ownsRow n₀ e size v' m ys) (hgrow : (W.alloc tmp).grownBy w1 v.ownBlock) (hat : v'.ownBlock = v.ownBlock ∨ v'.ownBlock = some (W.alloc tmp).heap.size) : Kp1 n₀ B W (w1.setCell ⟨B, 0, none⟩ v') := by
  obtain ⟨h1, h2, h3, h4, h5⟩ := hv.appended hte hrow hn₀ hB hown' hgrow
  refine ⟨h5, fun f => ⟨⟨h2.lt, fun j n c q => ?_⟩, fun j cs t' fr q o => ⟨?_, ?_⟩⟩⟩
  · rw [h2.cell] at q
    obtain rfl : v' = .slice (some ⟨j, 0, none⟩) n c := by simpa using q
    have := (hown'.lt j rfl).2
    simpa [World.setCell] using this
  · have hj : j < W.heap.size := (Array.getElem?_eq_some_iff.1 q).1
    have hne : j ≠ B := fun e => o (.inl e)
    rw [Below.heap_setCell w1 ⟨B, 0, none⟩ v' j hne, hgrow.block j (by simp; omega) (fun e' => ?_), Below.heap_alloc W tmp j hj]
    · exact q
    · rcases hrow.2 with ⟨rfl, _⟩ | ⟨g, cap, cur, rfl, _⟩
      · simp [Value.ownBlock] at e'
      · obtain rfl : j = g := by simpa [Value.ownBlock] using e'
        exact o (.inr ⟨_, _, hv.cell⟩)
  · have hj : j < W.heap.size := (Array.getElem?_eq_some_iff.1 q).1
    rintro (e' | ⟨n, c, e'⟩)
    · exact o (.inl e')
    · rw [h2.cell] at e'
      obtain rfl : v' = .slice (some ⟨j, 0, none⟩) n c := by simpa using e'
      rcases hat with q' | q'
      · rcases hrow.2 with ⟨rfl, _⟩ | ⟨g, cap, cur, rfl, _⟩
        · simp [Value.ownBlock] at q'
        · obtain rfl : j = g := by simpa [Value.ownBlock] using q'
          exact o (.inr ⟨_, _, hv.cell⟩)
      · simp [Value.ownBlock] at q'
        omega

/-- A block of cells that is not the body's own. -/
def Lies (B : Nat) (W : World) (k : Nat) (cs : Array Value) (t : TypeId) : Prop := W.heap[k]? = some (.cells cs t (0, 0)) ∧ ¬ Own1 B W k
theorem Lies.kp {n₀ B : Nat} {W W' : World} {k : Nat} {cs : Array Value} {t : TypeId} (h : Lies B W k cs t) (hf : Fit1 B W) (hk : Kp1 n₀ B W W') : Lies B W' k cs t := (hk.2 hf).2 k cs t (0, 0) h.1 h.2
theorem Lies.cell {B : Nat} {W : World} {k : Nat} {cs : Array Value} {t : TypeId} (h : Lies B W k cs t) (j : Nat) : W.cell? ⟨k, j, none⟩ = cs[j]? := cell_of_row W k j cs t (0, 0) h.1
theorem Lies.lt {B : Nat} {W : World} {k : Nat} {cs : Array Value} {t : TypeId} (h : Lies B W k cs t) : k < W.heap.size := (Array.getElem?_eq_some_iff.1 h.1).1

theorem grown_below {w w' : World} (h : Below w.heap.size w w') (row : Option Nat) : w.grownBy w' row := ⟨h.os, h.tape, h.output, h.size, fun k hk _ => h.block k hk⟩
theorem kp1_below {n₀ B : Nat} {W W' : World} (h : Below W.heap.size W W') (hn : n₀ ≤ W.heap.size) : Kp1 n₀ B W W' := kp1_grown (grown_below h none) (fun r e => by cases e) hn
/-- The shipped data lies below n. -/
def ShipB (n : Nat) (W : World) (g : Nat) : Prop := ∃ w, w.heap.size = n ∧ Ship w g ∧ Below n w W
theorem ShipB.ship {n : Nat} {W : World} {g : Nat} (h : ShipB n W g) : Ship W g := by
  obtain ⟨w, rfl, h1, h2⟩ := h
  exact h1.below h2
theorem ShipB.below {n : Nat} {W W' : World} {g : Nat} (h : ShipB n W g) (hb : Below n W W') : ShipB n W' g := by
  obtain ⟨w, e, h1, h2⟩ := h
  exact ⟨w, e, h1, h2.trans hb⟩
theorem Ship.b {w : World} {g : Nat} (h : Ship w g) : ShipB w.heap.size w g := ⟨w, rfl, h, Below.refl _ _⟩
end Go.Proofs.YtmhligcmcfikfaaDoor
