/-
  Slices of ranges in memory: what a slice holds, and how it is kept.
-/
import Derived.Test.YtmknifnhcgdkaaaRows
import Derived.Test.YtmknifnhcgdkaaaX02
import Derived.WalkKit
import Derived.WalkSpells
import Derived.OwnWalk
import Derived.Outline
import Derived.Maps.AppendAt
import Derived.Deep.RegionHeld3
import Derived.Deep.AppendLies
import Derived.Laws.Rows
import Derived.Laws.AppendOwnNone
import Derived.RangeFuncBox
import Derived.Deep.QuietTactic
namespace Go.Proofs.Ytmknifnhcgdkaaa
open Go.RowKit
set_option linter.unusedVariables false

/-- The cells of a range, and of ranges. -/
def cellsR (r : Rg) : List Value := [.int .i64 r.lo, .int .i64 r.hi]
def cellsRs (l : List Rg) : List Value := l.flatMap cellsR
theorem cellsRs_snoc (l : List Rg) (r : Rg) : cellsRs (l ++ [r]) = cellsRs l ++ cellsR r := by simp [cellsRs]
theorem cellsRs_append (l m : List Rg) : cellsRs (l ++ m) = cellsRs l ++ cellsRs m := by simp [cellsRs]
theorem cellsRs_length : ∀ (l : List Rg), (cellsRs l).length = l.length * 2
  | [] => rfl
  | r :: l => by
    have e : cellsRs (r :: l) = cellsR r ++ cellsRs l := rfl
    rw [e, List.length_append, cellsRs_length l]
    simp [cellsR]; omega
theorem cellsRs_at : ∀ (l : List Rg) (i j : Nat) (h : i < l.length), j < 2 → (cellsRs l)[i * 2 + j]? = (cellsR l[i])[j]?
  | u :: us, 0, j, h, hj => by
    have e : cellsRs (u :: us) = cellsR u ++ cellsRs us := rfl
    rw [e, Nat.zero_mul, Nat.zero_add, List.getElem?_append_left (by simpa [cellsR] using hj)]
    rfl
  | u :: us, i + 1, j, h, hj => by
    have e : cellsRs (u :: us) = cellsR u ++ cellsRs us := rfl
    rw [e, List.getElem?_append_right (by simp [cellsR]; omega)]
    have e2 : (i + 1) * 2 + j - (cellsR u).length = i * 2 + j := by simp [cellsR]; omega
    rw [e2, cellsRs_at us i j (by simpa using h) hj]
    rfl
theorem cellsRs_one (l : List Rg) : ∀ u ∈ cellsRs l, u.oneCell' = true := fun u hu => by
  obtain ⟨r, _, h⟩ := List.mem_flatMap.1 hu
  simp [cellsR] at h
  rcases h with rfl | rfl <;> rfl

/-- The slice value v holds the ranges l, in a block below n. -/
def RngAt (n : Nat) (w : World) (v : Value) (l : List Rg) : Prop :=
  ∃ a cap, v = .slice a l.length cap ∧ l.length ≤ cap ∧ ∀ i, (h : i < l.length) → ∃ g off, a = some ⟨g, off, none⟩ ∧ g < n ∧ w.cell? ⟨g, off + i * 2, none⟩ = some (.int .i64 l[i].lo) ∧ w.cell? ⟨g, off + i * 2 + 1, none⟩ = some (.int .i64 l[i].hi)
/-- The slice value v holds the ranges l. -/
abbrev RngIn (w : World) (v : Value) (l : List Rg) : Prop := RngAt w.heap.size w v l

theorem RngAt.below {n : Nat} {w w' : World} {v : Value} {l : List Rg} (h : RngAt n w v l) (hb : Below n w w') : RngAt n w' v l := by
  obtain ⟨a, cap, rfl, hc, hi⟩ := h
  refine ⟨a, cap, rfl, hc, fun i hlt => ?_⟩
  obtain ⟨g, off, rfl, hg, h0, h1⟩ := hi i hlt
  exact ⟨g, off, rfl, hg, (hb.cell (p := ⟨g, off + i * 2, none⟩) hg).trans h0, (hb.cell (p := ⟨g, off + i * 2 + 1, none⟩) hg).trans h1⟩
theorem RngAt.mono {n m : Nat} {w : World} {v : Value} {l : List Rg} (h : RngAt n w v l) (hm : n ≤ m) : RngAt m w v l := by
  obtain ⟨a, cap, rfl, hc, hi⟩ := h
  refine ⟨a, cap, rfl, hc, fun i hlt => ?_⟩
  obtain ⟨g, off, rfl, hg, h0, h1⟩ := hi i hlt
  exact ⟨g, off, rfl, by omega, h0, h1⟩

theorem add_lit' (g j : Nat) : (⟨g, 0, none⟩ : Addr).add j = ⟨g, 0 + j, none⟩ := by unfold Addr.add; split <;> simp_all

theorem rng_of_row {w : World} {base : Nat} {v : Value} {l : List Rg} (h : w.ownsRow base 51 2 v l.length (cellsRs l)) : RngIn w v l := by
  rcases h.2 with ⟨rfl, h0⟩ | ⟨g, cap, cur, rfl, hb, hg, hc, hm, hs, ht⟩
  · exact ⟨none, 0, by rw [h0], by omega, fun i hi => by omega⟩
  · refine ⟨_, cap, rfl, hc, fun i hi => ⟨g, 0, rfl, (Array.getElem?_eq_some_iff.1 hg).1, ?_, ?_⟩⟩
    · have hx := cellsRs_at l i 0 hi (by omega)
      have := h.cells (g := g) rfl (i * 2 + 0) (.int .i64 l[i].lo) (by rw [hx]; rfl)
      rw [add_lit'] at this
      exact this
    · have hx := cellsRs_at l i 1 hi (by omega)
      have := h.cells (g := g) rfl (i * 2 + 1) (.int .i64 l[i].hi) (by rw [hx]; rfl)
      rw [add_lit'] at this
      exact this

theorem RngIn.below {w w' : World} {v : Value} {l : List Rg} (h : RngIn w v l) (hb : Below w.heap.size w w') : RngIn w' v l := (RngAt.below h hb).mono hb.size
theorem RngAt.nil (n : Nat) (w : World) : RngAt n w (.slice none 0 0) [] := ⟨none, 0, rfl, Nat.le_refl _, fun i hi => by cases hi⟩
theorem RngAt.empty {n : Nat} {w : World} (a : Option Addr) (cap : Nat) : RngAt n w (.slice a 0 cap) [] := ⟨a, cap, rfl, Nat.zero_le _, fun i hi => by cases hi⟩

theorem RngAt.tail {n : Nat} {w : World} {g off cap : Nat} {r : Rg} {l : List Rg} (h : RngAt n w (.slice (some ⟨g, off, none⟩) (l.length + 1) cap) (r :: l)) : RngAt n w (.slice (some ⟨g, off + 2, none⟩) l.length (cap - 1)) l := by
  obtain ⟨a, c, e, hc, hi⟩ := h
  obtain ⟨rfl, _, rfl⟩ : some ⟨g, off, none⟩ = a ∧ l.length + 1 = (r :: l).length ∧ cap = c := by simpa using e
  refine ⟨_, _, rfl, by simp at hc; omega, fun i hlt => ?_⟩
  obtain ⟨g', off', e2, hg, h0, h1⟩ := hi (i + 1) (by simpa using hlt)
  obtain ⟨rfl, rfl⟩ : g = g' ∧ off = off' := by simpa using e2
  refine ⟨g, off + 2, rfl, hg, ?_, ?_⟩
  · have : off + 2 + i * 2 = off + (i + 1) * 2 := by omega
    rw [this]; simpa using h0
  · have : off + 2 + i * 2 + 1 = off + (i + 1) * 2 + 1 := by omega
    rw [this]; simpa using h1

theorem ownsRow_below {w w' : World} {base e size n : Nat} {v : Value} {xs : List Value} (h : w.ownsRow base e size v n xs) (hb : Below w.heap.size w w') : w'.ownsRow base e size v n xs :=
  World.ownsRow.kept (row := none) h ⟨hb.os, hb.tape, hb.output, hb.size, fun k hk _ => hb.block k hk⟩ (by cases v.ownBlock <;> simp)
theorem below_drewN' {B : Nat} {a w : World} (h : Below B a w) : ∀ k, Below B a (w.drewN k)
  | 0 => h
  | k + 1 => (below_drewN' h k).drew
theorem ownsRow_drewN {w : World} {base e size n : Nat} {v : Value} {xs : List Value} (h : w.ownsRow base e size v n xs) (k : Nat) : (w.drewN k).ownsRow base e size v n xs :=
  ownsRow_below h (below_drewN' (Below.refl _ _) k)
theorem heap_new' (w : World) (o : Obj) : (w.alloc o).heap[w.heap.size]? = some o := World.alloc_heap_new w o

/-- The last range of a row grows. -/
theorem own_grow {w : World} {base g cap : Nat} {ini : List Rg} {s : Rg} (h : w.ownsRow base 51 2 (.slice (some ⟨g, 0, none⟩) (ini ++ [s]).length cap) (ini ++ [s]).length (cellsRs (ini ++ [s]))) (hi : Int) :
    (w.setCell ⟨g, ini.length * 2 + 1, none⟩ (.int .i64 hi)).ownsRow base 51 2 (.slice (some ⟨g, 0, none⟩) (ini ++ [s]).length cap) (ini ++ [(⟨s.lo, hi⟩ : Rg)]).length (cellsRs (ini ++ [⟨s.lo, hi⟩])) := by
  have hl : (ini ++ [(⟨s.lo, hi⟩ : Rg)]).length = (ini ++ [s]).length := by simp
  refine ⟨by rw [cellsRs_length], .inr ?_⟩
  rcases h.2 with ⟨e, _⟩ | ⟨g', cap', cur, e, hb, hg, hc, hm, hs, ht⟩
  · cases e
  · obtain ⟨rfl, rfl⟩ : g = g' ∧ cap = cap' := by simpa using e
    refine ⟨g, cap, cur.setIfInBounds (ini.length * 2 + 1) (.int .i64 hi), by rw [hl], hb, heap_setCell_same _ _ _ _ _ _ hg, by rw [hl]; exact hc, hm, by simp [hs], ?_⟩
    rw [hl]
    have e1 : (cur.setIfInBounds (ini.length * 2 + 1) (.int .i64 hi)).toList = cur.toList.set (ini.length * 2 + 1) (.int .i64 hi) := by simp
    rw [e1, List.take_set, ht, cellsRs_snoc, cellsRs_snoc, List.set_append_right _ _ (by rw [cellsRs_length]; omega), cellsRs_length]
    have e2 : ini.length * 2 + 1 - ini.length * 2 = 1 := by omega
    rw [e2]
    rfl

theorem Try.infoRange : (Try.prog.info? 51).map (fun i => (i.zero, i.size, i.bytes)) = some (some (.agg #[.int .i64 0, .int .i64 0]), 2, 16) := by kernel_rfl
theorem Try.infoInt : (Try.prog.info? 3).map (fun i => (i.zero, i.size, i.bytes)) = some (some (.int .i64 0), 1, 8) := by kernel_rfl
end Go.Proofs.Ytmknifnhcgdkaaa
