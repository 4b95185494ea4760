/-
  least.parting.noteWays: by which classes states lead to a part.
-/
import Derived.Test.YtklhjjgnhigbiaaGreatDoorLsFin
namespace Go.Proofs.YtklhjjgnhigbiaaGreatDoor
open Go.RowKit Go.Shelf
set_option linter.unusedVariables false

def cellB13 (l : List Nat) : List Value := l.map fun (c : Nat) => Value.int .u8 (c : Int)
theorem cellB13_snoc (l : List Nat) (x : Nat) : cellB13 (l ++ [x]) = cellB13 l ++ [.int .u8 (x : Int)] := by simp [cellB13]
def upV (wv : Nat → Value) (s : Nat) (v : Value) : Nat → Value := fun x => if x = s then v else wv x
def upL (wy : Nat → List Nat) (s : Nat) (l : List Nat) : Nat → List Nat := fun x => if x = s then l else wy x
theorem map_upV {n s : Nat} {wv : Nat → Value} (hs : s < n) (v : Value) : ((List.range n).map wv).set s v = (List.range n).map (upV wv s v) := by
  refine List.ext_getElem (by simp) (fun i h1 h2 => ?_)
  rw [List.getElem_set]
  by_cases e : s = i
  · subst e
    simp [upV]
  · have e2 : ¬ i = s := fun q => e q.symm
    simp [upV, e, e2]
/-- The ways of all states. -/
structure WyI (w : World) (base gw n : Nat) (wv : Nat → Value) (wy : Nat → List Nat) : Prop where
  arr : w.ownsRow base 42 1 (.slice (some ⟨gw, 0, none⟩) n n) n ((List.range n).map wv)
  row : ∀ s, s < n → w.ownsRow base 5 1 (wv s) (wy s).length (cellB13 (wy s))
  inj : ∀ s t, s < n → t < n → ∀ k, (wv s).ownBlock = some k → (wv t).ownBlock = some k → s = t
theorem WyI.below {w w' : World} {base gw n : Nat} {wv : Nat → Value} {wy : Nat → List Nat} (h : WyI w base gw n wv wy) (hb : Below w.heap.size w w') : WyI w' base gw n wv wy := ⟨ownsRow_below h.arr hb, fun s hs => ownsRow_below (h.row s hs) hb, h.inj⟩
theorem WyI.to {w w' : World} {base gw n : Nat} {wv : Nat → Value} {wy : Nat → List Nat} (h : WyI w base gw n wv wy) (h1 : w'.heap[gw]? = w.heap[gw]?) (h2 : ∀ s, s < n → ∀ k, (wv s).ownBlock = some k → w'.heap[k]? = w.heap[k]?) : WyI w' base gw n wv wy := ⟨own_blk h.arr (fun k e => by
    have : gw = k := by injection e
    subst this
    exact h1), fun s hs => own_blk (h.row s hs) (h2 s hs), h.inj⟩
theorem WyI.cell {w : World} {base gw n : Nat} {wv : Nat → Value} {wy : Nat → List Nat} (h : WyI w base gw n wv wy) {s : Nat} (hs : s < n) : w.cell? ⟨gw, s, none⟩ = some (wv s) := by
  have := h.arr.cells (g := gw) rfl s (wv s) (by simp [hs])
  rw [add_lit', Nat.zero_add] at this
  exact this
theorem WyI.lt {w : World} {base gw n : Nat} {wv : Nat → Value} {wy : Nat → List Nat} (h : WyI w base gw n wv wy) : gw < w.heap.size ∧ base ≤ gw := by
  have := h.arr.lt gw rfl
  exact ⟨this.2, this.1⟩
/-- While ways are noted: since w0. -/
structure NtI13 (w0 : World) (base gw n : Nat) (wv0 : Nat → Value) (w : World) (wv : Nat → Value) (wy : Nat → List Nat) (v : Value) (L : List Nat) : Prop where
  way : WyI w base gw n wv wy
  row : w.ownsRow w0.heap.size 3 1 v L.length (cellP L)
  os : w.os = w0.os
  tape : w.tape = w0.tape
  output : w.output = w0.output
  size : w0.heap.size ≤ w.heap.size
  blk : ∀ k, k < w0.heap.size → k ≠ gw → (∀ s, s < n → (wv0 s).ownBlock ≠ some k) → w.heap[k]? = w0.heap[k]?
  own : ∀ s, s < n → ∀ k, (wv s).ownBlock = some k → (wv0 s).ownBlock = some k ∨ w0.heap.size ≤ k
section
variable {w0 w w2 : World} {base gw n : Nat} {wv0 wv : Nat → Value} {wy : Nat → List Nat} {v : Value} {L : List Nat}
theorem NtI13.start {wy : Nat → List Nat} (h : WyI w base gw n wv wy) : NtI13 w base gw n wv w wv wy (.slice none 0 0) [] := ⟨h, World.ownsRow_nil _ _ _ _, rfl, rfl, rfl, Nat.le_refl _, fun _ _ _ _ => rfl, fun _ _ _ e => .inl e⟩
theorem NtI13.below (h : NtI13 w0 base gw n wv0 w wv wy v L) (hb : Below w.heap.size w w2) : NtI13 w0 base gw n wv0 w2 wv wy v L := ⟨h.way.below hb, ownsRow_below h.row hb, hb.os.trans h.os, hb.tape.trans h.tape, hb.output.trans h.output, Nat.le_trans h.size hb.size, fun k a b c => (hb.block k (Nat.lt_of_lt_of_le a h.size)).trans (h.blk k a b c), h.own⟩
/-- A block of another sort is as it was. -/
theorem NtI13.keep (h : NtI13 w0 base gw n wv0 w wv wy v L) {wy0 : Nat → List Nat} (h0 : WyI w0 base gw n wv0 wy0) {k : Nat} {cs : Array Value} {t : TypeId} {fr : Nat × Nat} (hk : w0.heap[k]? = some (.cells cs t fr)) (h1 : t ≠ 42) (h2 : t ≠ 5) : w.heap[k]? = some (.cells cs t fr) := (h.blk k (lt_of_heap hk) (fun e => by
    obtain ⟨c2, hc2⟩ := own_typed h0.arr (k := gw) rfl
    rw [e] at hk
    exact h1 (typ_ne hk hc2)) (fun s hs e => by
    obtain ⟨c2, hc2⟩ := own_typed (h0.row s hs) e
    exact h2 (typ_ne hk hc2))).trans hk
/-- A state more. -/
theorem NtI13.pushL (h : NtI13 w0 base gw n wv0 w wv wy v L) {o : Obj} {v' : Value} {x : Nat} (hg : (w.alloc o).grownBy w2 v.ownBlock) (ho : w2.ownsRow w0.heap.size 3 1 v' (L.length + 1) (cellP L ++ [.int .i64 (x : Int)])) : NtI13 w0 base gw n wv0 w2 wv wy v' (L ++ [x]) := by
  have hb := below_alloc w o
  have keep : ∀ k, k < w.heap.size → v.ownBlock ≠ some k → w2.heap[k]? = w.heap[k]? := fun k hk hne => (hg.block k (by simp; omega) (fun e => hne e.symm)).trans (hb.block k hk)
  have hty : ∀ {u : Value} {e : TypeId} {nn : Nat} {xs : List Value} {k : Nat}, w.ownsRow base e 1 u nn xs → e ≠ 3 → u.ownBlock = some k → v.ownBlock ≠ some k := fun {u e nn xs k} hu he ek ev => by
    obtain ⟨c1, h1⟩ := own_typed hu ek
    obtain ⟨c2, h2⟩ := own_typed h.row ev
    exact he (typ_ne h1 h2)
  refine ⟨h.way.to (keep gw h.way.lt.1 (hty h.way.arr (by decide) rfl)) (fun s hs k e => keep k ((h.way.row s hs).lt k e).2 (hty (h.way.row s hs) (by decide) e)), by rw [List.length_append, List.length_singleton, cellP_snoc]; exact ho, hg.os.trans (hb.os.trans h.os), hg.tape.trans (hb.tape.trans h.tape), hg.output.trans (hb.output.trans h.output), ?_, fun k a b c => (keep k (Nat.lt_of_lt_of_le a h.size) (fun e => ?_)).trans (h.blk k a b c), h.own⟩
  · have h1 := hg.size
    have h2 := h.size
    simp at h1
    omega
  · have := (h.row.lt k e).1
    omega
/-- A class more of a state's. -/
theorem NtI13.pushW (h : NtI13 w0 base gw n wv0 w wv wy v L) {s c : Nat} (hs : s < n) {w1 : World} (hb : Below w.heap.size w w1) {o : Obj} {v' : Value} (hg : (w1.alloc o).grownBy w2 (wv s).ownBlock) (ho : w2.ownsRow base 5 1 v' ((wy s).length + 1) (cellB13 (wy s) ++ [.int .u8 (c : Int)])) (hat : ∀ k, v'.ownBlock = some k → (wv s).ownBlock = some k ∨ w1.heap.size ≤ k) :
    (w2.cell? ⟨gw, s, none⟩ = some (wv s) ∧ w2.frozen? ⟨gw, s, none⟩ = false ∧ gw < w2.heap.size) ∧ NtI13 w0 base gw n wv0 (w2.setCell ⟨gw, s, none⟩ v') (upV wv s v') (upL wy s (wy s ++ [c])) v L := by
  have ha := below_alloc w1 o
  have hsz := hb.size
  have keep : ∀ k, k < w.heap.size → (wv s).ownBlock ≠ some k → w2.heap[k]? = w.heap[k]? := fun k hk hne => (hg.block k (by simp; omega) (fun e => hne e.symm)).trans ((ha.block k (by omega)).trans (hb.block k hk))
  have hty : ∀ {u : Value} {e : TypeId} {b2 nn : Nat} {xs : List Value} {k : Nat}, w.ownsRow b2 e 1 u nn xs → e ≠ 5 → u.ownBlock = some k → (wv s).ownBlock ≠ some k := fun {u e b2 nn xs k} hu he ek ev => by
    obtain ⟨c1, h1⟩ := own_typed hu ek
    obtain ⟨c2, h2⟩ := own_typed (h.way.row s hs) ev
    exact he (typ_ne h1 h2)
  have harr2 : w2.ownsRow base 42 1 (.slice (some ⟨gw, 0, none⟩) n n) n ((List.range n).map wv) := own_blk h.way.arr (fun k e => by
    have : gw = k := by injection e
    subst this
    exact keep gw h.way.lt.1 (hty h.way.arr (by decide) rfl))
  have hcell : w2.cell? ⟨gw, s, none⟩ = some (wv s) := by
    have := harr2.cells (g := gw) rfl s (wv s) (by simp [hs])
    rw [add_lit', Nat.zero_add] at this
    exact this
  obtain ⟨cg, hcg⟩ := own_typed harr2 (k := gw) rfl
  have hO : OnlyB gw w2 (w2.setCell ⟨gw, s, none⟩ v') := (OnlyB.refl _ _).set _ _
  have hnu : ∀ {u : Value} {nn b2 : Nat} {e : TypeId} {xs : List Value} {k : Nat}, w2.ownsRow b2 e 1 u nn xs → e ≠ 42 → u.ownBlock = some k → k ≠ gw := fun {u nn b2 e xs k} hu he ek q => by
    obtain ⟨c1, h1⟩ := own_typed hu ek
    rw [q] at h1
    exact he (typ_ne h1 hcg)
  have hrow2 : w2.ownsRow w0.heap.size 3 1 v L.length (cellP L) := own_blk h.row (fun k e => keep k (h.row.lt k e).2 (hty h.row (by decide) e))
  refine ⟨⟨hcell, by simp [World.frozen?, hcg], lt_of_heap hcg⟩, ⟨?_, fun t ht => ?_, fun a b ha2 hb2 k ea eb => ?_⟩, own_blk hrow2 (fun k e => hO.block k (hnu hrow2 (by decide) e)), hO.os.trans (hg.os.trans (ha.os.trans (hb.os.trans h.os))), hO.tape.trans (hg.tape.trans (ha.tape.trans (hb.tape.trans h.tape))), hO.output.trans (hg.output.trans (ha.output.trans (hb.output.trans h.output))), ?_, fun k a b c => ?_, fun t ht k e => ?_⟩
  · have := own_set (i := s) harr2 v'
    rw [map_upV hs] at this
    exact this
  · by_cases e : t = s
    · subst e
      have e1 : upV wv t v' t = v' := by unfold upV; rw [if_pos rfl]
      have e2 : upL wy t (wy t ++ [c]) t = wy t ++ [c] := by unfold upL; rw [if_pos rfl]
      rw [e1, e2, cellB13_snoc, List.length_append, List.length_singleton]
      exact own_blk ho (fun k ek => hO.block k (hnu ho (by decide) ek))
    · have e1 : upV wv s v' t = wv t := by unfold upV; rw [if_neg e]
      have e2 : upL wy s (wy s ++ [c]) t = wy t := by unfold upL; rw [if_neg e]
      rw [e1, e2]
      have h2 : w2.ownsRow base 5 1 (wv t) (wy t).length (cellB13 (wy t)) := own_blk (h.way.row t ht) (fun k ek => keep k ((h.way.row t ht).lt k ek).2 (fun es => e (h.way.inj t s ht hs k ek es)))
      exact own_blk h2 (fun k ek => hO.block k (hnu h2 (by decide) ek))
  · have new : ∀ t, t < n → t ≠ s → ∀ k, (wv t).ownBlock = some k → v'.ownBlock ≠ some k := fun t ht hne k ek ev => by
      rcases hat k ev with q | q
      · exact hne (h.way.inj t s ht hs k ek q)
      · have := ((h.way.row t ht).lt k ek).2
        omega
    by_cases qa : a = s <;> by_cases qb : b = s
    · rw [qa, qb]
    · have e1 : upV wv s v' a = v' := by unfold upV; rw [if_pos qa]
      have e2 : upV wv s v' b = wv b := by unfold upV; rw [if_neg qb]
      rw [e1] at ea
      rw [e2] at eb
      exact absurd ea (new b hb2 qb k eb)
    · have e1 : upV wv s v' a = wv a := by unfold upV; rw [if_neg qa]
      have e2 : upV wv s v' b = v' := by unfold upV; rw [if_pos qb]
      rw [e1] at ea
      rw [e2] at eb
      exact absurd eb (new a ha2 qa k ea)
    · have e1 : upV wv s v' a = wv a := by unfold upV; rw [if_neg qa]
      have e2 : upV wv s v' b = wv b := by unfold upV; rw [if_neg qb]
      rw [e1] at ea
      rw [e2] at eb
      exact h.way.inj a b ha2 hb2 k ea eb
  · rw [hO.size]
    have h1 := hg.size
    have h2 := h.size
    simp at h1
    omega
  · have hk : (wv s).ownBlock ≠ some k := fun e => by
      rcases h.own s hs k e with q | q
      · exact c s hs q
      · omega
    exact (hO.block k b).trans ((keep k (Nat.lt_of_lt_of_le a h.size) hk).trans (h.blk k a b c))
  · by_cases q : t = s
    · subst q
      have e1 : upV wv t v' t = v' := by unfold upV; rw [if_pos rfl]
      rw [e1] at e
      rcases hat k e with r | r
      · exact h.own t ht k r
      · exact .inr (by have := h.size; omega)
    · have e1 : upV wv s v' t = wv t := by unfold upV; rw [if_neg q]
      rw [e1] at e
      exact h.own t ht k e
end
end Go.Proofs.YtklhjjgnhigbiaaGreatDoor
