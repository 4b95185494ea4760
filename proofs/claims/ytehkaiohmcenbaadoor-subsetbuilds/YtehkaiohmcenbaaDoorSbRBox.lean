/-
  scansionref12.Build: its variables while the states are built.
-/
import Derived.Test.YtehkaiohmcenbaaDoorGH
namespace Go.Proofs.YtehkaiohmcenbaaDoor
open Go.RowKit Go.Shelf
set_option linter.unusedVariables false

theorem LstAt.blk {hi : Nat} {w w' : World} {v : Value} {l : List Nat} (h : LstAt hi w v l) (hk : ∀ (k : Nat) (cs : Array Value) (fr : Nat × Nat), v.ownBlock = some k → w.heap[k]? = some (.cells cs 3 fr) → w'.heap[k]? = w.heap[k]?) : LstAt hi w' v l := by
  obtain ⟨a, c, e, hc, hn, hx⟩ := h
  refine ⟨a, c, e, hc, hn, fun h0 => ?_⟩
  obtain ⟨g, off, cs', fr', e2, q1, q2, q3⟩ := hx h0
  exact ⟨g, off, cs', fr', e2, q1, (hk g cs' fr' (by rw [e, e2]; rfl) q2).trans q2, q3⟩
/-- All the variables of the document's Build, while the states are built. -/
structure RfI (w0 : World) (A D : Nat) (n1 : Bool) (a1 a2 a3 a4 : Value) (bd : Nat) (w : World) (sv : Value) (S : List (List Nat)) (vs : List Value) (nv fv : Value) (ns : List Value) (N : List (List Nat)) (F : List Bool) (rv : Value) (R : List Nat) : Prop where
  ab : ABox w A n1 a1 a2 a3 a4
  db : DBox w D (.slice none 0 0) (.slice none 0 0)
  ne : D ≠ bd
  bl : Below w0.heap.size w0 w
  lbd : w0.heap.size ≤ bd
  dbx : w.heap[bd]? = some (.cells #[nv, fv] 46 (0, 0))
  lenv : vs.length = S.length
  srow : w.ownsRow w0.heap.size 27 1 sv S.length vs
  slst : ∀ i, (h1 : i < vs.length) → (h2 : i < S.length) → LstAt w0.heap.size w vs[i] S[i]
  nl : ns.length = N.length
  nrow : w.ownsRow w0.heap.size 27 1 nv N.length ns
  nlst : ∀ i, (h1 : i < ns.length) → (h2 : i < N.length) → LstAt w0.heap.size w ns[i] N[i]
  nne : ∀ k, nv.ownBlock = some k → sv.ownBlock ≠ some k
  frow : w.ownsRow w0.heap.size 4 1 fv F.length (cellBo F)
  rrow : w.ownsRow w0.heap.size 3 1 rv R.length (cellP R)
  old : ∀ u, u ∈ vs ∨ u ∈ ns → ∀ k, u.ownBlock = some k → k < w.heap.size ∧ rv.ownBlock ≠ some k
section
variable {w0 : World} {A D : Nat} {n1 : Bool} {a1 a2 a3 a4 : Value} {bd : Nat} {w w1 w' : World} {sv nv fv rv : Value} {S : List (List Nat)} {vs ns : List Value} {N : List (List Nat)} {F : List Bool} {R : List Nat}
theorem RfI.below (h : RfI w0 A D n1 a1 a2 a3 a4 bd w sv S vs nv fv ns N F rv R) (hb : Below w.heap.size w w') : RfI w0 A D n1 a1 a2 a3 a4 bd w' sv S vs nv fv ns N F rv R :=
  ⟨h.ab.below hb, h.db.below hb, h.ne, h.bl.trans (hb.mono h.bl.size), h.lbd, (hb.block _ (lt_of_heap h.dbx)).trans h.dbx, h.lenv, ownsRow_below h.srow hb, fun i k1 k2 => (h.slst i k1 k2).below hb, h.nl, ownsRow_below h.nrow hb, fun i k1 k2 => (h.nlst i k1 k2).below hb, h.nne, ownsRow_below h.frow hb, ownsRow_below h.rrow hb, fun u hu k e => ⟨Nat.lt_of_lt_of_le (h.old u hu k e).1 hb.size, (h.old u hu k e).2⟩⟩
theorem typ_ne {w : World} {k : Nat} {c1 c2 : Array Value} {t1 t2 : TypeId} {f1 f2 : Nat × Nat} (h1 : w.heap[k]? = some (.cells c1 t1 f1)) (h2 : w.heap[k]? = some (.cells c2 t2 f2)) : t1 = t2 := by
  rw [h1] at h2
  injection h2 with h2
  injection h2 with _ h2 _
/-- A state more. -/
theorem RfI.pushS {g cap : Nat} {v : Value} {l : List Nat} (h : RfI w0 A D n1 a1 a2 a3 a4 bd w sv S vs nv fv ns N F rv R) (hv : LstAt w0.heap.size w v l) (hvk : ∀ k, v.ownBlock = some k → k < w.heap.size ∧ rv.ownBlock ≠ some k) (hg : w.grownBy w1 sv.ownBlock) (ho : w1.ownsRow w0.heap.size 27 1 (.slice (some ⟨g, 0, none⟩) (S.length + 1) cap) (S.length + 1) (vs ++ [v])) (hat : sv.ownBlock = some g ∨ w.heap.size ≤ g) :
    RfI w0 A D n1 a1 a2 a3 a4 bd w1 (.slice (some ⟨g, 0, none⟩) (S.length + 1) cap) (S ++ [l]) (vs ++ [v]) nv fv ns N F rv R := by
  have hblk : ∀ (k : Nat) (cs : Array Value) (t : TypeId) (fr : Nat × Nat), w.heap[k]? = some (.cells cs t fr) → t ≠ 27 → w1.heap[k]? = w.heap[k]? := fun k cs t fr hk ht => hg.block k (lt_of_heap hk) (fun e => by
    obtain ⟨cs', hc⟩ := own_typed h.srow e.symm
    exact ht (typ_ne hk hc))
  have hl : ∀ u k, LstAt w0.heap.size w u k → LstAt w0.heap.size w1 u k := fun u k q => q.blk (fun j cs fr _ hj => hblk j _ _ _ hj (by decide))
  refine ⟨(hblk _ _ _ _ h.ab (by decide)).trans h.ab, (hblk _ _ _ _ h.db (by decide)).trans h.db, h.ne, h.bl.grown hg h.bl.size (fun k e => (h.srow.lt k e).1), h.lbd, (hblk _ _ _ _ h.dbx (by decide)).trans h.dbx, by simp [h.lenv], by rw [List.length_append, List.length_singleton]; exact ho, fun i k1 k2 => ?_, h.nl, own_blk h.nrow (fun k e => hg.block k (h.nrow.lt k e).2 (fun q => h.nne k e q.symm)), fun i k1 k2 => hl _ _ (h.nlst i k1 k2), fun k e e2 => ?_, own_blk h.frow (fun k e => ?_), own_blk h.rrow (fun k e => ?_), fun u hu k e => ?_⟩
  · by_cases hi : i < vs.length
    · have hi2 : i < S.length := by have := h.lenv; omega
      rw [List.getElem_append_left hi, List.getElem_append_left hi2]
      exact hl _ _ (h.slst i hi hi2)
    · have hie : i = vs.length := by simp at k1; omega
      subst hie
      rw [List.getElem_append_right (Nat.le_refl _), List.getElem_append_right (by rw [h.lenv]; exact Nat.le_refl _)]
      simp only [Nat.sub_self, List.getElem_cons_zero, h.lenv]
      exact hl _ _ hv
  · have e3 : g = k := by injection e2
    subst e3
    rcases hat with q | q
    · exact h.nne g e q
    · have := (h.nrow.lt g e).2
      omega
  · obtain ⟨cs, hc⟩ := own_typed h.frow e
    exact hblk k _ _ _ hc (by decide)
  · obtain ⟨cs, hc⟩ := own_typed h.rrow e
    exact hblk k _ _ _ hc (by decide)
  · have key : k < w.heap.size ∧ rv.ownBlock ≠ some k := by
      rcases hu with hu | hu
      · rcases List.mem_append.1 hu with hu | hu
        · exact h.old u (.inl hu) k e
        · obtain rfl := List.mem_singleton.1 hu
          exact hvk k e
      · exact h.old u (.inr hu) k e
    exact ⟨Nat.lt_of_lt_of_le key.1 hg.size, key.2⟩
/-- A number more in the row. -/
theorem RfI.pushR {rv' : Value} {x : Nat} (h : RfI w0 A D n1 a1 a2 a3 a4 bd w sv S vs nv fv ns N F rv R) (hg : w.grownBy w1 rv.ownBlock) (ho : w1.ownsRow w0.heap.size 3 1 rv' (R.length + 1) (cellP R ++ [.int .i64 (x : Int)])) (hat : ∀ k, rv'.ownBlock = some k → rv.ownBlock = some k ∨ w.heap.size ≤ k) :
    RfI w0 A D n1 a1 a2 a3 a4 bd w1 sv S vs nv fv ns N F rv' (R ++ [x]) := by
  have hblk : ∀ (k : Nat) (cs : Array Value) (t : TypeId) (fr : Nat × Nat), w.heap[k]? = some (.cells cs t fr) → t ≠ 3 → w1.heap[k]? = w.heap[k]? := fun k cs t fr hk ht => hg.block k (lt_of_heap hk) (fun e => by
    obtain ⟨cs', hc⟩ := own_typed h.rrow e.symm
    exact ht (typ_ne hk hc))
  have hl : ∀ u, u ∈ vs ∨ u ∈ ns → ∀ k, LstAt w0.heap.size w u k → LstAt w0.heap.size w1 u k := fun u hu k q => q.blk (fun j cs fr e hj => hg.block j (lt_of_heap hj) (fun e2 => (h.old u hu j e).2 e2.symm))
  refine ⟨(hblk _ _ _ _ h.ab (by decide)).trans h.ab, (hblk _ _ _ _ h.db (by decide)).trans h.db, h.ne, h.bl.grown hg h.bl.size (fun k e => (h.rrow.lt k e).1), h.lbd, (hblk _ _ _ _ h.dbx (by decide)).trans h.dbx, h.lenv, own_blk h.srow (fun k e => ?_), fun i k1 k2 => hl _ (.inl (List.getElem_mem _)) _ (h.slst i k1 k2), h.nl, own_blk h.nrow (fun k e => ?_), fun i k1 k2 => hl _ (.inr (List.getElem_mem _)) _ (h.nlst i k1 k2), h.nne, own_blk h.frow (fun k e => ?_), ?_, fun u hu k e => ⟨Nat.lt_of_lt_of_le (h.old u hu k e).1 hg.size, fun e2 => ?_⟩⟩
  · obtain ⟨cs, hc⟩ := own_typed h.srow e
    exact hblk k _ _ _ hc (by decide)
  · obtain ⟨cs, hc⟩ := own_typed h.nrow e
    exact hblk k _ _ _ hc (by decide)
  · obtain ⟨cs, hc⟩ := own_typed h.frow e
    exact hblk k _ _ _ hc (by decide)
  · rw [List.length_append, List.length_singleton, cellP_snoc]
    exact ho
  · rcases hat k e2 with q | q
    · exact (h.old u hu k e).2 q
    · have := (h.old u hu k e).1
      omega
/-- The row is through: a row more, and the next one is empty. -/
theorem RfI.pushN {g cap : Nat} (h : RfI w0 A D n1 a1 a2 a3 a4 bd w sv S vs nv fv ns N F rv R) (hg : w.grownBy w1 nv.ownBlock) (ho : w1.ownsRow w0.heap.size 27 1 (.slice (some ⟨g, 0, none⟩) (N.length + 1) cap) (N.length + 1) (ns ++ [rv])) (hat : nv.ownBlock = some g ∨ w.heap.size ≤ g) :
    (w1.cell? ⟨bd, 0, none⟩ = some nv ∧ w1.frozen? ⟨bd, 0, none⟩ = false) ∧ RfI w0 A D n1 a1 a2 a3 a4 bd (w1.setCell ⟨bd, 0, none⟩ (.slice (some ⟨g, 0, none⟩) (N.length + 1) cap)) sv S vs (.slice (some ⟨g, 0, none⟩) (N.length + 1) cap) fv (ns ++ [rv]) (N ++ [R]) F (.slice none 0 0) [] := by
  have hb1 : ∀ (k : Nat) (cs : Array Value) (t : TypeId) (fr : Nat × Nat), w.heap[k]? = some (.cells cs t fr) → t ≠ 27 → w1.heap[k]? = w.heap[k]? := fun k cs t fr hk ht => hg.block k (lt_of_heap hk) (fun e => by
    obtain ⟨cs', hc⟩ := own_typed h.nrow e.symm
    exact ht (typ_ne hk hc))
  have hd1 := (hb1 _ _ _ _ h.dbx (by decide)).trans h.dbx
  have hO : OnlyB bd w1 (w1.setCell ⟨bd, 0, none⟩ (.slice (some ⟨g, 0, none⟩) (N.length + 1) cap)) := (OnlyB.refl _ _).set _ _
  have hblk : ∀ (k : Nat) (cs : Array Value) (t : TypeId) (fr : Nat × Nat), w.heap[k]? = some (.cells cs t fr) → t ≠ 27 → k ≠ bd → (w1.setCell ⟨bd, 0, none⟩ (.slice (some ⟨g, 0, none⟩) (N.length + 1) cap)).heap[k]? = w.heap[k]? := fun k cs t fr hk ht hne => (hO.block k hne).trans (hb1 k cs t fr hk ht)
  have hnb : ∀ (k : Nat) (cs : Array Value) (t : TypeId) (fr : Nat × Nat), w.heap[k]? = some (.cells cs t fr) → t ≠ 46 → k ≠ bd := fun k cs t fr hk ht e => by
    subst e
    exact ht (typ_ne hk h.dbx)
  have hl : ∀ u k, LstAt w0.heap.size w u k → LstAt w0.heap.size (w1.setCell ⟨bd, 0, none⟩ (.slice (some ⟨g, 0, none⟩) (N.length + 1) cap)) u k := fun u k q => q.blk (fun j cs fr _ hj => hblk j _ _ _ hj (by decide) (hnb j _ _ _ hj (by decide)))
  refine ⟨⟨cell_in hd1 0, by simp [World.frozen?, hd1]⟩, (hblk _ _ _ _ h.ab (by decide) (hnb _ _ _ _ h.ab (by decide))).trans h.ab, (hblk _ _ _ _ h.db (by decide) h.ne).trans h.db, h.ne, (h.bl.grown hg h.bl.size (fun k e => (h.nrow.lt k e).1)).setCell (p := ⟨bd, 0, none⟩) h.lbd _, h.lbd, by have := heap_setN (i := 0) hd1 (.slice (some ⟨g, 0, none⟩) (N.length + 1) cap); simpa using this, h.lenv, own_blk h.srow (fun k e => ?_), fun i k1 k2 => hl _ _ (h.slst i k1 k2), by simp [h.nl], ?_, fun i k1 k2 => ?_, fun k e e2 => ?_, own_blk h.frow (fun k e => ?_), World.ownsRow_nil _ _ _ _, fun u hu k e => ⟨?_, fun e2 => (by cases e2)⟩⟩
  · obtain ⟨cs, hc⟩ := own_typed h.srow e
    exact (hO.block k (hnb k _ _ _ hc (by decide))).trans (hg.block k (h.srow.lt k e).2 (fun q => h.nne k q.symm e))
  · rw [List.length_append, List.length_singleton]
    refine own_blk ho (fun k e => hO.block k (fun q => ?_))
    subst q
    obtain ⟨cs, hc⟩ := own_typed ho e
    exact absurd (typ_ne hc hd1) (by decide)
  · by_cases hi : i < ns.length
    · have hi2 : i < N.length := by have := h.nl; omega
      rw [List.getElem_append_left hi, List.getElem_append_left hi2]
      exact hl _ _ (h.nlst i hi hi2)
    · have hie : i = ns.length := by simp at k1; omega
      subst hie
      rw [List.getElem_append_right (Nat.le_refl _), List.getElem_append_right (by rw [h.nl]; exact Nat.le_refl _)]
      simp only [Nat.sub_self, List.getElem_cons_zero, h.nl]
      exact hl _ _ (lst_of_row h.rrow (Nat.le_refl _))
  · have e3 : g = k := by injection e
    subst e3
    rcases hat with q | q
    · exact h.nne g q e2
    · have := (h.srow.lt g e2).2
      omega
  · obtain ⟨cs, hc⟩ := own_typed h.frow e
    exact hblk k _ _ _ hc (by decide) (hnb k _ _ _ hc (by decide))
  · have key : k < w.heap.size := by
      rcases hu with hu | hu
      · exact (h.old u (.inl hu) k e).1
      · rcases List.mem_append.1 hu with hu | hu
        · exact (h.old u (.inr hu) k e).1
        · obtain rfl := List.mem_singleton.1 hu
          exact (h.rrow.lt k e).2
    rw [hO.size]
    exact Nat.lt_of_lt_of_le key hg.size
/-- A mark more. -/
theorem RfI.pushF {v' : Value} {x : Bool} (h : RfI w0 A D n1 a1 a2 a3 a4 bd w sv S vs nv fv ns N F rv R) (hg : w.grownBy w1 fv.ownBlock) (ho : w1.ownsRow w0.heap.size 4 1 v' (F.length + 1) (cellBo F ++ [.bool x])) :
    (w1.cell? ⟨bd, 1, none⟩ = some fv ∧ w1.frozen? ⟨bd, 1, none⟩ = false) ∧ RfI w0 A D n1 a1 a2 a3 a4 bd (w1.setCell ⟨bd, 1, none⟩ v') sv S vs nv v' ns N (F ++ [x]) rv R := by
  have hb1 : ∀ (k : Nat) (cs : Array Value) (t : TypeId) (fr : Nat × Nat), w.heap[k]? = some (.cells cs t fr) → t ≠ 4 → w1.heap[k]? = w.heap[k]? := fun k cs t fr hk ht => hg.block k (lt_of_heap hk) (fun e => by
    obtain ⟨cs', hc⟩ := own_typed h.frow e.symm
    exact ht (typ_ne hk hc))
  have hd1 := (hb1 _ _ _ _ h.dbx (by decide)).trans h.dbx
  have hO : OnlyB bd w1 (w1.setCell ⟨bd, 1, none⟩ v') := (OnlyB.refl _ _).set _ _
  have hblk : ∀ (k : Nat) (cs : Array Value) (t : TypeId) (fr : Nat × Nat), w.heap[k]? = some (.cells cs t fr) → t ≠ 4 → k ≠ bd → (w1.setCell ⟨bd, 1, none⟩ v').heap[k]? = w.heap[k]? := fun k cs t fr hk ht hne => (hO.block k hne).trans (hb1 k cs t fr hk ht)
  have hnb : ∀ (k : Nat) (cs : Array Value) (t : TypeId) (fr : Nat × Nat), w.heap[k]? = some (.cells cs t fr) → t ≠ 46 → k ≠ bd := fun k cs t fr hk ht e => by
    subst e
    exact ht (typ_ne hk h.dbx)
  have hl : ∀ u k, LstAt w0.heap.size w u k → LstAt w0.heap.size (w1.setCell ⟨bd, 1, none⟩ v') u k := fun u k q => q.blk (fun j cs fr _ hj => hblk j _ _ _ hj (by decide) (hnb j _ _ _ hj (by decide)))
  refine ⟨⟨cell_in hd1 1, by simp [World.frozen?, hd1]⟩, (hblk _ _ _ _ h.ab (by decide) (hnb _ _ _ _ h.ab (by decide))).trans h.ab, (hblk _ _ _ _ h.db (by decide) h.ne).trans h.db, h.ne, (h.bl.grown hg h.bl.size (fun k e => (h.frow.lt k e).1)).setCell (p := ⟨bd, 1, none⟩) h.lbd _, h.lbd, by have := heap_setN (i := 1) hd1 v'; simpa using this, h.lenv, own_blk h.srow (fun k e => ?_), fun i k1 k2 => hl _ _ (h.slst i k1 k2), h.nl, own_blk h.nrow (fun k e => ?_), fun i k1 k2 => hl _ _ (h.nlst i k1 k2), h.nne, ?_, own_blk h.rrow (fun k e => ?_), fun u hu k e => ⟨by rw [hO.size]; exact Nat.lt_of_lt_of_le (h.old u hu k e).1 hg.size, (h.old u hu k e).2⟩⟩
  · obtain ⟨cs, hc⟩ := own_typed h.srow e
    exact hblk k _ _ _ hc (by decide) (hnb k _ _ _ hc (by decide))
  · obtain ⟨cs, hc⟩ := own_typed h.nrow e
    exact hblk k _ _ _ hc (by decide) (hnb k _ _ _ hc (by decide))
  · have e1 : cellBo (F ++ [x]) = cellBo F ++ [.bool x] := by simp [cellBo]
    rw [e1, List.length_append, List.length_singleton]
    refine own_blk ho (fun k e => hO.block k (fun q => ?_))
    subst q
    obtain ⟨cs, hc⟩ := own_typed ho e
    exact absurd (typ_ne hc hd1) (by decide)
  · obtain ⟨cs, hc⟩ := own_typed h.rrow e
    exact hblk k _ _ _ hc (by decide) (hnb k _ _ _ hc (by decide))
/-- What is handed out. -/
theorem RfI.fin (h : RfI w0 A D n1 a1 a2 a3 a4 bd w sv S vs nv fv ns N F rv R) (hD : w0.heap.size ≤ D) : DfaAt ((w.setCell ⟨D, 0, none⟩ nv).setCell ⟨D, 1, none⟩ fv) (.agg #[nv, fv]) (intsL N) F ∧ Below w0.heap.size w0 ((w.setCell ⟨D, 0, none⟩ nv).setCell ⟨D, 1, none⟩ fv) := by
  have hO : OnlyB D w ((w.setCell ⟨D, 0, none⟩ nv).setCell ⟨D, 1, none⟩ fv) := ((OnlyB.refl _ _).set _ _).set _ _
  have hn : ∀ {e : TypeId} {n : Nat} {v : Value} {xs : List Value} {k : Nat}, w.ownsRow w0.heap.size e 1 v n xs → e ≠ 46 → v.ownBlock = some k → k ≠ D := fun {e n v xs k} hr he hk q => by
    subst q
    obtain ⟨cs, hc⟩ := own_typed hr hk
    exact he (typ_ne hc h.db)
  refine ⟨dfa_of_rows (base := w0.heap.size) (b2 := w0.heap.size) h.nl (own_blk h.nrow fun k e => hO.block k (hn h.nrow (by decide) e)) (fun i h1 h2 => (h.nlst i h1 h2).only hO h.db (by decide)) (own_blk h.frow fun k e => hO.block k (hn h.frow (by decide) e)), (h.bl.setCell (p := ⟨D, 0, none⟩) hD _).setCell (p := ⟨D, 1, none⟩) hD _⟩
theorem RfI.lt (h : RfI w0 A D n1 a1 a2 a3 a4 bd w sv S vs nv fv ns N F rv R) : bd < w.heap.size := lt_of_heap h.dbx
theorem RfI.c0 (h : RfI w0 A D n1 a1 a2 a3 a4 bd w sv S vs nv fv ns N F rv R) : w.cell? ⟨bd, 0, none⟩ = some nv := cell_in h.dbx 0
theorem RfI.c1 (h : RfI w0 A D n1 a1 a2 a3 a4 bd w sv S vs nv fv ns N F rv R) : w.cell? ⟨bd, 1, none⟩ = some fv := cell_in h.dbx 1
/-- A set that was met. -/
theorem RfI.at (h : RfI w0 A D n1 a1 a2 a3 a4 bd w sv S vs nv fv ns N F rv R) {j : Nat} (hj : j < S.length) : ∃ g c v, sv = .slice (some ⟨g, 0, none⟩) S.length c ∧ S.length ≤ c ∧ g < w.heap.size ∧ w.cell? ⟨g, j, none⟩ = some v ∧ LstAt w0.heap.size w v (S.getD j []) := by
  have hr := h.srow
  rcases hr.2 with ⟨rfl, h0⟩ | ⟨g, cap, cur, rfl, hb, hg, hc, hm, hs, ht⟩
  · omega
  · have hv : j < vs.length := by have := h.lenv; omega
    refine ⟨g, cap, vs[j], rfl, hc, lt_of_heap hg, ?_, ?_⟩
    · have := hr.cells (g := g) rfl j vs[j] (by rw [List.getElem?_eq_getElem])
      rw [add_lit', Nat.zero_add] at this
      exact this
    · have := h.slst j hv hj
      rw [List.getD_eq_getElem?_getD, List.getElem?_eq_getElem hj]
      exact this
end
end Go.Proofs.YtehkaiohmcenbaaDoor
