/-
  States in memory; and how they lie while they are built. subset.Build: its variables while the states are built.
-/
import Derived.Test.YtklhjjgnhigbiaaGreatDoorGF
import Derived.Test.YtklhjjgnhigbiaaGreatDoorSbRow
namespace Go.Proofs.YtklhjjgnhigbiaaGreatDoor
open Go.RowKit Go.Shelf
set_option linter.unusedVariables false

theorem Tryz.infoBool12 : (Tryz.prog.info? 4).map (fun i => (i.zero, i.size, i.bytes)) = some (some (.bool false), 1, 1) := by kernel_rfl
def cellBo (l : List Bool) : List Value := l.map Value.bool
/-- The slice value v holds the Booleans l. -/
def BolAt (w : World) (v : Value) (l : List Bool) : Prop :=
  ∃ a cap, v = .slice a l.length cap ∧ l.length ≤ cap ∧ (a = none → cap = 0) ∧ ∀ i, (h : i < l.length) → ∃ g off, a = some ⟨g, off, none⟩ ∧ g < w.heap.size ∧ w.cell? ⟨g, off + i, none⟩ = some (.bool l[i])
theorem BolAt.below {w w' : World} {v : Value} {l : List Bool} (h : BolAt w v l) (hb : Below w.heap.size w w') : BolAt w' v l := by
  obtain ⟨a, cap, rfl, hc, hn, hx⟩ := h
  refine ⟨a, cap, rfl, hc, hn, fun i hi => ?_⟩
  obtain ⟨g, off, rfl, hg, h0⟩ := hx i hi
  exact ⟨g, off, rfl, Nat.lt_of_lt_of_le hg hb.size, (hb.cell (p := ⟨g, _, none⟩) hg).trans h0⟩
theorem BolAt.nil (w : World) : BolAt w (.slice none 0 0) [] := ⟨none, 0, rfl, Nat.le_refl _, fun _ => rfl, fun i h => (by cases h)⟩
theorem bol_of_row {w : World} {base : Nat} {v : Value} {l : List Bool} (h : w.ownsRow base 4 1 v l.length (cellBo l)) : BolAt w v l := by
  rcases h.2 with ⟨rfl, h0⟩ | ⟨g, cap, cur, rfl, hb, hg, hc, hm, hs, ht⟩
  · obtain rfl : l = [] := List.length_eq_zero_iff.1 h0
    exact BolAt.nil _
  · refine ⟨_, cap, rfl, hc, fun e => (by cases e), fun i hi => ⟨g, 0, rfl, lt_of_heap hg, ?_⟩⟩
    have := h.cells (g := g) rfl i (.bool l[i]) (by simp [cellBo, hi])
    rw [add_lit'] at this
    exact this
/-- States in memory. -/
def DfaAt (w : World) (dv : Value) (N : List (List Int)) (F : List Bool) : Prop :=
  ∃ nv fv, dv = .agg #[nv, fv] ∧ (∃ a cap, nv = .slice a N.length cap ∧ N.length ≤ cap ∧ (a = none → cap = 0) ∧ ∀ i, (h : i < N.length) → ∃ g off x, a = some ⟨g, off, none⟩ ∧ g < w.heap.size ∧ w.cell? ⟨g, off + i, none⟩ = some x ∧ IntsAt w x N[i]) ∧ BolAt w fv F
theorem DfaAt.below {w w' : World} {dv : Value} {N : List (List Int)} {F : List Bool} (h : DfaAt w dv N F) (hb : Below w.heap.size w w') : DfaAt w' dv N F := by
  obtain ⟨nv, fv, rfl, ⟨a, cap, rfl, hc, hn, hx⟩, h2⟩ := h
  refine ⟨_, _, rfl, ⟨a, cap, rfl, hc, hn, fun i hi => ?_⟩, h2.below hb⟩
  obtain ⟨g, off, x, e, hg, h0, h1⟩ := hx i hi
  exact ⟨g, off, x, e, Nat.lt_of_lt_of_le hg hb.size, (hb.cell (p := ⟨g, _, none⟩) hg).trans h0, h1.below hb⟩
def intsL (N : List (List Nat)) : List (List Int) := N.map upI
theorem dfaZ (w : World) : DfaAt w (.agg #[.slice none 0 0, .slice none 0 0]) [] [] := ⟨_, _, rfl, ⟨none, 0, rfl, Nat.le_refl _, fun _ => rfl, fun i h => (by cases h)⟩, BolAt.nil _⟩
theorem dfa_of_rows {w : World} {base b2 : Nat} {nv fv : Value} {ns : List Value} {N : List (List Nat)} {F : List Bool} (hl : ns.length = N.length) (hn : w.ownsRow base 26 1 nv N.length ns) (hx : ∀ i, (h1 : i < ns.length) → (h2 : i < N.length) → LstAt b2 w ns[i] N[i]) (hf : w.ownsRow base 4 1 fv F.length (cellBo F)) : DfaAt w (.agg #[nv, fv]) (intsL N) F := by
  have hIl : (intsL N).length = N.length := by simp [intsL]
  refine ⟨_, _, rfl, ?_, bol_of_row hf⟩
  rcases hn.2 with ⟨rfl, h0⟩ | ⟨g, cap, cur, rfl, hb, hg, hc, hm, hs, ht⟩
  · have : N = [] := List.length_eq_zero_iff.1 h0
    subst this
    exact ⟨none, 0, rfl, Nat.le_refl _, fun _ => rfl, fun i h => (by cases h)⟩
  · refine ⟨_, cap, by rw [hIl], by omega, fun e => (by cases e), fun i hi => ⟨g, 0, ns[i]'(by omega), rfl, lt_of_heap hg, ?_, ?_⟩⟩
    · have := hn.cells (g := g) rfl i (ns[i]'(by omega)) (by rw [List.getElem?_eq_getElem])
      rw [add_lit'] at this
      exact this
    · have := (hx i (by omega) (by omega)).plc.ints
      have e : (intsL N)[i] = upI (N[i]'(by omega)) := by simp [intsL]
      rw [e]
      exact this

/-- How one stands in mid-building: the sets of places that were met, the rows and the marks of the states that were gone through. -/
structure BdI (base bs bk gm bd : Nat) (w : World) (sv : Value) (S : List (List Nat)) (vs : List Value) (nv fv : Value) (ns : List Value) (N : List (List Nat)) (F : List Bool) : Prop where
  met : MetI base bs bk gm w sv S vs
  lbd : base ≤ bd
  db : w.heap[bd]? = some (.cells #[nv, fv] 35 (0, 0))
  nl : ns.length = N.length
  nrow : w.ownsRow base 26 1 nv N.length ns
  nlst : ∀ i, (h1 : i < ns.length) → (h2 : i < N.length) → LstAt base w ns[i] N[i]
  nne : ∀ k, nv.ownBlock = some k → sv.ownBlock ≠ some k
  frow : w.ownsRow base 4 1 fv F.length (cellBo F)
section
variable {base bs bk gm bd : Nat} {w w1 w' : World} {sv sv' nv fv : Value} {S S' : List (List Nat)} {vs vs' ns : List Value} {N : List (List Nat)} {F : List Bool}
theorem BdI.below (h : BdI base bs bk gm bd w sv S vs nv fv ns N F) (hb : Below w.heap.size w w') : BdI base bs bk gm bd w' sv S vs nv fv ns N F :=
  ⟨h.met.below hb, h.lbd, (hb.block _ (lt_of_heap h.db)).trans h.db, h.nl, ownsRow_below h.nrow hb, fun i h1 h2 => (h.nlst i h1 h2).below hb, h.nne, ownsRow_below h.frow hb⟩
/-- More states were met. -/
theorem BdI.call (h : BdI base bs bk gm bd w sv S vs nv fv ns N F) (hm : MetI base bs bk gm w' sv' S' vs') (f : FrS bs gm w sv w' sv') : BdI base bs bk gm bd w' sv' S' vs' nv fv ns N F := by
  refine ⟨hm, h.lbd, f.keep h.met h.db (by decide) (by decide), h.nl, own_blk h.nrow (fun k e => ?_), fun i h1 h2 => f.lst h.met (h.nlst i h1 h2), fun k e e2 => ?_, own_blk h.frow (fun k e => ?_)⟩
  · obtain ⟨cs, hc⟩ := own_typed h.nrow e
    refine f.block k (lt_of_heap hc) (fun q => ?_) (h.met.gne hc) (h.nne k e)
    subst q
    have := h.met.hs
    rw [hc] at this
    injection this with this
    injection this with _ this _
    exact absurd this (by decide)
  · rcases f.fresh k e2 with q | q
    · exact h.nne k e q
    · have := (h.nrow.lt k e).2
      omega
  · obtain ⟨cs, hc⟩ := own_typed h.frow e
    exact (f.keep h.met hc (by decide) (by decide)).trans hc.symm
/-- Another row has grown: what is met stays. -/
theorem MetI.grown {row : Option Nat} (h : MetI base bs bk gm w sv S vs) (hg : w.grownBy w1 row) (hr : ∀ x, row = some x → sv.ownBlock ≠ some x ∧ ∃ cs t fr, w.heap[x]? = some (.cells cs t fr) ∧ t ≠ 3 ∧ t ≠ 27 ∧ t ≠ 64) : MetI base bs bk gm w1 sv S vs := by
  have hne : ∀ (k : Nat) (cs' : Array Value) (t : TypeId) (fr' : Nat × Nat), w.heap[k]? = some (.cells cs' t fr') → (t = 3 ∨ t = 27 ∨ t = 64) → w1.heap[k]? = some (.cells cs' t fr') := fun k cs' t fr' hk ht => (hg.block k (lt_of_heap hk) (fun e => by
    obtain ⟨_, cs, t2, fr, hx, k1, k2, k3⟩ := hr k e.symm
    rw [hk] at hx
    injection hx with hx
    injection hx with _ hx _
    subst hx
    rcases ht with q | q | q
    · exact k1 q
    · exact k2 q
    · exact k3 q)).trans hk
  have hgm : row ≠ some gm := fun e => by
    obtain ⟨_, cs, t2, fr, hx, _⟩ := hr gm e
    exact h.gne hx rfl
  obtain ⟨h1, h2, h3, h4, h5, h6, h7, h8, h8', D, h9, h10⟩ := h
  exact ⟨h1, h2, h3, hne _ _ _ _ h4 (.inr (.inl rfl)), hne _ _ _ _ h5 (.inr (.inr rfl)), h6, own_blk h7 (fun k e => hg.block k (h7.lt k e).2 (fun e2 => (hr k e2.symm).1 e)), fun i k1 k2 => (h8 i k1 k2).to (fun g cs fr _ hw => (hne g _ _ _ hw (.inl rfl)).trans hw.symm), fun u hu k e => Nat.lt_of_lt_of_le (h8' u hu k e) hg.size, D, h9.kept hg (fun e => hgm e.symm), h10⟩
/-- The box of the states was written. -/
theorem MetI.box {cs : Array Value} {i : Nat} {v : Value} (h : MetI base bs bk gm w sv S vs) (hb : w.heap[bd]? = some (.cells cs 35 (0, 0))) : MetI base bs bk gm (w.setCell ⟨bd, i, none⟩ v) sv S vs := by
  have hO : OnlyB bd w (w.setCell ⟨bd, i, none⟩ v) := (OnlyB.refl _ _).set _ _
  refine h.grown (row := some bd) ⟨hO.os, hO.tape, hO.output, by rw [hO.size]; exact Nat.le_refl _, fun k hk hne => hO.block k (fun e => hne (by rw [e]))⟩ (fun x e => ?_)
  obtain rfl : bd = x := by injection e
  refine ⟨fun q => ?_, cs, _, _, hb, by decide, by decide, by decide⟩
  obtain ⟨cs', hc⟩ := own_typed h.row q
  rw [hb] at hc
  injection hc with hc
  injection hc with _ hc _
  exact absurd hc (by decide)
/-- A row more. -/
theorem BdI.pushN {g cap : Nat} {v : Value} {l : List Nat} (h : BdI base bs bk gm bd w sv S vs nv fv ns N F) (hb : base ≤ w.heap.size) (hv : LstAt base w v l) (hg : w.grownBy w1 nv.ownBlock) (ho : w1.ownsRow base 26 1 (.slice (some ⟨g, 0, none⟩) (N.length + 1) cap) (N.length + 1) (ns ++ [v])) (hat : nv.ownBlock = some g ∨ w.heap.size ≤ g) :
    (w1.cell? ⟨bd, 0, none⟩ = some nv ∧ w1.frozen? ⟨bd, 0, none⟩ = false) ∧ BdI base bs bk gm bd (w1.setCell ⟨bd, 0, none⟩ (.slice (some ⟨g, 0, none⟩) (N.length + 1) cap)) sv S vs (.slice (some ⟨g, 0, none⟩) (N.length + 1) cap) fv (ns ++ [v]) (N ++ [l]) F ∧ Below base w (w1.setCell ⟨bd, 0, none⟩ (.slice (some ⟨g, 0, none⟩) (N.length + 1) cap)) ∧ ∀ (k : Nat) (cs : Array Value) (t : TypeId) (fr : Nat × Nat), w.heap[k]? = some (.cells cs t fr) → t ≠ 26 → k ≠ bd → (w1.setCell ⟨bd, 0, none⟩ (.slice (some ⟨g, 0, none⟩) (N.length + 1) cap)).heap[k]? = some (.cells cs t fr) := by
  have hty : ∀ x, nv.ownBlock = some x → ∃ cs, w.heap[x]? = some (.cells cs 26 (0, 0)) := fun x e => own_typed h.nrow e
  have hblk : ∀ (k : Nat) (cs : Array Value) (t : TypeId) (fr : Nat × Nat), w.heap[k]? = some (.cells cs t fr) → t ≠ 26 → w1.heap[k]? = some (.cells cs t fr) := fun k cs t fr hk ht => (hg.block k (lt_of_heap hk) (fun e => by
    obtain ⟨cs', hc⟩ := hty k e.symm
    rw [hk] at hc
    injection hc with hc
    injection hc with _ hc _
    exact ht hc)).trans hk
  have hd1 := hblk _ _ _ _ h.db (by decide)
  have hm1 : MetI base bs bk gm w1 sv S vs := h.met.grown hg (fun x e => by
    obtain ⟨cs, hc⟩ := hty x e
    exact ⟨h.nne x e, cs, _, _, hc, by decide, by decide, by decide⟩)
  have hO : OnlyB bd w1 (w1.setCell ⟨bd, 0, none⟩ (.slice (some ⟨g, 0, none⟩) (N.length + 1) cap)) := (OnlyB.refl _ _).set _ _
  have hl : ∀ u k, LstAt base w u k → LstAt base (w1.setCell ⟨bd, 0, none⟩ (.slice (some ⟨g, 0, none⟩) (N.length + 1) cap)) u k := fun u k q => (q.to (fun g' cs fr _ hw => (hblk g' _ _ _ hw (by decide)).trans hw.symm)).only hO hd1 (by decide)
  refine ⟨⟨cell_in hd1 0, by simp [World.frozen?, hd1]⟩, ⟨hm1.box hd1, h.lbd, by have := heap_setN (i := 0) hd1 (.slice (some ⟨g, 0, none⟩) (N.length + 1) cap); simpa using this, by simp [h.nl], ?_, fun i k1 k2 => ?_, fun k e e2 => ?_, own_blk (own_blk h.frow (fun k e => ?_)) (fun k e => hO.block k (fun q => ?_))⟩, ?_⟩
  · rw [List.length_append, List.length_singleton]
    refine own_blk ho (fun k e => hO.block k (fun q => ?_))
    subst q
    obtain ⟨cs, hc⟩ := own_typed ho e
    rw [hd1] at hc
    injection hc with hc
    injection hc with _ hc _
    exact absurd hc (by decide)
  · by_cases hi : i < ns.length
    · have hi2 : i < N.length := by have := h.nl; omega
      rw [List.getElem_append_left hi, List.getElem_append_left hi2]
      exact hl _ _ (h.nlst i hi hi2)
    · have hie : i = ns.length := by simp at k1; omega
      subst hie
      rw [List.getElem_append_right (Nat.le_refl _), List.getElem_append_right (by rw [h.nl]; exact Nat.le_refl _)]
      simp only [Nat.sub_self, List.getElem_cons_zero, h.nl]
      exact hl _ _ hv
  · have e3 : g = k := by injection e
    subst e3
    rcases hat with q | q
    · exact h.nne g q e2
    · have := (h.met.row.lt g e2).2
      omega
  · obtain ⟨cs, hc⟩ := own_typed h.frow e
    exact (hblk k _ _ _ hc (by decide)).trans hc.symm
  · subst q
    obtain ⟨cs, hc⟩ := own_typed h.frow e
    have := hblk _ _ _ _ hc (by decide)
    rw [hd1] at this
    injection this with this
    injection this with _ this _
    exact absurd this (by decide)
  · exact ⟨((Below.refl base w).grown hg hb (fun k e => (h.nrow.lt k e).1)).setCell (p := ⟨bd, 0, none⟩) h.lbd _, fun k cs t fr hk ht hne => (hO.block k hne).trans (hblk k cs t fr hk ht)⟩
/-- A mark more. -/
theorem BdI.pushF {v' : Value} {x : Bool} (h : BdI base bs bk gm bd w sv S vs nv fv ns N F) (hb : base ≤ w.heap.size) (hg : w.grownBy w1 fv.ownBlock) (ho : w1.ownsRow base 4 1 v' (F.length + 1) (cellBo F ++ [.bool x])) :
    (w1.cell? ⟨bd, 1, none⟩ = some fv ∧ w1.frozen? ⟨bd, 1, none⟩ = false) ∧ BdI base bs bk gm bd (w1.setCell ⟨bd, 1, none⟩ v') sv S vs nv v' ns N (F ++ [x]) ∧ Below base w (w1.setCell ⟨bd, 1, none⟩ v') ∧ ∀ (k : Nat) (cs : Array Value) (t : TypeId) (fr : Nat × Nat), w.heap[k]? = some (.cells cs t fr) → t ≠ 4 → k ≠ bd → (w1.setCell ⟨bd, 1, none⟩ v').heap[k]? = some (.cells cs t fr) := by
  have hty : ∀ x, fv.ownBlock = some x → ∃ cs, w.heap[x]? = some (.cells cs 4 (0, 0)) := fun x e => own_typed h.frow e
  have hblk : ∀ (k : Nat) (cs : Array Value) (t : TypeId) (fr : Nat × Nat), w.heap[k]? = some (.cells cs t fr) → t ≠ 4 → w1.heap[k]? = some (.cells cs t fr) := fun k cs t fr hk ht => (hg.block k (lt_of_heap hk) (fun e => by
    obtain ⟨cs', hc⟩ := hty k e.symm
    rw [hk] at hc
    injection hc with hc
    injection hc with _ hc _
    exact ht hc)).trans hk
  have hd1 := hblk _ _ _ _ h.db (by decide)
  have hm1 : MetI base bs bk gm w1 sv S vs := h.met.grown hg (fun x e => by
    obtain ⟨cs, hc⟩ := hty x e
    refine ⟨fun q => ?_, cs, _, _, hc, by decide, by decide, by decide⟩
    obtain ⟨cs', hc'⟩ := own_typed h.met.row q
    rw [hc] at hc'
    injection hc' with hc'
    injection hc' with _ hc' _
    exact absurd hc' (by decide))
  have hO : OnlyB bd w1 (w1.setCell ⟨bd, 1, none⟩ v') := (OnlyB.refl _ _).set _ _
  have hl : ∀ u k, LstAt base w u k → LstAt base (w1.setCell ⟨bd, 1, none⟩ v') u k := fun u k q => (q.to (fun g' cs fr _ hw => (hblk g' _ _ _ hw (by decide)).trans hw.symm)).only hO hd1 (by decide)
  refine ⟨⟨cell_in hd1 1, by simp [World.frozen?, hd1]⟩, ⟨hm1.box hd1, h.lbd, by have := heap_setN (i := 1) hd1 v'; simpa using this, h.nl, own_blk (own_blk h.nrow (fun k e => ?_)) (fun k e => hO.block k (fun q => ?_)), fun i k1 k2 => hl _ _ (h.nlst i k1 k2), h.nne, ?_⟩, ?_⟩
  · obtain ⟨cs, hc⟩ := own_typed h.nrow e
    exact (hblk k _ _ _ hc (by decide)).trans hc.symm
  · subst q
    obtain ⟨cs, hc⟩ := own_typed h.nrow e
    have := hblk _ _ _ _ hc (by decide)
    rw [hd1] at this
    injection this with this
    injection this with _ this _
    exact absurd this (by decide)
  · have e1 : cellBo (F ++ [x]) = cellBo F ++ [.bool x] := by simp [cellBo]
    rw [e1, List.length_append, List.length_singleton]
    refine own_blk ho (fun k e => hO.block k (fun q => ?_))
    subst q
    obtain ⟨cs, hc⟩ := own_typed ho e
    rw [hd1] at hc
    injection hc with hc
    injection hc with _ hc _
    exact absurd hc (by decide)
  · exact ⟨((Below.refl base w).grown hg hb (fun k e => (h.frow.lt k e).1)).setCell (p := ⟨bd, 1, none⟩) h.lbd _, fun k cs t fr hk ht hne => (hO.block k hne).trans (hblk k cs t fr hk ht)⟩
end
end Go.Proofs.YtklhjjgnhigbiaaGreatDoor

namespace Go.Proofs.YtklhjjgnhigbiaaGreatDoor
open Go.RowKit Go.Shelf
set_option linter.unusedVariables false

theorem meetS_pre (S : List (List Nat)) (l : List Nat) : ∃ T, meetS S l = S ++ T := by
  unfold meetS
  split
  · exact ⟨[], by simp⟩
  · exact ⟨[l], rfl⟩
theorem fold_pre (d : AutD) (free : Bool) (a : List Nat) : ∀ (ms : List Nat) (p : List Nat × List (List Nat)), ∃ T, (ms.foldl (stepR d free a) p).2 = p.2 ++ T
  | [], p => ⟨[], by simp⟩
  | m :: ms, p => by
    obtain ⟨T, h⟩ := fold_pre d free a ms (stepR d free a p m)
    obtain ⟨T2, h2⟩ := meetS_pre p.2 (nxt d free a m)
    refine ⟨T2 ++ T, ?_⟩
    rw [List.foldl_cons, h, ← List.append_assoc, ← h2]
    rfl
theorem stepB_pre (d : AutD) (free : Bool) (ms : List Nat) (b : Bst) (j : Nat) : ∃ T, (stepB d free ms b j).S = b.S ++ T := fold_pre d free _ ms ([], b.S)
/-- What Build answers. -/
def SbdA (d : AutD) (free : Bool) (ms : List Nat) (lim : Int) (w : World) (e : Ending) (w' : World) : Prop :=
  ∃ dv, e = .returned (.tuple #[dv, .int .i64 (errD d free ms lim)]) ∧ DfaAt w' dv (intsL (dfaD d free ms lim).1) (dfaD d free ms lim).2 ∧ Below w.heap.size w w'
theorem sbdA_zero {d : AutD} {free : Bool} {ms : List Nat} {lim : Int} {w w' : World} {er : Int} (hE : errD d free ms lim = er ∧ dfaD d free ms lim = ([], [])) (hB : Below w.heap.size w w') : SbdA d free ms lim w (.returned (.tuple #[.agg #[.slice none 0 0, .slice none 0 0], .int .i64 er])) w' := ⟨_, by rw [hE.1], by rw [hE.2]; exact dfaZ _, hB⟩
/-- States in a variable. -/
def DBox (w : World) (b : Nat) (nv fv : Value) : Prop := w.heap[b]? = some (.cells #[nv, fv] 35 (0, 0))
section
variable {w w' : World} {b : Nat} {nv fv : Value}
theorem DBox.c0 (h : DBox w b nv fv) : w.cell? ⟨b, 0, none⟩ = some nv := cell_in h 0
theorem DBox.c1 (h : DBox w b nv fv) : w.cell? ⟨b, 1, none⟩ = some fv := cell_in h 1
theorem DBox.nf (h : DBox w b nv fv) (i : Nat) : w.frozen? ⟨b, i, none⟩ = false := by
  unfold DBox at h
  simp [World.frozen?, h]
theorem DBox.lt (h : DBox w b nv fv) : b < w.heap.size := lt_of_heap h
theorem DBox.s0 (h : DBox w b nv fv) (v : Value) : DBox (w.setCell ⟨b, 0, none⟩ v) b v fv := by
  have := heap_setN (i := 0) h v; simpa [DBox] using this
theorem DBox.s1 (h : DBox w b nv fv) (v : Value) : DBox (w.setCell ⟨b, 1, none⟩ v) b nv v := by
  have := heap_setN (i := 1) h v; simpa [DBox] using this
theorem DBox.below (h : DBox w b nv fv) (hb : Below w.heap.size w w') : DBox w' b nv fv := (hb.block b h.lt).trans h
end


/-- All the variables of Build, while the states are built. -/
structure BdW (w0 : World) (A D : Nat) (n1 : Bool) (a1 a2 a3 a4 : Value) (bs bk gm bd : Nat) (w : World) (sv : Value) (S : List (List Nat)) (vs : List Value) (nv fv : Value) (ns : List Value) (N : List (List Nat)) (F : List Bool) : Prop where
  bi : BdI w0.heap.size bs bk gm bd w sv S vs nv fv ns N F
  ab : ABox w A n1 a1 a2 a3 a4
  db : DBox w D (.slice none 0 0) (.slice none 0 0)
  ne : D ≠ bd
  bl : Below w0.heap.size w0 w
section
variable {w0 : World} {A D : Nat} {n1 : Bool} {a1 a2 a3 a4 : Value} {bs bk gm bd : Nat} {w w1 w' : World} {sv sv' nv fv : Value} {S S' : List (List Nat)} {vs vs' ns : List Value} {N : List (List Nat)} {F : List Bool}
theorem BdW.below (h : BdW w0 A D n1 a1 a2 a3 a4 bs bk gm bd w sv S vs nv fv ns N F) (hb : Below w.heap.size w w') : BdW w0 A D n1 a1 a2 a3 a4 bs bk gm bd w' sv S vs nv fv ns N F :=
  ⟨h.bi.below hb, h.ab.below hb, h.db.below hb, h.ne, h.bl.trans (hb.mono h.bl.size)⟩
theorem BdW.call (h : BdW w0 A D n1 a1 a2 a3 a4 bs bk gm bd w sv S vs nv fv ns N F) (hm : MetI w0.heap.size bs bk gm w' sv' S' vs') (f : FrS bs gm w sv w' sv') : BdW w0 A D n1 a1 a2 a3 a4 bs bk gm bd w' sv' S' vs' nv fv ns N F :=
  ⟨h.bi.call hm f, f.keep h.bi.met h.ab (by decide) (by decide), f.keep h.bi.met h.db (by decide) (by decide), h.ne, h.bl.trans (f.below h.bi.met)⟩
theorem BdW.abd (h : BdW w0 A D n1 a1 a2 a3 a4 bs bk gm bd w sv S vs nv fv ns N F) : A ≠ bd := fun e => by
  have h1 := h.ab
  have h2 := h.bi.db
  unfold ABox at h1
  rw [e, h2] at h1
  injection h1 with h1
  injection h1 with _ h1 _
  exact absurd h1 (by decide)
theorem BdW.pushN {g cap : Nat} {v : Value} {l : List Nat} (h : BdW w0 A D n1 a1 a2 a3 a4 bs bk gm bd w sv S vs nv fv ns N F) (hv : LstAt w0.heap.size w v l) (hg : w.grownBy w1 nv.ownBlock) (ho : w1.ownsRow w0.heap.size 26 1 (.slice (some ⟨g, 0, none⟩) (N.length + 1) cap) (N.length + 1) (ns ++ [v])) (hat : nv.ownBlock = some g ∨ w.heap.size ≤ g) :
    (w1.cell? ⟨bd, 0, none⟩ = some nv ∧ w1.frozen? ⟨bd, 0, none⟩ = false) ∧ BdW w0 A D n1 a1 a2 a3 a4 bs bk gm bd (w1.setCell ⟨bd, 0, none⟩ (.slice (some ⟨g, 0, none⟩) (N.length + 1) cap)) sv S vs (.slice (some ⟨g, 0, none⟩) (N.length + 1) cap) fv (ns ++ [v]) (N ++ [l]) F := by
  obtain ⟨h1, h2, h3, h4⟩ := h.bi.pushN h.bl.size hv hg ho hat
  exact ⟨h1, h2, h4 _ _ _ _ h.ab (by decide) h.abd, h4 _ _ _ _ h.db (by decide) h.ne, h.ne, h.bl.trans h3⟩
theorem BdW.pushF {v' : Value} {x : Bool} (h : BdW w0 A D n1 a1 a2 a3 a4 bs bk gm bd w sv S vs nv fv ns N F) (hg : w.grownBy w1 fv.ownBlock) (ho : w1.ownsRow w0.heap.size 4 1 v' (F.length + 1) (cellBo F ++ [.bool x])) :
    (w1.cell? ⟨bd, 1, none⟩ = some fv ∧ w1.frozen? ⟨bd, 1, none⟩ = false) ∧ BdW w0 A D n1 a1 a2 a3 a4 bs bk gm bd (w1.setCell ⟨bd, 1, none⟩ v') sv S vs nv v' ns N (F ++ [x]) := by
  obtain ⟨h1, h2, h3, h4⟩ := h.bi.pushF h.bl.size hg ho
  exact ⟨h1, h2, h4 _ _ _ _ h.ab (by decide) h.abd, h4 _ _ _ _ h.db (by decide) h.ne, h.ne, h.bl.trans h3⟩
theorem BdW.lt (h : BdW w0 A D n1 a1 a2 a3 a4 bs bk gm bd w sv S vs nv fv ns N F) : bd < w.heap.size := lt_of_heap h.bi.db
theorem BdW.c0 (h : BdW w0 A D n1 a1 a2 a3 a4 bs bk gm bd w sv S vs nv fv ns N F) : w.cell? ⟨bd, 0, none⟩ = some nv := cell_in h.bi.db 0
theorem BdW.c1 (h : BdW w0 A D n1 a1 a2 a3 a4 bs bk gm bd w sv S vs nv fv ns N F) : w.cell? ⟨bd, 1, none⟩ = some fv := cell_in h.bi.db 1
theorem BdW.cs (h : BdW w0 A D n1 a1 a2 a3 a4 bs bk gm bd w sv S vs nv fv ns N F) : w.cell? ⟨bs, 0, none⟩ = some sv := cell_in h.bi.met.hs 0
/-- A set that was met. -/
theorem BdW.at (h : BdW w0 A D n1 a1 a2 a3 a4 bs bk gm bd w sv S vs nv fv ns N F) {j : Nat} (hj : j < S.length) : ∃ g c v, sv = .slice (some ⟨g, 0, none⟩) S.length c ∧ S.length ≤ c ∧ g < w.heap.size ∧ w.cell? ⟨g, j, none⟩ = some v ∧ LstAt w0.heap.size w v (S.getD j []) := by
  have hr := h.bi.met.row
  rcases hr.2 with ⟨rfl, h0⟩ | ⟨g, cap, cur, rfl, hb, hg, hc, hm, hs, ht⟩
  · omega
  · have hv : j < vs.length := by have := h.bi.met.len; omega
    refine ⟨g, cap, vs[j], rfl, hc, lt_of_heap hg, ?_, ?_⟩
    · have := hr.cells (g := g) rfl j vs[j] (by rw [List.getElem?_eq_getElem])
      rw [add_lit', Nat.zero_add] at this
      exact this
    · have := h.bi.met.lst j hv hj
      rw [List.getD_eq_getElem?_getD, List.getElem?_eq_getElem hj]
      exact this
/-- What is handed out. -/
theorem BdW.fin (h : BdW w0 A D n1 a1 a2 a3 a4 bs bk gm bd w sv S vs nv fv ns N F) (hD : w0.heap.size ≤ D) : DfaAt ((w.setCell ⟨D, 0, none⟩ nv).setCell ⟨D, 1, none⟩ fv) (.agg #[nv, fv]) (intsL N) F ∧ Below w0.heap.size w0 ((w.setCell ⟨D, 0, none⟩ nv).setCell ⟨D, 1, none⟩ fv) := by
  have hO : OnlyB D w ((w.setCell ⟨D, 0, none⟩ nv).setCell ⟨D, 1, none⟩ fv) := ((OnlyB.refl _ _).set _ _).set _ _
  have hn : ∀ {e : TypeId} {n : Nat} {v : Value} {xs : List Value} {k : Nat}, w.ownsRow w0.heap.size e 1 v n xs → e ≠ 35 → v.ownBlock = some k → k ≠ D := fun {e n v xs k} hr he hk q => by
    subst q
    obtain ⟨cs, hc⟩ := own_typed hr hk
    have := h.db
    unfold DBox at this
    rw [hc] at this
    injection this with this
    injection this with _ this _
    exact he this
  refine ⟨dfa_of_rows (base := w0.heap.size) (b2 := w0.heap.size) h.bi.nl (own_blk h.bi.nrow fun k e => hO.block k (hn h.bi.nrow (by decide) e)) (fun i h1 h2 => (h.bi.nlst i h1 h2).only hO h.db (by decide)) (own_blk h.bi.frow fun k e => hO.block k (hn h.bi.frow (by decide) e)), (h.bl.setCell (p := ⟨D, 0, none⟩) hD _).setCell (p := ⟨D, 1, none⟩) hD _⟩
end
end Go.Proofs.YtklhjjgnhigbiaaGreatDoor
