/-
  The draft of an alphabet in memory: the rests of the sets, the map of the masks, the masks, the least numbers, the entries.
-/
import Derived.Test.YtmknifnhcgdkaaaX37
namespace Go.Proofs.Ytmknifnhcgdkaaa
open Go.RowKit
set_option linter.unusedVariables false

/-- The draft at block gd, all its blocks from n on; the ranges lie below n. -/
structure DrfV (n : Nat) (w : World) (gd gm : Nat) (vr vm vl ve : Value) (R : List (List Rg)) (M : List Nat) (L : List Int) (P : List S3.Pp) (nm : Nat) (D : DataW Unit) : Prop where
  lgd : n ≤ gd
  lgm : n ≤ gm
  heap : w.heap[gd]? = some (.cells [vr, .map (some gm), vm, vl, ve].toArray 78 (0, 0))
  rests : ∃ xs, w.ownsRow n 46 1 vr R.length xs ∧ ∀ i, (h : i < R.length) → ∃ x, xs[i]? = some x ∧ RngAt n w x R[i]
  masks : w.ownsRow n 34 1 vm M.length (u64s M)
  least : w.ownsRow n 3 1 vl L.length (L.map (Value.int .i64))
  ents : w.ownsRow n 66 3 ve P.length (S3.cellsPs P)
  map : w.ownsMap Try.prog 34 (plainElem Try.prog 3) gm nm D

theorem DrfV.lt {n : Nat} {w : World} {gd gm : Nat} {vr vm vl ve : Value} {R : List (List Rg)} {M : List Nat} {L : List Int} {P : List S3.Pp} {nm : Nat} {D : DataW Unit} (h : DrfV n w gd gm vr vm vl ve R M L P nm D) : gd < w.heap.size := S3.heap_lt h.heap
theorem DrfV.nlt {n : Nat} {w : World} {gd gm : Nat} {vr vm vl ve : Value} {R : List (List Rg)} {M : List Nat} {L : List Int} {P : List S3.Pp} {nm : Nat} {D : DataW Unit} (h : DrfV n w gd gm vr vm vl ve R M L P nm D) : n ≤ w.heap.size := by
  have := h.lt
  have := h.lgd
  omega
theorem DrfV.below {n : Nat} {w w' : World} {gd gm : Nat} {vr vm vl ve : Value} {R : List (List Rg)} {M : List Nat} {L : List Int} {P : List S3.Pp} {nm : Nat} {D : DataW Unit} (h : DrfV n w gd gm vr vm vl ve R M L P nm D) (hb : Below w.heap.size w w') : DrfV n w' gd gm vr vm vl ve R M L P nm D where
  lgd := h.lgd
  lgm := h.lgm
  heap := (hb.block gd h.lt).trans h.heap
  rests := by
    obtain ⟨xs, h1, h2⟩ := h.rests
    refine ⟨xs, ownsRow_below h1 hb, fun i hi => ?_⟩
    obtain ⟨x, hx, hr⟩ := h2 i hi
    exact ⟨x, hx, hr.below (hb.mono h.nlt)⟩
  masks := ownsRow_below h.masks hb
  least := ownsRow_below h.least hb
  ents := ownsRow_below h.ents hb
  map := S3.ownsMap_below h.map hb
/-- The map is grown. -/
theorem DrfV.upd {n : Nat} {w w' : World} {gd gm : Nat} {vr vm vl ve : Value} {R : List (List Rg)} {M : List Nat} {L : List Int} {P : List S3.Pp} {nm nm' : Nat} {D D' : DataW Unit} (h : DrfV n w gd gm vr vm vl ve R M L P nm D)
    (hg : w.grownBy w' (some gm)) (hm : w'.ownsMap Try.prog 34 (plainElem Try.prog 3) gm nm' D') : DrfV n w' gd gm vr vm vl ve R M L P nm' D' ∧ Below n w w' := by
  have hB : Below n w w' := (Below.refl _ _).grown hg h.nlt (fun k hk => by have : gm = k := by simpa using hk
                                                                            have := h.lgm; omega)
  refine ⟨⟨h.lgd, h.lgm, ?_, ?_, ?_, ?_, ?_, hm⟩, hB⟩
  · have e2 := S3.map_ne h.map h.heap
    exact (hg.block _ h.lt (by simp; omega)).trans h.heap
  · obtain ⟨xs, h1, h2⟩ := h.rests
    refine ⟨xs, h1.kept hg (.inr (S3.own_ne_map h.map h1)), fun i hi => ?_⟩
    obtain ⟨x, hx, hr⟩ := h2 i hi
    exact ⟨x, hx, hr.below hB⟩
  · exact h.masks.kept hg (.inr (S3.own_ne_map h.map h.masks))
  · exact h.least.kept hg (.inr (S3.own_ne_map h.map h.least))
  · exact h.ents.kept hg (.inr (S3.own_ne_map h.map h.ents))

theorem set_ok {n : Nat} {w : World} {gd j : Nat} {u : Value} (h : n ≤ gd) : Below n w (w.setCell ⟨gd, j, none⟩ u) := (Below.refl _ _).setCell (p := ⟨gd, j, none⟩) h u

section
variable {n : Nat} {w w' : World} {gd gm : Nat} {vr vm vl ve v' : Value} {R : List (List Rg)} {M M' : List Nat} {L L' : List Int} {P P' : List S3.Pp} {nm : Nat} {D : DataW Unit}
/-- A row has grown, and stands in its field. -/
theorem DrfV.rowM (h : DrfV n w gd gm vr vm vl ve R M L P nm D) (hg : w.grownBy w' vm.ownBlock) (hr : w'.ownsRow n 34 1 v' M'.length (u64s M')) :
    (w'.cell? ⟨gd, 2, none⟩ = some vm ∧ w'.frozen? ⟨gd, 2, none⟩ = false) ∧ DrfV n (w'.setCell ⟨gd, 2, none⟩ v') gd gm vr v' vl ve R M' L P nm D ∧ Below n w (w'.setCell ⟨gd, 2, none⟩ v') := by
  have hB : Below n w w' := (Below.refl _ _).grown hg h.nlt (fun k hk => (h.masks.lt k hk).1)
  have hgd : w'.heap[gd]? = some (.cells [vr, .map (some gm), vm, vl, ve].toArray 78 (0, 0)) := (hg.block gd h.lt (fun e => S3.own_ne h.masks h.heap (by decide) e.symm)).trans h.heap
  obtain ⟨xs, h1, h2⟩ := h.rests
  have k1 := h1.kept hg (S3.rows_apart h1 h.masks (by decide))
  have k2 := h.least.kept hg (S3.rows_apart h.least h.masks (by decide))
  have k3 := h.ents.kept hg (S3.rows_apart h.ents h.masks (by decide))
  have k4 := h.map.kept hg (fun e => S3.own_ne_map h.map h.masks e.symm)
  refine ⟨⟨S3.cell_row hgd rfl, frozen_of_row _ _ _ _ _ hgd⟩, ⟨h.lgd, h.lgm, S3.heap_set_row hgd rfl, ⟨xs, ?_, fun i hi => ?_⟩, ?_, ?_, ?_, ?_⟩, hB.trans (set_ok h.lgd)⟩
  · exact k1.kept (S3.set_grown w' gd 2 _) (.inr (S3.own_ne k1 hgd (by decide)))
  · obtain ⟨x, hx, hr⟩ := h2 i hi
    exact ⟨x, hx, hr.below (hB.trans (set_ok h.lgd))⟩
  · exact hr.kept (S3.set_grown w' gd 2 _) (.inr (S3.own_ne hr hgd (by decide)))
  · exact k2.kept (S3.set_grown w' gd 2 _) (.inr (S3.own_ne k2 hgd (by decide)))
  · exact k3.kept (S3.set_grown w' gd 2 _) (.inr (S3.own_ne k3 hgd (by decide)))
  · exact k4.setCell (S3.map_ne k4 hgd) _
theorem DrfV.rowL (h : DrfV n w gd gm vr vm vl ve R M L P nm D) (hg : w.grownBy w' vl.ownBlock) (hr : w'.ownsRow n 3 1 v' L'.length (L'.map (Value.int .i64))) :
    (w'.cell? ⟨gd, 3, none⟩ = some vl ∧ w'.frozen? ⟨gd, 3, none⟩ = false) ∧ DrfV n (w'.setCell ⟨gd, 3, none⟩ v') gd gm vr vm v' ve R M L' P nm D ∧ Below n w (w'.setCell ⟨gd, 3, none⟩ v') := by
  have hB : Below n w w' := (Below.refl _ _).grown hg h.nlt (fun k hk => (h.least.lt k hk).1)
  have hgd : w'.heap[gd]? = some (.cells [vr, .map (some gm), vm, vl, ve].toArray 78 (0, 0)) := (hg.block gd h.lt (fun e => S3.own_ne h.least h.heap (by decide) e.symm)).trans h.heap
  obtain ⟨xs, h1, h2⟩ := h.rests
  have k1 := h1.kept hg (S3.rows_apart h1 h.least (by decide))
  have k2 := h.masks.kept hg (S3.rows_apart h.masks h.least (by decide))
  have k3 := h.ents.kept hg (S3.rows_apart h.ents h.least (by decide))
  have k4 := h.map.kept hg (fun e => S3.own_ne_map h.map h.least e.symm)
  refine ⟨⟨S3.cell_row hgd rfl, frozen_of_row _ _ _ _ _ hgd⟩, ⟨h.lgd, h.lgm, S3.heap_set_row hgd rfl, ⟨xs, ?_, fun i hi => ?_⟩, ?_, ?_, ?_, ?_⟩, hB.trans (set_ok h.lgd)⟩
  · exact k1.kept (S3.set_grown w' gd 3 _) (.inr (S3.own_ne k1 hgd (by decide)))
  · obtain ⟨x, hx, hr⟩ := h2 i hi
    exact ⟨x, hx, hr.below (hB.trans (set_ok h.lgd))⟩
  · exact k2.kept (S3.set_grown w' gd 3 _) (.inr (S3.own_ne k2 hgd (by decide)))
  · exact hr.kept (S3.set_grown w' gd 3 _) (.inr (S3.own_ne hr hgd (by decide)))
  · exact k3.kept (S3.set_grown w' gd 3 _) (.inr (S3.own_ne k3 hgd (by decide)))
  · exact k4.setCell (S3.map_ne k4 hgd) _
theorem DrfV.rowP (h : DrfV n w gd gm vr vm vl ve R M L P nm D) (hg : w.grownBy w' ve.ownBlock) (hr : w'.ownsRow n 66 3 v' P'.length (S3.cellsPs P')) :
    (w'.cell? ⟨gd, 4, none⟩ = some ve ∧ w'.frozen? ⟨gd, 4, none⟩ = false) ∧ DrfV n (w'.setCell ⟨gd, 4, none⟩ v') gd gm vr vm vl v' R M L P' nm D ∧ Below n w (w'.setCell ⟨gd, 4, none⟩ v') := by
  have hB : Below n w w' := (Below.refl _ _).grown hg h.nlt (fun k hk => (h.ents.lt k hk).1)
  have hgd : w'.heap[gd]? = some (.cells [vr, .map (some gm), vm, vl, ve].toArray 78 (0, 0)) := (hg.block gd h.lt (fun e => S3.own_ne h.ents h.heap (by decide) e.symm)).trans h.heap
  obtain ⟨xs, h1, h2⟩ := h.rests
  have k1 := h1.kept hg (S3.rows_apart h1 h.ents (by decide))
  have k2 := h.masks.kept hg (S3.rows_apart h.masks h.ents (by decide))
  have k3 := h.least.kept hg (S3.rows_apart h.least h.ents (by decide))
  have k4 := h.map.kept hg (fun e => S3.own_ne_map h.map h.ents e.symm)
  refine ⟨⟨S3.cell_row hgd rfl, frozen_of_row _ _ _ _ _ hgd⟩, ⟨h.lgd, h.lgm, S3.heap_set_row hgd rfl, ⟨xs, ?_, fun i hi => ?_⟩, ?_, ?_, ?_, ?_⟩, hB.trans (set_ok h.lgd)⟩
  · exact k1.kept (S3.set_grown w' gd 4 _) (.inr (S3.own_ne k1 hgd (by decide)))
  · obtain ⟨x, hx, hr⟩ := h2 i hi
    exact ⟨x, hx, hr.below (hB.trans (set_ok h.lgd))⟩
  · exact k2.kept (S3.set_grown w' gd 4 _) (.inr (S3.own_ne k2 hgd (by decide)))
  · exact k3.kept (S3.set_grown w' gd 4 _) (.inr (S3.own_ne k3 hgd (by decide)))
  · exact hr.kept (S3.set_grown w' gd 4 _) (.inr (S3.own_ne hr hgd (by decide)))
  · exact k4.setCell (S3.map_ne k4 hgd) _
/-- The rest of a set, in memory. -/
theorem DrfV.restAt (h : DrfV n w gd gm vr vm vl ve R M L P nm D) {k : Nat} (hk : k < R.length) : ∃ gr cap x, vr = .slice (some ⟨gr, 0, none⟩) R.length cap ∧ n ≤ gr ∧ gr < w.heap.size ∧ gr ≠ gd ∧ w.cell? ⟨gr, k, none⟩ = some x ∧ w.frozen? ⟨gr, k, none⟩ = false ∧ RngAt n w x R[k] := by
  obtain ⟨xs, h1, h2⟩ := h.rests
  obtain ⟨x, hx, hr⟩ := h2 k hk
  have h1' := h1
  rcases h1.2 with ⟨rfl, h0⟩ | ⟨g, cap, cur, rfl, hb, hg, hc, hm, hs, ht⟩
  · omega
  · have := h1'.cells (g := g) rfl k x hx
    rw [add_lit', Nat.zero_add] at this
    refine ⟨g, cap, x, rfl, hb, S3.heap_lt hg, fun e => ?_, this, frozen_of_row _ _ _ _ _ hg, hr⟩
    have := S3.own_ne h1' h.heap (by decide)
    exact this (by rw [e]; rfl)
/-- A rest is turned. -/
theorem DrfV.setRest {gr cap k : Nat} {x : Value} {t : List Rg} (h : DrfV n w gd gm (.slice (some ⟨gr, 0, none⟩) R.length cap) vm vl ve R M L P nm D) (hk : k < R.length) (hx : RngAt n w x t) :
    DrfV n (w.setCell ⟨gr, k, none⟩ x) gd gm (.slice (some ⟨gr, 0, none⟩) R.length cap) vm vl ve (R.set k t) M L P nm D := by
  obtain ⟨xs, h1, h2⟩ := h.rests
  have h1' := h1
  rcases h1.2 with ⟨e, _⟩ | ⟨g, cap', cur, e, hb, hg, hc, hm, hs, ht⟩
  · cases e
  obtain ⟨rfl, rfl⟩ : gr = g ∧ cap = cap' := by simpa using e
  have hne : gd ≠ gr := fun e => by
    have := S3.own_ne h1' h.heap (by decide)
    exact this (by rw [e]; rfl)
  have hB : Below n w (w.setCell ⟨gr, k, none⟩ x) := set_ok hb
  have hob : ∀ {b e s v m ys}, w.ownsRow b e s v m ys → e ≠ 46 → (w.setCell ⟨gr, k, none⟩ x).ownsRow b e s v m ys := fun hrow he => by
    refine hrow.kept (S3.set_grown w gr k _) ?_
    have := S3.rows_apart hrow h1' he
    exact this
  refine ⟨h.lgd, h.lgm, ?_, ⟨xs.set k x, ?_, fun i hi => ?_⟩, hob h.masks (by decide), hob h.least (by decide), hob h.ents (by decide), ?_⟩
  · rw [heap_setCell_other _ _ _ _ hne]; exact h.heap
  · have hl := h1'.1
    refine ⟨by simp; omega, .inr ⟨gr, cap, (cur.toList.set k x).toArray, by rw [List.length_set], hb, ?_, by rw [List.length_set]; exact hc, hm, by simpa using hs, ?_⟩⟩
    · exact S3.heap_set_row (cs := cur.toList) (by simpa using hg) rfl
    · rw [List.length_set]
      show (cur.toList.set k x).take (R.length * 1) = _
      rw [List.take_set, ht]
  · have hi' : i < R.length := by simpa using hi
    obtain ⟨y, hy, hr⟩ := h2 i hi'
    have hxl : k < xs.length := by have := h1'.1; omega
    by_cases e : i = k
    · subst e
      refine ⟨x, by rw [List.getElem?_set_self hxl], ?_⟩
      rw [List.getElem_set_self]
      exact hx.below hB
    · refine ⟨y, by rw [List.getElem?_set_ne (by omega)]; exact hy, ?_⟩
      rw [List.getElem_set_ne (by omega)]
      exact hr.below hB
  · refine h.map.setCell ?_ _
    intro e
    obtain ⟨es, clock, hb', _⟩ := h.map
    have e : gm = gr := e
    rw [e, hg] at hb'
    cases hb'
end
/-- What the map of the draft says of masks. -/
def Knows9 (D : DataW Unit) (M : List Nat) : Prop :=
  (∀ m : Nat, (Maps.has D (.int .u64 (m : Int)) = true ↔ m ∈ M)) ∧ ∀ m ∈ M, D.atKey (.int .u64 (m : Int)) (.lit (.int .i64 0)) = .lit (.int .i64 (M.idxOf m : Nat))
theorem Knows9.put {D : DataW Unit} {M : List Nat} {m : Nat} (hD : Maps.IsMap D) (h : Knows9 D M) (hn : ¬ m ∈ M) : Knows9 (D.put (.int .u64 (m : Int)) (.lit (.int .i64 (M.length : Nat)))) (M ++ [m]) := by
  have hkl : WideAt.IsKeyLit (.int .u64 (m : Int)) := trivial
  have hne : ∀ x : Nat, x ≠ m → (Lit.int .u64 (x : Int)) ≠ .int .u64 (m : Int) := fun x hx e => hx (Int.ofNat.inj (by simpa using e))
  constructor
  · intro x
    by_cases e : x = m
    · subst e
      simp [Maps.has_put_same hD hkl]
    · rw [Maps.has_put_other (hne x e), h.1 x]
      simp [e]
  · intro x hx
    by_cases e : x = m
    · subst e
      rw [Maps.atKey_put_same hD hkl, List.idxOf_append, if_neg hn]
      simp
    · have hx' : x ∈ M := by
        rcases List.mem_append.1 hx with q | q
        · exact q
        · exact absurd (List.mem_singleton.1 q) e
      rw [Maps.atKey_put_other (hne x e), h.2 x hx', List.idxOf_append, if_pos hx']
/-- The draft in memory. -/
def DrfAt (n : Nat) (w : World) (gd : Nat) (R : List (List Rg)) (M : List Nat) (L : List Int) (P : List S3.Pp) : Prop :=
  ∃ gm vr vm vl ve D, DrfV n w gd gm vr vm vl ve R M L P M.length D ∧ Knows9 D M
end Go.Proofs.Ytmknifnhcgdkaaa
