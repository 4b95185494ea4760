/-
  The document's maker of places, in memory.
-/
import Derived.Test.YtehkaiohmcenbaaDoorFlPut
import Derived.Test.YtehkaiohmcenbaaDoorFlRPlc
import Derived.Test.YtehkaiohmcenbaaDoorFlAut
namespace Go.Proofs.YtehkaiohmcenbaaDoor
open Go.RowKit Go.Shelf
set_option linter.unusedVariables false

/-- v does not lie in the block of sv. -/
def OffS (sv v : Value) : Prop := InQ (fun g => sv.ownBlock ≠ some g) v
theorem OffS.nil (sv : Value) (n c : Nat) : OffS sv (.slice none n c) := fun g off n' c' e => (by cases e)
/-- A list that does not lie in the sets' block. -/
def LstO (base : Nat) (w : World) (sv v : Value) (l : List Nat) : Prop := LstAt base w v l ∧ (l ≠ [] → OffS sv v)
theorem LstO.nil (base : Nat) (w : World) (sv : Value) : LstO base w sv (.slice none 0 0) [] := ⟨LstAt.nil _ _, fun _ => OffS.nil _ _ _⟩
theorem LstO.below {base : Nat} {w w' : World} {sv v : Value} {l : List Nat} (h : LstO base w sv v l) (hb : Below w.heap.size w w') : LstO base w' sv v l := ⟨h.1.below hb, h.2⟩
theorem LstO.any {base : Nat} {w : World} {sv v : Value} {l : List Nat} (h : LstO base w sv v l) : ∃ a n c, v = .slice a n c := by
  obtain ⟨a, cap, e⟩ := h.1.slice; exact ⟨a, _, cap, e⟩
/-- What may be written. -/
def WrT (t : TypeId) : Prop := t = 3 ∨ t = 27 ∨ t = 76
/-- From w to w' the maker may have gone on: the blocks below base stay, so do those of other types; lists stay, too. -/
structure FrM (base : Nat) (w : World) (sv : Value) (w' : World) (sv' : Value) : Prop where
  os : w'.os = w.os
  tape : w'.tape = w.tape
  output : w'.output = w.output
  size : w.heap.size ≤ w'.heap.size
  low : ∀ k, k < base → w'.heap[k]? = w.heap[k]?
  typ : ∀ (k : Nat) (cs : Array Value) (t : TypeId) (fr : Nat × Nat), w.heap[k]? = some (.cells cs t fr) → ¬ WrT t → w'.heap[k]? = w.heap[k]?
  lst : ∀ v l, LstO base w sv v l → LstO base w' sv' v l
theorem FrM.refl (base : Nat) (w : World) (sv : Value) : FrM base w sv w sv := ⟨rfl, rfl, rfl, Nat.le_refl _, fun _ _ => rfl, fun _ _ _ _ _ _ => rfl, fun _ _ h => h⟩
theorem FrM.trans {base : Nat} {a b c : World} {sa sb sc : Value} (h : FrM base a sa b sb) (k : FrM base b sb c sc) : FrM base a sa c sc :=
  ⟨k.os.trans h.os, k.tape.trans h.tape, k.output.trans h.output, Nat.le_trans h.size k.size, fun i hi => (k.low i hi).trans (h.low i hi), fun i cs t fr hi ht => (k.typ i cs t fr ((h.typ i cs t fr hi ht).trans hi) ht).trans (h.typ i cs t fr hi ht), fun v l q => k.lst v l (h.lst v l q)⟩
theorem FrM.of {base : Nat} {w w' : World} (sv : Value) (h : Below w.heap.size w w') (hb : base ≤ w.heap.size) : FrM base w sv w' sv :=
  ⟨h.os, h.tape, h.output, h.size, fun k hk => h.block k (by omega), fun k cs t fr hk _ => h.block k (lt_of_heap hk), fun v l q => q.below h⟩
theorem FrM.below {base : Nat} {w w' : World} {sv sv' : Value} (h : FrM base w sv w' sv') : Below base w w' := ⟨h.os, h.tape, h.output, h.size, h.low⟩
/-- A box of another type was written, a new one. -/
theorem FrM.only {base b : Nat} {w w1 w2 : World} {sv sv1 : Value} {cs : Array Value} {t : TypeId} {fr : Nat × Nat} (h : FrM base w sv w1 sv1) (k : OnlyB b w1 w2) (hb : w.heap.size ≤ b) (hbs : base ≤ w.heap.size) (hbb : w1.heap[b]? = some (.cells cs t fr)) (ht : t ≠ 3) : FrM base w sv w2 sv1 :=
  ⟨k.os.trans h.os, k.tape.trans h.tape, k.output.trans h.output, by rw [k.size]; exact h.size, fun i hi => (k.block i (by omega)).trans (h.low i hi), fun i cs' t' fr' hi h' => (k.block i (fun e => by
    have := lt_of_heap hi
    omega)).trans (h.typ i cs' t' fr' hi h'), fun v l q => ⟨(h.lst v l q).1.only k hbb ht, (h.lst v l q).2⟩⟩

/-- The maker's box at M: the sets S, and behind the places i the places y with R i y. -/
structure MkI (M base : Nat) (w : World) (sv fv : Value) (S : List Int) (R : Nat → Nat → Bool) : Prop where
  lo : base ≤ M
  box : w.heap[M]? = some (.cells #[sv, fv] 76 (0, 0))
  sets : w.ownsRow base 3 1 sv S.length (cellI S)
  fol : ∃ vs : List Value, vs.length = S.length ∧ w.ownsRow base 27 1 fv S.length vs ∧ ∀ i, (h : i < vs.length) → ∃ l, LstO base w sv vs[i] l ∧ l.Pairwise (· < ·) ∧ (∀ x ∈ l, x < 1000) ∧ ∀ y, y ∈ l ↔ R (i + 1) y = true
theorem MkI.lt {M base : Nat} {w : World} {sv fv : Value} {S : List Int} {R : Nat → Nat → Bool} (h : MkI M base w sv fv S R) : M < w.heap.size := lt_of_heap h.box
theorem MkI.c0 {M base : Nat} {w : World} {sv fv : Value} {S : List Int} {R : Nat → Nat → Bool} (h : MkI M base w sv fv S R) : w.cell? ⟨M, 0, none⟩ = some sv := cell_in h.box 0
theorem MkI.c1 {M base : Nat} {w : World} {sv fv : Value} {S : List Int} {R : Nat → Nat → Bool} (h : MkI M base w sv fv S R) : w.cell? ⟨M, 1, none⟩ = some fv := cell_in h.box 1
theorem MkI.nf {M base : Nat} {w : World} {sv fv : Value} {S : List Int} {R : Nat → Nat → Bool} (h : MkI M base w sv fv S R) (i : Nat) : w.frozen? ⟨M, i, none⟩ = false := by
  have := h.box
  simp [World.frozen?, this]
theorem MkI.to {M base : Nat} {w w' : World} {sv fv : Value} {S : List Int} {R : Nat → Nat → Bool} (h : MkI M base w sv fv S R) (hq : ∀ (k : Nat) (cs : Array Value) (t : TypeId) (fr : Nat × Nat), w.heap[k]? = some (.cells cs t fr) → WrT t → w'.heap[k]? = w.heap[k]?) : MkI M base w' sv fv S R := by
  obtain ⟨h1, h2, h3, vs, h4, h5, h6⟩ := h
  refine ⟨h1, (hq M _ _ _ h2 (.inr (.inr rfl))).trans h2, own_blk h3 (fun k hk => ?_), vs, h4, own_blk h5 (fun k hk => ?_), fun i hi => ?_⟩
  · obtain ⟨cs, hc⟩ := own_typed h3 hk
    exact hq k _ _ _ hc (.inl rfl)
  · obtain ⟨cs, hc⟩ := own_typed h5 hk
    exact hq k _ _ _ hc (.inr (.inl rfl))
  · obtain ⟨l, q1, q2⟩ := h6 i hi
    exact ⟨l, ⟨q1.1.to (fun g cs fr _ hw => hq g _ _ _ hw (.inl rfl)), q1.2⟩, q2⟩
theorem MkI.below {M base : Nat} {w w' : World} {sv fv : Value} {S : List Int} {R : Nat → Nat → Bool} (h : MkI M base w sv fv S R) (hb : Below w.heap.size w w') : MkI M base w' sv fv S R := h.to (fun k cs t fr hk _ => hb.block k (lt_of_heap hk))
theorem MkI.only {M base b : Nat} {w w' : World} {sv fv : Value} {S : List Int} {R : Nat → Nat → Bool} {cs : Array Value} {t : TypeId} {fr : Nat × Nat} (h : MkI M base w sv fv S R) (k : OnlyB b w w') (hbb : w.heap[b]? = some (.cells cs t fr)) (ht : ¬ WrT t) : MkI M base w' sv fv S R := h.to (fun i cs' t' fr' hi ht' => k.block i (fun e => by
  subst e
  rw [hbb] at hi
  injection hi with hi
  injection hi with _ hi _
  subst hi
  exact ht ht'))
theorem MkI.same {M base : Nat} {w : World} {sv fv : Value} {S : List Int} {R R' : Nat → Nat → Bool} (h : MkI M base w sv fv S R) (e : ∀ i y, i ≤ S.length → R i y = R' i y) : MkI M base w sv fv S R' := by
  obtain ⟨h1, h2, h3, vs, h4, h5, h6⟩ := h
  refine ⟨h1, h2, h3, vs, h4, h5, fun i hi => ?_⟩
  obtain ⟨l, q1, q2, q3, q4⟩ := h6 i hi
  exact ⟨l, q1, q2, q3, fun y => by rw [q4, e _ _ (by omega)]⟩
theorem MkI.fr {M base : Nat} {w : World} {sv fv : Value} {S : List Int} {R : Nat → Nat → Bool} (h : MkI M base w sv fv S R) : ∃ sa sc fa fc, sv = .slice sa S.length sc ∧ fv = .slice fa S.length fc := by
  obtain ⟨h1, h2, h3, vs, h4, h5, h6⟩ := h
  obtain ⟨sa, sc, e1⟩ : ∃ sa sc, sv = .slice sa S.length sc := by
    rcases h3.2 with ⟨e, e0⟩ | ⟨g, c, cur, e, _⟩
    · exact ⟨none, 0, by rw [e, e0]⟩
    · exact ⟨_, c, e⟩
  obtain ⟨fa, fc, e2⟩ : ∃ sa sc, fv = .slice sa S.length sc := by
    rcases h5.2 with ⟨e, e0⟩ | ⟨g, c, cur, e, _⟩
    · exact ⟨none, 0, by rw [e, e0]⟩
    · exact ⟨_, c, e⟩
  exact ⟨sa, sc, fa, fc, e1, e2⟩
theorem Kin.off {b : Nat} {w : World} {sv v v' : Value} {l l' : List Nat} {base n : Nat} {xs : List Value} (h : Kin b v l v' l') (hs : w.ownsRow base 3 1 sv n xs) (hb : w.heap.size ≤ b) (hv : l ≠ [] → OffS sv v) : l' ≠ [] → OffS sv v' := h _ (fun g hg e => by have := (hs.lt g e).2; omega) hv
/-- One list of those behind is set. -/
theorem MkI.set {M base g : Nat} {w w1 : World} {sv : Value} {fc i : Nat} {S : List Int} {R R' : Nat → Nat → Bool} {v : Value} {l : List Nat} (h : MkI M base w sv (.slice (some ⟨g, 0, none⟩) S.length fc) S R) (hb : Below w.heap.size w w1) (hi : i < S.length) (hl : LstO base w1 sv v l) (h1 : l.Pairwise (· < ·)) (h2 : ∀ x ∈ l, x < 1000) (h3 : ∀ y, y ∈ l ↔ R' (i + 1) y = true) (h4 : ∀ k y, k < S.length → k ≠ i → R' (k + 1) y = R (k + 1) y) :
    MkI M base (w1.setCell ⟨g, i, none⟩ v) sv (.slice (some ⟨g, 0, none⟩) S.length fc) S R' ∧ FrM base w sv (w1.setCell ⟨g, i, none⟩ v) sv := by
  have hw := h.below hb
  obtain ⟨a1, a2, a3, vs, a4, a5, a6⟩ := hw
  obtain ⟨cs, hg⟩ := own_typed a5 (k := g) rfl
  have hgb := a5.lt g rfl
  have hO : OnlyB g w1 (w1.setCell ⟨g, i, none⟩ v) := (OnlyB.refl _ _).set _ _
  have hlst : ∀ v' l', LstO base w1 sv v' l' → LstO base (w1.setCell ⟨g, i, none⟩ v) sv v' l' := fun v' l' q => ⟨q.1.only hO hg (by decide), q.2⟩
  have hbase := h.lo
  have hlt := h.lt
  refine ⟨⟨a1, (hO.block M (fun e => by
    subst e
    rw [a2] at hg
    injection hg with hg
    injection hg with _ hg _
    exact absurd hg (by decide))).trans a2, own_blk a3 (fun k hk => hO.block k (fun e => by
    subst e
    obtain ⟨cs', hc⟩ := own_typed a3 hk
    rw [hc] at hg
    injection hg with hg
    injection hg with _ hg _
    exact absurd hg (by decide))), vs.set i v, by simpa using a4, own_set a5 v, fun k hk => ?_⟩, ?_⟩
  · have hk' : k < vs.length := by simpa using hk
    rw [List.getElem_set]
    by_cases e : i = k
    · subst e
      rw [if_pos rfl]
      exact ⟨l, hlst v l hl, h1, h2, h3⟩
    · rw [if_neg e]
      obtain ⟨l', q1, q2, q3, q4⟩ := a6 k hk'
      exact ⟨l', hlst _ _ q1, q2, q3, fun y => by rw [q4, h4 k y (by omega) (fun q => e q.symm)]⟩
  · refine ⟨hO.os.trans hb.os, hO.tape.trans hb.tape, hO.output.trans hb.output, by rw [hO.size]; exact hb.size, fun k hk => (hO.block k (by omega)).trans (hb.block k (by omega)), fun k cs' t fr hk ht => (hO.block k (fun e => by
      subst e
      have := (hb.block k (lt_of_heap hk)).trans hk
      rw [this] at hg
      injection hg with hg
      injection hg with _ hg _
      exact ht (.inr (.inl hg)))).trans (hb.block k (lt_of_heap hk)), fun v' l' q => hlst v' l' (q.below hb)⟩
/-- What follows the last statement of a block, as a variable: so that it may be cut around. -/
theorem wp_last {P : Program} {s : Code} {Q : Exit → Act → World → Prop} {a : Act} {w : World} (h : ∀ K : Act → World → Prop, (∀ a' w', Q .normal a' w' → K a' w') → s.wp P (Exit.then K Q) a w) : s.wp P Q a w := by
  refine wp_mono (h (fun a' w' => Q .normal a' w') (fun _ _ q => q)) ?_
  intro e a' w' hq
  cases e <;> exact hq
theorem has_snoc (l : List Nat) (x i : Nat) : (l ++ [x]).contains i = (l.contains i || decide (i = x)) := by
  rw [Bool.eq_iff_iff]; simp
end Go.Proofs.YtehkaiohmcenbaaDoor
