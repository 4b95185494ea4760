/-
  What meets sets of places: subset.Build's closure. subset.Build's closure meets a set of places.
-/
import Derived.Test.YtklhjjgnhigbiaaGreatDoorSbWrit
import Derived.Test.YtklhjjgnhigbiaaGreatDoorFlMaker
import Derived.Maps.OwnSet
import Derived.Maps.Views
import Derived.Deep.CutRange
import Derived.Deep.AppendLies
namespace Go.Proofs.YtklhjjgnhigbiaaGreatDoor
open Go.RowKit Go.Shelf
set_option linter.unusedVariables false

theorem Tryz.undInt12 : Tryz.prog.underlying 3 = some (.int .i64) := by kernel_rfl
theorem Tryz.undStr12 : Tryz.prog.underlying 9 = some .string := by kernel_rfl
theorem Tryz.undMap12 : Tryz.prog.underlying 64 = some (.map 9 3) := by kernel_rfl
theorem Tryz.keyLaw12 : Maps.Keyed Tryz.prog 9 := Maps.string_keyed Tryz.undStr12
theorem Tryz.zeroInt12 (w : World) : (zeroValue 3).run Tryz.prog w = .ok (.int .i64 0) w := Tryz.zeroValue3 w
theorem Tryz.infoLs12 : (Tryz.prog.info? 26).map (fun i => (i.zero, i.size, i.bytes)) = some (some (.slice none 0 0), 1, 24) := by kernel_rfl

/-- The states behind a set that was met. -/
def meetS (S : List (List Nat)) (l : List Nat) : List (List Nat) := if l ∈ S then S else S ++ [l]
theorem meetS_in {S : List (List Nat)} {l : List Nat} (h : l ∈ S) : meetS S l = S := if_pos h
theorem meetS_out {S : List (List Nat)} {l : List Nat} (h : ¬ l ∈ S) : meetS S l = S ++ [l] := if_neg h
/-- The map knows the states. -/
def KnS (D : DataW Unit) (S : List (List Nat)) : Prop :=
  (∀ l, (Maps.has D (.string (txtL l)) = true ↔ l ∈ S)) ∧ ∀ l ∈ S, D.atKey (.string (txtL l)) (.lit (.int .i64 0)) = .lit (.int .i64 (S.idxOf l : Nat))
theorem KnS.put {D : DataW Unit} {S : List (List Nat)} {l : List Nat} (hD : Maps.IsMap D) (h : KnS D S) (hn : ¬ l ∈ S) : KnS (D.put (.string (txtL l)) (.lit (.int .i64 (S.length : Nat)))) (S ++ [l]) := by
  have hkl : WideAt.IsKeyLit (.string (txtL l)) := trivial
  have hne : ∀ x, x ≠ l → (Lit.string (txtL x)) ≠ .string (txtL l) := fun x hx e => hx (txt_inj _ _ (by injection e))
  constructor
  · intro x
    by_cases e : x = l
    · subst e
      simp [Maps.has_put_same hD hkl]
    · rw [Maps.has_put_other (hne x e), h.1 x]
      simp [e]
  · intro x hx
    by_cases e : x = l
    · subst e
      rw [Maps.atKey_put_same hD hkl, List.idxOf_append, if_neg hn]
      simp
    · rw [Maps.atKey_put_other (hne x e)]
      have hxS : x ∈ S := by
        rcases List.mem_append.1 hx with q | q
        · exact q
        · exact absurd (List.mem_singleton.1 q) e
      rw [h.2 x hxS, List.idxOf_append, if_pos hxS]
/-- The states S lie in the variable at bs (sv), and in the map gm, that the variable at bk holds. -/
structure MetI (base bs bk gm : Nat) (w : World) (sv : Value) (S : List (List Nat)) (vs : List Value) : Prop where
  ls : base ≤ bs
  lk : base ≤ bk
  lg : base ≤ gm
  hs : w.heap[bs]? = some (.cells #[sv] 27 (0, 0))
  hk : w.heap[bk]? = some (.cells #[.map (some gm)] 64 (0, 0))
  len : vs.length = S.length
  row : w.ownsRow base 26 1 sv S.length vs
  lst : ∀ i, (h1 : i < vs.length) → (h2 : i < S.length) → LstAt base w vs[i] S[i]
  old : ∀ u ∈ vs, ∀ k, u.ownBlock = some k → k < w.heap.size
  map : ∃ D, w.ownsMap Tryz.prog 9 (plainElem Tryz.prog 3) gm S.length D ∧ KnS D S
/-- What the meeting leaves. -/
structure FrS (bs gm : Nat) (w : World) (sv : Value) (w' : World) (sv' : Value) : Prop where
  os : w'.os = w.os
  tape : w'.tape = w.tape
  output : w'.output = w.output
  size : w.heap.size ≤ w'.heap.size
  block : ∀ k, k < w.heap.size → k ≠ bs → k ≠ gm → sv.ownBlock ≠ some k → w'.heap[k]? = w.heap[k]?
  fresh : ∀ k, sv'.ownBlock = some k → sv.ownBlock = some k ∨ w.heap.size ≤ k
theorem FrS.refl (bs gm : Nat) (w : World) (sv : Value) : FrS bs gm w sv w sv := ⟨rfl, rfl, rfl, Nat.le_refl _, fun _ _ _ _ _ => rfl, fun _ h => .inl h⟩
theorem FrS.trans {bs gm : Nat} {a b c : World} {sa sb sc : Value} (h : FrS bs gm a sa b sb) (k : FrS bs gm b sb c sc) : FrS bs gm a sa c sc :=
  ⟨k.os.trans h.os, k.tape.trans h.tape, k.output.trans h.output, Nat.le_trans h.size k.size, fun i hi h1 h2 h3 => (k.block i (Nat.lt_of_lt_of_le hi h.size) h1 h2 (fun e => by
    rcases h.fresh i e with q | q
    · exact h3 q
    · omega)).trans (h.block i hi h1 h2 h3), fun i e => by
    rcases k.fresh i e with q | q
    · exact h.fresh i q
    · exact .inr (Nat.le_trans h.size q)⟩
theorem FrS.of {bs gm : Nat} {w w' : World} (sv : Value) (h : Below w.heap.size w w') : FrS bs gm w sv w' sv := ⟨h.os, h.tape, h.output, h.size, fun k hk _ _ _ => h.block k hk, fun _ e => .inl e⟩
section
variable {base bs bk gm : Nat} {w w' : World} {sv : Value} {S : List (List Nat)} {vs : List Value}
theorem MetI.below (h : MetI base bs bk gm w sv S vs) (hb : Below w.heap.size w w') : MetI base bs bk gm w' sv S vs := by
  obtain ⟨h1, h2, h3, h4, h5, h6, h7, h8, h8', D, h9, h10⟩ := h
  refine ⟨h1, h2, h3, (hb.block _ (lt_of_heap h4)).trans h4, (hb.block _ (lt_of_heap h5)).trans h5, h6, ownsRow_below h7 hb, fun i k1 k2 => (h8 i k1 k2).below hb, fun u hu k e => Nat.lt_of_lt_of_le (h8' u hu k e) hb.size, D, ?_, h10⟩
  exact h9.kept (row := none) ⟨hb.os, hb.tape, hb.output, hb.size, fun k hk _ => hb.block k hk⟩ (by simp)
theorem MetI.lt (h : MetI base bs bk gm w sv S vs) : bs < w.heap.size ∧ bk < w.heap.size := ⟨lt_of_heap h.hs, lt_of_heap h.hk⟩
theorem MetI.gne (h : MetI base bs bk gm w sv S vs) {k : Nat} {cs : Array Value} {t : TypeId} {fr : Nat × Nat} (hk : w.heap[k]? = some (.cells cs t fr)) : k ≠ gm := fun e => by
  subst e
  obtain ⟨D, ⟨es, clock, hb, _⟩, _⟩ := h.map
  rw [hk] at hb
  cases hb
theorem MetI.slice (h : MetI base bs bk gm w sv S vs) : ∃ a c, sv = .slice a S.length c := by
  rcases h.row.2 with ⟨e, e0⟩ | ⟨g, c, cur, e, _⟩
  · exact ⟨none, 0, by rw [e, e0]⟩
  · exact ⟨_, c, e⟩
/-- A block of numbers was written that holds none of the lists. -/
theorem MetI.only {b : Nat} {cs : Array Value} {fr : Nat × Nat} (h : MetI base bs bk gm w sv S vs) (hO : OnlyB b w w') (hb : w.heap[b]? = some (.cells cs 3 fr)) (hu : ∀ u ∈ vs, u.ownBlock ≠ some b) : MetI base bs bk gm w' sv S vs := by
  have hgb := h.gne hb
  obtain ⟨h1, h2, h3, h4, h5, h6, h7, h8, h8', D, h9, h10⟩ := h
  have hne : ∀ (k : Nat) (cs' : Array Value) (t : TypeId) (fr' : Nat × Nat), w.heap[k]? = some (.cells cs' t fr') → t ≠ 3 → k ≠ b := fun k cs' t fr' hk ht e => by
    subst e
    rw [hk] at hb
    injection hb with hb
    injection hb with _ hb _
    exact ht hb
  refine ⟨h1, h2, h3, (hO.block _ (hne _ _ _ _ h4 (by decide))).trans h4, (hO.block _ (hne _ _ _ _ h5 (by decide))).trans h5, h6, own_blk h7 (fun k e => ?_), fun i k1 k2 => ?_, fun u hu k e => by rw [hO.size]; exact h8' u hu k e, D, ?_, h10⟩
  · obtain ⟨cs', hc⟩ := own_typed h7 e
    exact hO.block k (hne _ _ _ _ hc (by decide))
  · obtain ⟨a, c, e, hc, hn, hx⟩ := h8 i k1 k2
    refine ⟨a, c, e, hc, hn, fun h0 => ?_⟩
    obtain ⟨g, off, cs', fr', e2, q1, q2, q3⟩ := hx h0
    refine ⟨g, off, cs', fr', e2, q1, (hO.block g (fun q => ?_)).trans q2, q3⟩
    have := hu _ (List.getElem_mem k1)
    rw [e, e2] at this
    exact this (by rw [← q]; rfl)
  · exact h9.kept (row := some b) ⟨hO.os, hO.tape, hO.output, by rw [hO.size]; exact Nat.le_refl _, fun k hk hne => hO.block k (fun e => hne (by rw [e]))⟩ (fun e => hgb (by injection e with e; exact e.symm))
/-- A list stays. -/
theorem FrS.lst {sv' v : Value} {l : List Nat} (f : FrS bs gm w sv w' sv') (h : MetI base bs bk gm w sv S vs) (k : LstAt base w v l) : LstAt base w' v l :=
  k.to (fun g cs fr _ hg => f.block g (lt_of_heap hg) (fun e => by
    subst e
    rw [h.hs] at hg
    injection hg with hg
    injection hg with _ hg _
    exact absurd hg (by decide)) (h.gne hg) (fun e => by
    obtain ⟨cs', hc⟩ := own_typed h.row e
    rw [hc] at hg
    injection hg with hg
    injection hg with _ hg _
    exact absurd hg (by decide)))
/-- A block of another sort stays. -/
theorem FrS.keep {sv' : Value} (f : FrS bs gm w sv w' sv') (h : MetI base bs bk gm w sv S vs) {k : Nat} {cs : Array Value} {t : TypeId} {fr : Nat × Nat} (hk : w.heap[k]? = some (.cells cs t fr)) (h1 : t ≠ 27) (h2 : t ≠ 26) : w'.heap[k]? = some (.cells cs t fr) := (f.block k (lt_of_heap hk) (fun e => by
    subst e
    rw [h.hs] at hk
    injection hk with hk
    injection hk with _ hk _
    exact h1 hk.symm) (h.gne hk) (fun e => by
    obtain ⟨cs', hc⟩ := own_typed h.row e
    rw [hc] at hk
    injection hk with hk
    injection hk with _ hk _
    exact h2 hk.symm)).trans hk
theorem FrS.below {sv' : Value} (f : FrS bs gm w sv w' sv') (h : MetI base bs bk gm w sv S vs) : Below base w w' :=
  ⟨f.os, f.tape, f.output, f.size, fun k hk => f.block k (by have := h.lt.1; have := h.ls; omega) (by have := h.ls; omega) (by have := h.lg; omega) (fun e => by
    have := (h.row.lt k e).1
    omega)⟩
end
end Go.Proofs.YtklhjjgnhigbiaaGreatDoor

namespace Go.Proofs.YtklhjjgnhigbiaaGreatDoor
open Go.RowKit Go.Shelf
set_option linter.unusedVariables false

theorem grown_of' {w W w1 : World} {row : Option Nat} (h : Below w.heap.size w W) (g : W.grownBy w1 row) : w.grownBy w1 row :=
  ⟨g.os.trans h.os, g.tape.trans h.tape, g.output.trans h.output, Nat.le_trans h.size g.size, fun k hk hne => (g.block k (Nat.lt_of_lt_of_le hk h.size) hne).trans (h.block k hk)⟩
section
variable {base bs bk gm : Nat} {w w2 w3 : World} {sv : Value} {S : List (List Nat)} {vs : List Value}
/-- The map has grown. -/
theorem MetI.upd {l : List Nat} {D : DataW Unit} (h : MetI base bs bk gm w sv S vs) (hn : ¬ l ∈ S) (hD : w.ownsMap Tryz.prog 9 (plainElem Tryz.prog 3) gm S.length D) (hK : KnS D S) (hg : w.grownBy w2 (some gm)) (hm : w2.ownsMap Tryz.prog 9 (plainElem Tryz.prog 3) gm (S.length + 1) (D.put (.string (txtL l)) (.lit (.int .i64 (S.length : Nat))))) :
    w2.heap[bs]? = some (.cells #[sv] 27 (0, 0)) ∧ w2.heap[bk]? = some (.cells #[.map (some gm)] 64 (0, 0)) ∧ (w2.ownsRow base 26 1 sv S.length vs ∧ ∀ i, (h1 : i < vs.length) → (h2 : i < S.length) → LstAt base w2 vs[i] S[i]) ∧ FrS bs gm w sv w2 sv ∧ KnS (D.put (.string (txtL l)) (.lit (.int .i64 (S.length : Nat)))) (S ++ [l]) := by
  have hblk : ∀ (k : Nat) (cs : Array Value) (t : TypeId) (fr : Nat × Nat), w.heap[k]? = some (.cells cs t fr) → w2.heap[k]? = some (.cells cs t fr) := fun k cs t fr hk => (hg.block k (lt_of_heap hk) (fun e => by
    have : k = gm := by injection e
    exact h.gne hk this)).trans hk
  have h7 := h.row
  refine ⟨hblk _ _ _ _ h.hs, hblk _ _ _ _ h.hk, ⟨own_blk h7 (fun k e => ?_), fun i k1 k2 => (h.lst i k1 k2).to (fun g cs fr _ hw => (hblk g _ _ _ hw).trans hw.symm)⟩, ⟨hg.os, hg.tape, hg.output, hg.size, fun k hk _ h2 _ => hg.block k hk (fun e => h2 (by injection e)), fun k e => .inl e⟩, hK.put hD.isMap hn⟩
  obtain ⟨cs, hc⟩ := own_typed h7 e
  exact (hblk k _ _ _ hc).trans hc.symm
/-- The row has grown, and stands in its variable. -/
theorem met_row {l : List Nat} {v : Value} {D' : DataW Unit} {g cap : Nat} (h1 : base ≤ bs) (h2 : base ≤ bk) (h3 : base ≤ gm) (hs : w2.heap[bs]? = some (.cells #[sv] 27 (0, 0))) (hk : w2.heap[bk]? = some (.cells #[.map (some gm)] 64 (0, 0))) (h6 : vs.length = S.length) (h7 : w2.ownsRow base 26 1 sv S.length vs) (h8 : ∀ i, (h1 : i < vs.length) → (h2 : i < S.length) → LstAt base w2 vs[i] S[i]) (hm : w2.ownsMap Tryz.prog 9 (plainElem Tryz.prog 3) gm (S.length + 1) D') (hK : KnS D' (S ++ [l])) (hv : LstAt base w2 v l) (ho1 : ∀ u ∈ vs, ∀ k, u.ownBlock = some k → k < w2.heap.size) (ho2 : ∀ k, v.ownBlock = some k → k < w2.heap.size)
    (hg : w2.grownBy w3 sv.ownBlock) (ho : w3.ownsRow base 26 1 (.slice (some ⟨g, 0, none⟩) (S.length + 1) cap) (S.length + 1) (vs ++ [v])) (hat : sv.ownBlock = some g ∨ w2.heap.size ≤ g) :
    (w3.cell? ⟨bs, 0, none⟩ = some sv ∧ w3.frozen? ⟨bs, 0, none⟩ = false) ∧ MetI base bs bk gm (w3.setCell ⟨bs, 0, none⟩ (.slice (some ⟨g, 0, none⟩) (S.length + 1) cap)) (.slice (some ⟨g, 0, none⟩) (S.length + 1) cap) (S ++ [l]) (vs ++ [v]) ∧ FrS bs gm w2 sv (w3.setCell ⟨bs, 0, none⟩ (.slice (some ⟨g, 0, none⟩) (S.length + 1) cap)) (.slice (some ⟨g, 0, none⟩) (S.length + 1) cap) := by
  have hblk : ∀ (k : Nat) (cs : Array Value) (t : TypeId) (fr : Nat × Nat), w2.heap[k]? = some (.cells cs t fr) → t ≠ 26 → w3.heap[k]? = some (.cells cs t fr) := fun k cs t fr hk ht => (hg.block k (lt_of_heap hk) (fun e => by
    obtain ⟨cs', hc⟩ := own_typed h7 e.symm
    rw [hk] at hc
    injection hc with hc
    injection hc with _ hc _
    exact ht hc)).trans hk
  have hs3 := hblk _ _ _ _ hs (by decide)
  have hk3 := hblk _ _ _ _ hk (by decide)
  have hO : OnlyB bs w3 (w3.setCell ⟨bs, 0, none⟩ (.slice (some ⟨g, 0, none⟩) (S.length + 1) cap)) := (OnlyB.refl _ _).set _ _
  have hl3 : ∀ u k, LstAt base w2 u k → LstAt base (w3.setCell ⟨bs, 0, none⟩ (.slice (some ⟨g, 0, none⟩) (S.length + 1) cap)) u k := fun u k q => (q.to (fun g' cs fr _ hw => (hblk g' _ _ _ hw (by decide)).trans hw.symm)).only hO hs3 (by decide)
  have hmg : ∀ k, sv.ownBlock = some k → k ≠ gm := fun k e => by
    obtain ⟨cs, hc⟩ := own_typed h7 e
    intro q
    subst q
    obtain ⟨es, clock, hb, _⟩ := hm
    rw [hc] at hb
    cases hb
  have hm3 : (w3.setCell ⟨bs, 0, none⟩ (.slice (some ⟨g, 0, none⟩) (S.length + 1) cap)).ownsMap Tryz.prog 9 (plainElem Tryz.prog 3) gm (S ++ [l]).length D' := by
    have k1 := hm.kept hg (fun e => hmg gm e.symm rfl)
    have k2 : gm ≠ bs := fun e => by
      subst e
      obtain ⟨es, clock, hb, _⟩ := k1
      rw [hs3] at hb
      cases hb
    rw [List.length_append, List.length_singleton]
    exact k1.kept (row := some bs) ⟨hO.os, hO.tape, hO.output, by rw [hO.size]; exact Nat.le_refl _, fun k hk hne => hO.block k (fun e => hne (by rw [e]))⟩ (fun e => k2 (by injection e))
  refine ⟨⟨cell_in hs3 0, by simp [World.frozen?, hs3]⟩, ⟨h1, h2, h3, by have := heap_setN (i := 0) hs3 (.slice (some ⟨g, 0, none⟩) (S.length + 1) cap); simpa using this, (hO.block _ (fun e => ?_)).trans hk3, by simp [h6], ?_, fun i k1 k2 => ?_, fun u hu k e => ?_, D', hm3, hK⟩, ?_⟩
  · subst e
    rw [hs3] at hk3
    injection hk3 with hk3
    injection hk3 with _ hk3 _
    exact absurd hk3 (by decide)
  · rw [List.length_append, List.length_singleton]
    exact own_blk ho (fun k e => hO.block k (fun e2 => by
      subst e2
      obtain ⟨cs, hc⟩ := own_typed ho e
      rw [hs3] at hc
      injection hc with hc
      injection hc with _ hc _
      exact absurd hc (by decide)))
  · by_cases hi : i < vs.length
    · have hi2 : i < S.length := by omega
      rw [List.getElem_append_left hi, List.getElem_append_left hi2]
      exact hl3 _ _ (h8 i hi hi2)
    · have hie : i = vs.length := by simp at k1; omega
      subst hie
      rw [List.getElem_append_right (Nat.le_refl _), List.getElem_append_right (by omega)]
      simp only [Nat.sub_self, List.getElem_cons_zero, h6]
      exact hl3 _ _ hv
  · rw [hO.size]
    refine Nat.lt_of_lt_of_le ?_ hg.size
    rcases List.mem_append.1 hu with q | q
    · exact ho1 u q k e
    · obtain rfl := List.mem_singleton.1 q
      exact ho2 k e
  · refine ⟨hO.os.trans hg.os, hO.tape.trans hg.tape, hO.output.trans hg.output, by rw [hO.size]; exact hg.size, fun k hk q1 q2 q3 => (hO.block k q1).trans (hg.block k hk (fun e => q3 e.symm)), fun k e => ?_⟩
    have e2 : g = k := by injection e
    subst e2
    exact hat
end

set_option maxRecDepth 100000 in
set_option maxHeartbeats 16000000 in
theorem meet_any (base bs bk gm : Nat) (w : World) (sv : Value) (S : List (List Nat)) (vs : List Value) (v : Value) (l : List Nat) (hT : PowW w) (hI : MetI base bs bk gm w sv S vs) (hvk : ∀ k, v.ownBlock = some k → k < w.heap.size) (hb : base ≤ w.heap.size) (hv : LstAt base w v l) (hx : ∀ x ∈ l, x ≤ 1000) (hl : l.length ≤ 1000) (hS : S.length ≤ 10000) :
    Calls Tryz.prog 22 #[v, .pointer (some ⟨bk, 0, none⟩), .pointer (some ⟨bs, 0, none⟩)] w fun e w' => e = .returned (.int .i64 (S.idxOf l : Nat)) ∧ ∃ sv' vs', MetI base bs bk gm w' sv' (meetS S l) vs' ∧ (∀ u ∈ vs', u ∈ vs ∨ u = v) ∧ FrS bs gm w sv w' sv' := by
  obtain ⟨i0, hi0, hz0, hz1, hz2⟩ := info_parts Tryz.infoLs12
  have hwr := written_any l v w hT (hv.plc.less (Nat.zero_le _)) hx hl
  have HI : Hid (MetI base bs bk gm w sv S vs) := hI
  have HVK : Hid (∀ k, v.ownBlock = some k → k < w.heap.size) := hvk
  have HV : Hid (LstAt base w v l) := hv
  obtain ⟨va, vn, vc, rfl⟩ := hv.any
  obtain ⟨sa, sc, rfl⟩ := hI.slice
  obtain ⟨N, hN⟩ : ∃ N, N = S.length := ⟨_, rfl⟩
  have HN : Hid (N = S.length) := hN
  rw [← hN] at HI hS ⊢
  obtain ⟨T, hTx⟩ : ∃ T, T = txtS l := ⟨_, rfl⟩
  have HTX : Hid (T = txtS l) := hTx
  rw [← hTx] at hwr
  have hTs : T.size ≤ 22000 := by
    have := txt_take_len hx hl l.length
    rw [List.take_length] at this
    rw [hTx]
    show (txtL l).toArray.size ≤ _
    simpa using this
  have hkey : keyOf Tryz.prog 9 (.string T) = some (.string (txtL l)) := by
    rw [WideMaps.keyOf_string_mk Tryz.undStr12 (by unfold maxLen; omega), hTx]
    rfl
  obtain ⟨ix, hix⟩ : ∃ ix, ix = S.idxOf l := ⟨_, rfl⟩
  have HIX : Hid (ix = S.idxOf l) := hix
  rw [← hix]
  have hixl : ix ≤ 10000 := by
    have := List.idxOf_le_length (a := l) (l := S)
    omega
  clear hT hI hv hx hl hN hTx hix hvk
  go_enter Tryz.func22, Tryz.ntmps22
  go_upto_region 2 with fail
  refine hwr.mono ?_
  rintro e w1 ⟨rfl, hB1⟩
  have HI1 : Hid (MetI base bs bk gm w1 (.slice sa N sc) S vs) := HI.out.below hB1
  have HV1 : Hid (LstAt base w1 (.slice va vn vc) l) := HV.out.below hB1
  have HF1 : Hid (FrS bs gm w (.slice sa N sc) w1 (.slice sa N sc)) := FrS.of _ hB1
  have hb1 : base ≤ w1.heap.size := Nat.le_trans hb hB1.size
  obtain ⟨D, hD, hK⟩ := HI1.out.map
  have HD : Hid (w1.ownsMap Tryz.prog 9 (plainElem Tryz.prog 3) gm N D) := by rw [HN.out]; exact hD
  have HK : Hid (KnS D S) := hK
  have k0 : w1.cell? ⟨bk, 0, none⟩ = some (.map (some gm)) := cell_in HI1.out.hk 0
  have hbk : bk < w1.heap.size := HI1.out.lt.2
  have hbs : bs < w1.heap.size := HI1.out.lt.1
  clear hwr hB1 hD hK
  by_cases q : l ∈ S
  · have hh : Maps.has D (.string (txtL l)) = true := (HK.out.1 l).2 q
    have HAT : Hid (D.atKey (.string (txtL l)) (.lit (.int .i64 0)) = .lit (.int .i64 (ix : Nat))) := by rw [HIX.out]; exact HK.out.2 l q
    have HME : Hid (meetS S l = S) := meetS_in q
    clear q
    go_wp2_with (refine wpList_lookup_own_ok_int _ rfl _ _ 64 rfl 9 3 .i64 Tryz.keyLaw12 Tryz.undMap12 Tryz.undInt12 (Tryz.zeroInt12 _) gm N D rfl HD.out _ (.string (txtL l)) rfl hkey ?_; intro c hat hwc; obtain rfl : (ix : Int) = c := (by rw [HAT.out] at hat; simpa using hat); clear hat hwc)
    go_ret
    exact ⟨rfl, _, vs, by rw [HME.out]; exact HI1.out, fun u hu => .inl hu, HF1.out⟩
  · have hh : Maps.has D (.string (txtL l)) = false := by
      cases z : Maps.has D (.string (txtL l)) with
      | false => rfl
      | true => exact absurd ((HK.out.1 l).1 z) q
    have HME : Hid (meetS S l = S ++ [l]) := meetS_out q
    have hixN : ix = N := by rw [HIX.out, HN.out]; exact List.idxOf_eq_length q
    subst hixN
    have c0 : w1.cell? ⟨bs, 0, none⟩ = some (.slice sa ix sc) := cell_in HI1.out.hs 0
    have HUP : Hid (∀ w2, w1.grownBy w2 (some gm) → w2.ownsMap Tryz.prog 9 (plainElem Tryz.prog 3) gm (ix + 1) (D.put (.string (txtL l)) (.lit (.int .i64 (ix : Int)))) → w2.heap[bs]? = some (.cells #[.slice sa ix sc] 27 (0, 0)) ∧ w2.heap[bk]? = some (.cells #[.map (some gm)] 64 (0, 0)) ∧ (w2.ownsRow base 26 1 (.slice sa ix sc) S.length vs ∧ ∀ i, (h1 : i < vs.length) → (h2 : i < S.length) → LstAt base w2 vs[i] S[i]) ∧ FrS bs gm w1 (.slice sa ix sc) w2 (.slice sa ix sc) ∧ KnS (D.put (.string (txtL l)) (.lit (.int .i64 (ix : Int)))) (S ++ [l])) := fun w2 hg hm => by
      have hI1 := HI1.out
      have hD := HD.out
      rw [HN.out] at hI1 hD hm ⊢
      exact hI1.upd q hD HK.out hg hm
    clear q
    go_upto_region 6 with (first | (refine wpList_lookup_own_ok_int _ rfl _ _ 64 rfl 9 3 .i64 Tryz.keyLaw12 Tryz.undMap12 Tryz.undInt12 (Tryz.zeroInt12 _) gm ix D rfl HD.out _ (.string (txtL l)) rfl hkey ?_; intro c hat hwc; clear hat hwc) | (at_mapUpdate; refine wpList_mapUpdate_own _ rfl _ _ _ 64 rfl 9 3 Tryz.keyLaw12 Tryz.undMap12 _ gm ix D rfl HD.out (by unfold maxLen; omega) _ _ (.string (txtL l)) rfl rfl hkey (.lit (.int .i64 (ix : Int))) [] (plainElem_int Tryz.undInt12 (WalkArith.wf_i64 (by omega))) ?_; intro w2 hm2 hg2))
    obtain ⟨r1, r2, ⟨r4, r5⟩, r6, r7⟩ := HUP.out w2 hg2 hm2
    have r3 : vs.length = ix := by rw [HI1.out.len, ← HN.out]
    have HOL : Hid ((∀ u ∈ vs, ∀ k, u.ownBlock = some k → k < w2.heap.size) ∧ ∀ k, (Value.slice va vn vc).ownBlock = some k → k < w2.heap.size) := ⟨fun u hu k e => Nat.lt_of_lt_of_le (HI1.out.old u hu k e) r6.size, fun k e => Nat.lt_of_lt_of_le (HVK.out k e) (Nat.le_trans HF1.out.size r6.size)⟩
    rw [← HN.out] at r4
    have HM2 : Hid (w2.ownsMap Tryz.prog 9 (plainElem Tryz.prog 3) gm (ix + 1) (D.put (.string (txtL l)) (.lit (.int .i64 (ix : Int))))) := hm2
    have HR1 : Hid (w2.heap[bs]? = some (.cells #[.slice sa ix sc] 27 (0, 0))) := r1
    have HR2 : Hid (w2.heap[bk]? = some (.cells #[.map (some gm)] 64 (0, 0))) := r2
    have HR4 : Hid (w2.ownsRow base 26 1 (.slice sa ix sc) ix vs) := r4
    have HR5 : Hid (vs.length = ix ∧ ∀ i, (h1 : i < vs.length) → (h2 : i < S.length) → LstAt base w2 vs[i] S[i]) := ⟨r3, r5⟩
    have HV2 : Hid (LstAt base w2 (.slice va vn vc) l) := r6.lst HI1.out HV1.out
    have HF2 : Hid (FrS bs gm w (.slice sa ix sc) w2 (.slice sa ix sc)) := HF1.out.trans r6
    have HK2 : Hid (KnS (D.put (.string (txtL l)) (.lit (.int .i64 (ix : Int)))) (S ++ [l])) := r7
    have c2 : w2.cell? ⟨bs, 0, none⟩ = some (.slice sa ix sc) := cell_in HR1.out 0
    have hb2 : base ≤ w2.heap.size := by have := r6.size; omega
    have hbs2 : bs < w2.heap.size := lt_of_heap HR1.out
    have HFIN : Hid (∀ w3 g cap, w3.ownsRow base 26 1 (.slice (some ⟨g, 0, none⟩) (ix + 1) cap) (ix + 1) (vs ++ [.slice va vn vc]) → (w2.alloc (.cells #[.slice va vn vc] 26)).grownBy w3 (Value.slice sa ix sc).ownBlock → ((Value.slice sa ix sc).ownBlock = some g ∨ g = (w2.alloc (.cells #[.slice va vn vc] 26)).heap.size) → (w3.cell? ⟨bs, 0, none⟩ = some (.slice sa ix sc) ∧ w3.frozen? ⟨bs, 0, none⟩ = false) ∧ MetI base bs bk gm (w3.setCell ⟨bs, 0, none⟩ (.slice (some ⟨g, 0, none⟩) (ix + 1) cap)) (.slice (some ⟨g, 0, none⟩) (ix + 1) cap) (S ++ [l]) (vs ++ [.slice va vn vc]) ∧ FrS bs gm w (.slice sa ix sc) (w3.setCell ⟨bs, 0, none⟩ (.slice (some ⟨g, 0, none⟩) (ix + 1) cap)) (.slice (some ⟨g, 0, none⟩) (ix + 1) cap)) := fun w3 g cap ho hg hat => by
      have hI1 := HI1.out
      have h4 := HR4.out
      have h5 := HR5.out
      have hm := HM2.out
      have hf := HF2.out
      have hK := HK2.out
      have h1 := HR1.out
      rw [HN.out] at hI1 h4 h5 hm ho hg hat hf hK h1 ⊢
      obtain ⟨k1, k2, k3⟩ := met_row (l := l) (v := .slice va vn vc) hI1.ls hI1.lk hI1.lg h1 HR2.out h5.1 h4 h5.2 hm hK HV2.out HOL.out.1 HOL.out.2 (grown_of' (below_alloc w2 _) hg) ho (hat.imp id (fun e => by rw [e]; simp))
      exact ⟨k1, k2, hf.trans k3⟩
    clear hg2 hm2 r1 r2 r3 r4 r5 r6 r7 k0 c0
    go_wp2_with (at_builtin; go_must (refine wpList_append_lies _ rfl _ _ 27 rfl base 26 i0 (.slice none 0 0) 1 24 Tryz.underlying27 hi0 hz0 hz1 hz2 rfl (by decide) _ _ _ rfl (HR4.out.alloc _) ⟨w2.heap.size, 0, none⟩ 1 1 [.slice va vn vc] rfl rfl (World.news_of_block (by exact heap_new' _ _)) (by simp [Value.oneCell']) (by omega) (by unfold maxLen; omega) (by omega) (by simp; omega) _ rfl ?_); intro g cap w3 ho3 hg3 hat3 _; obtain ⟨⟨z0, z1⟩, z2, z3⟩ := HFIN.out w3 g cap ho3 hg3 hat3; have HZ : Hid (MetI base bs bk gm (w3.setCell ⟨bs, 0, none⟩ (.slice (some ⟨g, 0, none⟩) (ix + 1) cap)) (.slice (some ⟨g, 0, none⟩) (ix + 1) cap) (S ++ [l]) (vs ++ [.slice va vn vc]) ∧ FrS bs gm w (.slice sa ix sc) (w3.setCell ⟨bs, 0, none⟩ (.slice (some ⟨g, 0, none⟩) (ix + 1) cap)) (.slice (some ⟨g, 0, none⟩) (ix + 1) cap)) := ⟨z2, z3⟩; clear ho3 hg3 hat3 z2 z3)
    go_ret
    refine ⟨rfl, _, vs ++ [.slice va vn vc], by rw [HME.out]; exact HZ.out.1, fun u hu => ?_, HZ.out.2⟩
    rcases List.mem_append.1 hu with q | q
    · exact .inl q
    · exact .inr (List.mem_singleton.1 q)
end Go.Proofs.YtklhjjgnhigbiaaGreatDoor
