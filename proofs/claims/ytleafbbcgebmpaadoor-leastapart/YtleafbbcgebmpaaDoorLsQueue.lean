/-
  A row of pairs, cut at its front, that grows at its end.
-/
import Derived.Test.YtleafbbcgebmpaaDoorLsPair
import Derived.ArgAppend
namespace Go.Proofs.YtleafbbcgebmpaaDoor
open Go.RowKit Go.Shelf
set_option linter.unusedVariables false

theorem Tryd.infoPair13 : (Tryd.prog.info? 67).map (fun i => (i.zero, i.size, i.bytes)) = some (some (.agg #[.int .i64 0, .int .i64 0]), 2, 16) := by kernel_rfl
/-- n pairs, the cells xs, from the place off on, in the block g. -/
structure QRow (w : World) (base g off n cap : Nat) (xs : List Value) : Prop where
  hb : base ≤ g
  len : xs.length = n * 2
  le : n ≤ cap
  at_ : ∃ cur : Array Value, w.heap[g]? = some (.cells cur 67 (0, 0)) ∧ off + cap * 2 ≤ cur.size ∧ ∀ j u, xs[j]? = some u → cur[off + j]? = some u
section
variable {w w' : World} {base g off n cap : Nat} {xs : List Value}
theorem QRow.blk (h : QRow w base g off n cap xs) (hk : w'.heap[g]? = w.heap[g]?) : QRow w' base g off n cap xs := by
  obtain ⟨h1, h2, h3, cur, h4, h5⟩ := h
  exact ⟨h1, h2, h3, cur, hk.trans h4, h5⟩
theorem QRow.lt (h : QRow w base g off n cap xs) : g < w.heap.size := by
  obtain ⟨cur, h4, h5⟩ := h.at_
  exact lt_of_heap h4
theorem QRow.cell (h : QRow w base g off n cap xs) {j : Nat} {u : Value} (hj : xs[j]? = some u) : w.cell? ⟨g, off + j, none⟩ = some u := by
  obtain ⟨cur, h4, h5, h6⟩ := h.at_
  rw [cell_in h4]
  exact h6 j u hj
/-- The front one is left out. -/
theorem QRow.next (h : QRow w base g off (n + 1) cap xs) : (cap = 1 → QRow w base g off n (cap - 1) (xs.drop 2)) ∧ (cap ≠ 1 → QRow w base g (off + 2) n (cap - 1) (xs.drop 2)) := by
  obtain ⟨h1, h2, h3, cur, h4, h5, h6⟩ := h
  have hl : (xs.drop 2).length = n * 2 := by rw [List.length_drop, h2]; omega
  refine ⟨fun e => ?_, fun e => ⟨h1, hl, by omega, cur, h4, by omega, fun j u hj => ?_⟩⟩
  · have h0 : n = 0 := by omega
    refine ⟨h1, hl, by omega, cur, h4, by omega, fun j u hj => ?_⟩
    have := (List.getElem?_eq_some_iff.1 hj).1
    rw [hl, h0] at this
    omega
  · rw [List.getElem?_drop] at hj
    have := h6 (2 + j) u hj
    rw [show off + 2 + j = off + (2 + j) by omega]
    exact this
theorem wpList_append_q {ops : Array Oper} {rest : List Oper} {o : Oper} {a : Act} {Q : Exit → Act → World → Prop} (hgd : o.guard = none) (s x : Operand)
    (ho : o.op = .call { callee := .builtin .append, args := #[s, x], argTypes := #[71, 71] })
    (hs : a.eval s = .slice (some ⟨g, off, none⟩) n cap) (hq : QRow w base g off n cap xs) (ad : Addr) (c : Nat) (x0 y0 : Value) (hx : a.eval x = .slice (some ad) 1 c) (hc : ∀ j u, [x0, y0][j]? = some u → w.cell? (ad.add j) = some u)
    (h1 : x0.oneCell' = true ∧ y0.oneCell' = true) (hn : n + 1 ≤ 1000000) (hb : base ≤ w.heap.size)
    (h : ∀ g' off' cap' w', QRow w' base g' off' (n + 1) cap' (xs ++ [x0, y0]) → w.grownBy w' (some g) → (g' = g ∨ w.heap.size ≤ g') → wpList Tryd.prog ops Q rest (a.put o.dst (.slice (some ⟨g', off', none⟩) (n + 1) cap')) w') : wpList Tryd.prog ops Q (o :: rest) a w := by
  obtain ⟨i, hi, hz0, hz1, hz2⟩ := info_parts Tryd.infoPair13
  obtain ⟨cur, q1, q2, q3⟩ := hq.at_
  have hle := hq.le
  refine wpList_append_arg w hgd s x 71 ho 67 i (.agg #[.int .i64 0, .int .i64 0]) 2 16 Tryd.underlying71 hi hz0 hz1 hz2 rfl (by decide) g off n cap xs hs hq.len (fun j u hj => hq.cell hj) ad 1 c [x0, y0] hx rfl hc (fun u hu => ?_) (fun hr j hj => ?_) (by unfold maxLen; omega) (by omega) (fun hr => ?_) (fun hr v' w' ho' hg' => ?_)
  · rcases List.mem_cons.1 hu with rfl | hu
    · exact h1.1
    · rw [List.mem_singleton.1 hu]; exact h1.2
  · have hj2 : j < 2 := hj
    refine ⟨?_, by simp [World.frozen?, q1]⟩
    rw [cell_in q1]
    have : off + n * 2 + j < cur.size := by omega
    rw [Array.getElem?_eq_getElem this]
    rfl
  · have e : w.setCells g (off + n * 2) [x0, y0] = (w.setCell ⟨g, off + n * 2, none⟩ x0).setCell ⟨g, off + n * 2 + 1, none⟩ y0 := rfl
    have hO : OnlyB g w (w.setCells g (off + n * 2) [x0, y0]) := by rw [e]; exact ((OnlyB.refl _ _).set _ _).set _ _
    refine h g off cap _ ⟨hq.hb, by rw [List.length_append, hq.len]; simp; omega, hr, ?_⟩ ⟨hO.os, hO.tape, hO.output, by rw [hO.size]; exact Nat.le_refl _, fun k _ hk => hO.block k (fun e => hk (by rw [e]))⟩ (.inl rfl)
    rw [e]
    refine ⟨_, heap_setN (heap_setN q1 x0) y0, by simp; omega, fun j u hj => ?_⟩
    have hxl := hq.len
    by_cases hlt : j < xs.length
    · rw [List.getElem?_append_left hlt] at hj
      rw [Array.getElem?_setIfInBounds_ne (by omega), Array.getElem?_setIfInBounds_ne (by omega)]
      exact q3 j u hj
    · rw [List.getElem?_append_right (by omega)] at hj
      have hj2 := (List.getElem?_eq_some_iff.1 hj).1
      have hj3 : j - xs.length < 2 := hj2
      by_cases h0 : j = xs.length
      · subst h0
        simp at hj
        subst hj
        rw [Array.getElem?_setIfInBounds_ne (by omega), hxl, Array.getElem?_setIfInBounds_self_of_lt (by omega)]
      · have h9 : j = xs.length + 1 := by omega
        subst h9
        rw [show xs.length + 1 - xs.length = 1 by omega] at hj
        simp at hj
        subst hj
        rw [hxl, show off + (n * 2 + 1) = off + n * 2 + 1 by omega, Array.getElem?_setIfInBounds_self_of_lt (by simp; omega)]
  · rcases ho'.2 with ⟨e, e0⟩ | ⟨g', cap', cur', e, hb', hg2, hc2, hm2, hs2, ht2⟩
    · omega
    · subst e
      refine h g' 0 cap' w' ⟨by omega, ho'.1, hc2, cur', hg2, by omega, fun j u hj => ?_⟩ ⟨hg'.os, hg'.tape, hg'.output, hg'.size, fun k hk _ => hg'.block k hk (by simp)⟩ (.inr hb')
      have hjl := (List.getElem?_eq_some_iff.1 hj).1
      rw [← ht2, List.getElem?_take] at hj
      split at hj
      · rw [Nat.zero_add, ← Array.getElem?_toList]
        exact hj
      · cases hj
end
/-- A measure that no slot tells: the least one of a relation's. -/
theorem ghost_mu {α : Type} (R : Nat → α → Prop) : ∃ mu : α → Nat, ∀ a j, R j a → mu a ≤ j ∧ R (mu a) a := by
  have key : ∀ a, ∃ m, ∀ j, R j a → m ≤ j ∧ R m a := fun a => by
    by_cases h : ∃ j, R j a
    · obtain ⟨j, hj⟩ := h
      have go : ∀ n j, j ≤ n → R j a → ∃ m, R m a ∧ ∀ i, R i a → m ≤ i := by
        intro n
        induction n with
        | zero =>
          intro j hj h
          have : j = 0 := by omega
          subst this
          exact ⟨0, h, fun i _ => Nat.zero_le _⟩
        | succ n ih =>
          intro j hj h
          by_cases q : ∃ i, i < j ∧ R i a
          · obtain ⟨i, hi, hr⟩ := q
            exact ih i (by omega) hr
          · refine ⟨j, h, fun i hi => Nat.le_of_not_lt (fun hlt => q ⟨i, hlt, hi⟩)⟩
      obtain ⟨m, h1, h2⟩ := go j j (Nat.le_refl _) hj
      exact ⟨m, fun i hi => ⟨h2 i hi, h1⟩⟩
    · exact ⟨0, fun j hj => absurd ⟨j, hj⟩ h⟩
  exact Classical.axiomOfChoice key
def cellE (l : List Ent) : List Value := l.flatMap fun e => [Value.int .i64 (e.a : Int), Value.int .i64 (e.b : Int)]
theorem cellE_snoc (l : List Ent) (e : Ent) : cellE (l ++ [e]) = cellE l ++ [.int .i64 (e.a : Int), .int .i64 (e.b : Int)] := by simp [cellE]
theorem cellE_drop (l : List Ent) : (cellE l).drop 2 = cellE (l.drop 1) := by
  cases l with
  | nil => rfl
  | cons e l => rfl
theorem cellE_len (l : List Ent) : (cellE l).length = l.length * 2 := by
  induction l with
  | nil => rfl
  | cons e l ih =>
    show ([_, _] ++ cellE l).length = _
    rw [List.length_append, ih]
    simp; omega
/-- What firstApart has in memory: links in gl, the map in gm, the pairs that are ahead in g. -/
structure FsI (W3 : World) (lo gl gm NN : Nat) (w : World) (cl : Nat → Nat) (Q : List Ent) (xs : List Value) (n g off cap : Nat) : Prop where
  os : w.os = W3.os
  tape : w.tape = W3.tape
  output : w.output = W3.output
  size : W3.heap.size ≤ w.heap.size
  old : ∀ k, k < W3.heap.size → k ≠ gl → k ≠ gm → w.heap[k]? = W3.heap[k]?
  lgl : gl < W3.heap.size
  lgm : gm < W3.heap.size
  ln : ∃ L h B, RowN w lo gl NN L ∧ Uf NN L cl h B
  mp : ∃ m D, m ≤ Q.length ∧ w.ownsMap Tryd.prog 67 stR gm m D ∧ KnP D Q
  q : QRow w W3.heap.size g off n cap xs
section
variable {W3 : World} {lo gl gm NN : Nat} {w w' : World} {cl : Nat → Nat} {Q : List Ent} {xs : List Value} {n g off cap : Nat}
theorem FsI.gne (h : FsI W3 lo gl gm NN w cl Q xs n g off cap) {k : Nat} {cs : Array Value} {t : TypeId} {fr : Nat × Nat} (hk : w.heap[k]? = some (.cells cs t fr)) : k ≠ gm := fun e => by
  subst e
  obtain ⟨m, D, _, ⟨es, clock, hb, _⟩, _⟩ := h.mp
  rw [hk] at hb
  cases hb
theorem FsI.below (h : FsI W3 lo gl gm NN w cl Q xs n g off cap) (hb : Below w.heap.size w w') : FsI W3 lo gl gm NN w' cl Q xs n g off cap := by
  obtain ⟨h1, h2, h3, h4, h5, h6, h7, ⟨L, hh, B, h8, h9⟩, ⟨m, D, h10, h11, h12⟩, h13⟩ := h
  exact ⟨hb.os.trans h1, hb.tape.trans h2, hb.output.trans h3, Nat.le_trans h4 hb.size, fun k hk a b => (hb.block k (by omega)).trans (h5 k hk a b), h6, h7, ⟨L, hh, B, h8.below hb, h9⟩, ⟨m, D, h10, h11.kept (row := none) ⟨hb.os, hb.tape, hb.output, hb.size, fun k hk _ => hb.block k hk⟩ (by simp), h12⟩, h13.blk (hb.block _ h13.lt)⟩
theorem FsI.link (h : FsI W3 lo gl gm NN w cl Q xs n g off cap) (hO : OnlyB gl w w') {cl' L' hh' : Nat → Nat} {B' : Nat} (hr : RowN w' lo gl NN L') (hu : Uf NN L' cl' hh' B') : FsI W3 lo gl gm NN w' cl' Q xs n g off cap := by
  have hgm : gl ≠ gm := by
    obtain ⟨L, hh, B, h8, h9⟩ := h.ln
    obtain ⟨cs, hc⟩ := h8.typed
    exact h.gne hc
  obtain ⟨h1, h2, h3, h4, h5, h6, h7, _, ⟨m, D, h10, h11, h12⟩, h13⟩ := h
  refine ⟨hO.os.trans h1, hO.tape.trans h2, hO.output.trans h3, by rw [hO.size]; exact h4, fun k hk a b => (hO.block k a).trans (h5 k hk a b), h6, h7, ⟨L', hh', B', hr, hu⟩, ⟨m, D, h10, h11.kept (row := some gl) ⟨hO.os, hO.tape, hO.output, by rw [hO.size]; exact Nat.le_refl _, fun k _ hne => hO.block k (fun e => hne (by rw [e]))⟩ (fun e => hgm (by injection e with e; exact e.symm)), h12⟩, h13.blk (hO.block _ (fun e => ?_))⟩
  have := h13.hb
  omega
theorem FsI.upd (h : FsI W3 lo gl gm NN w cl Q xs n g off cap) (hg : w.grownBy w' (some gm)) {m : Nat} {D : DataW Unit} {Q' : List Ent} (hm : m ≤ Q'.length) (ho : w'.ownsMap Tryd.prog 67 stR gm m D) (hk : KnP D Q') : FsI W3 lo gl gm NN w' cl Q' xs n g off cap := by
  have hgl : gl ≠ gm := by
    obtain ⟨L, hh, B, h8, h9⟩ := h.ln
    obtain ⟨cs, hc⟩ := h8.typed
    exact h.gne hc
  obtain ⟨h1, h2, h3, h4, h5, h6, h7, ⟨L, hh, B, h8, h9⟩, _, h13⟩ := h
  refine ⟨hg.os.trans h1, hg.tape.trans h2, hg.output.trans h3, Nat.le_trans h4 hg.size, fun k hk a b => (hg.block k (by omega) (fun e => b (by injection e))).trans (h5 k hk a b), h6, h7, ⟨L, hh, B, h8.blk (hg.block _ h8.lt.1 (fun e => hgl (by injection e))), h9⟩, ⟨m, D, hm, ho, hk⟩, h13.blk (hg.block _ h13.lt (fun e => ?_))⟩
  have := h13.hb
  have e2 : g = gm := by injection e
  omega
theorem FsI.app (h : FsI W3 lo gl gm NN w cl Q xs n g off cap) (hg : w.grownBy w' (some g)) {xs' : List Value} {n' g' off' cap' : Nat} (hq : QRow w' W3.heap.size g' off' n' cap' xs') : FsI W3 lo gl gm NN w' cl Q xs' n' g' off' cap' := by
  obtain ⟨h1, h2, h3, h4, h5, h6, h7, ⟨L, hh, B, h8, h9⟩, ⟨m, D, h10, h11, h12⟩, h13⟩ := h
  have hgb := h13.hb
  refine ⟨hg.os.trans h1, hg.tape.trans h2, hg.output.trans h3, Nat.le_trans h4 hg.size, fun k hk a b => (hg.block k (by omega) (fun e => ?_)).trans (h5 k hk a b), h6, h7, ⟨L, hh, B, h8.blk (hg.block _ h8.lt.1 (fun e => ?_)), h9⟩, ⟨m, D, h10, h11.kept hg (fun e => ?_), h12⟩, hq⟩
  · have : k = g := by injection e
    omega
  · have : gl = g := by injection e
    omega
  · have : gm = g := by injection e
    omega
theorem FsI.cut (h : FsI W3 lo gl gm NN w cl Q xs n g off cap) {xs' : List Value} {n' off' cap' : Nat} (hq : QRow w W3.heap.size g off' n' cap' xs') : FsI W3 lo gl gm NN w cl Q xs' n' g off' cap' := ⟨h.os, h.tape, h.output, h.size, h.old, h.lgl, h.lgm, h.ln, h.mp, hq⟩
end
end Go.Proofs.YtleafbbcgebmpaaDoor
