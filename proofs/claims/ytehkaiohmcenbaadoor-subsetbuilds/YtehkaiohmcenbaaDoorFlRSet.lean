/-
  The document's maker reads one set: a place more.
-/
import Derived.Test.YtehkaiohmcenbaaDoorFlEdge
import Derived.Deep.AppendLies
namespace Go.Proofs.YtehkaiohmcenbaaDoor
open Go.RowKit Go.Shelf
set_option linter.unusedVariables false

/-- The maker with its row of lists named. -/
structure MkV (M base : Nat) (w : World) (sv fv : Value) (S : List Int) (vs : List Value) (R : Nat → Nat → Bool) : Prop where
  lo : base ≤ M
  box : w.heap[M]? = some (.cells #[sv, fv] 76 (0, 0))
  sets : w.ownsRow base 3 1 sv S.length (cellI S)
  fol : w.ownsRow base 27 1 fv vs.length vs
  lst : ∀ i, (h : i < vs.length) → ∃ l, LstO base w sv vs[i] l ∧ l.Pairwise (· < ·) ∧ (∀ x ∈ l, x < 1000) ∧ ∀ y, y ∈ l ↔ R (i + 1) y = true
theorem MkI.v {M base : Nat} {w : World} {sv fv : Value} {S : List Int} {R : Nat → Nat → Bool} (h : MkI M base w sv fv S R) : ∃ vs, vs.length = S.length ∧ MkV M base w sv fv S vs R := by
  obtain ⟨h1, h2, h3, vs, h4, h5, h6⟩ := h
  exact ⟨vs, h4, h1, h2, h3, by rw [h4]; exact h5, h6⟩
theorem MkV.i {M base : Nat} {w : World} {sv fv : Value} {S : List Int} {vs : List Value} {R : Nat → Nat → Bool} (h : MkV M base w sv fv S vs R) (e : vs.length = S.length) : MkI M base w sv fv S R := ⟨h.lo, h.box, h.sets, vs, e, by rw [← e]; exact h.fol, h.lst⟩
theorem MkV.below {M base : Nat} {w w' : World} {sv fv : Value} {S : List Int} {vs : List Value} {R : Nat → Nat → Bool} (h : MkV M base w sv fv S vs R) (hb : Below w.heap.size w w') : MkV M base w' sv fv S vs R :=
  ⟨h.lo, (hb.block _ (lt_of_heap h.box)).trans h.box, ownsRow_below h.sets hb, ownsRow_below h.fol hb, fun i hi => by
    obtain ⟨l, q1, q2⟩ := h.lst i hi
    exact ⟨l, q1.below hb, q2⟩⟩
theorem blk_ne {w : World} {a b : Nat} {cs cs' : Array Value} {t t' : TypeId} {fr fr' : Nat × Nat} (ha : w.heap[a]? = some (.cells cs t fr)) (hb : w.heap[b]? = some (.cells cs' t' fr')) (ht : t ≠ t') : a ≠ b := fun e => by
  subst e
  rw [ha] at hb
  injection hb with hb
  injection hb with _ hb _
  exact ht hb
theorem lstO_grown {base g cap n : Nat} {w w1 : World} {sv : Value} {v : Value} {l : List Nat} (h : LstO base w sv v l) (hg : w.grownBy w1 sv.ownBlock) (hat : sv.ownBlock = some g ∨ w.heap.size ≤ g) : LstO base w1 (.slice (some ⟨g, 0, none⟩) n cap) v l := by
  obtain ⟨⟨a, c, rfl, hc, hn, hx⟩, ho⟩ := h
  have key : ∀ (h0 : 0 < l.length), ∃ gv off cs fr, a = some ⟨gv, off, none⟩ ∧ base ≤ gv ∧ w.heap[gv]? = some (.cells cs 3 fr) ∧ (∀ i, (h : i < l.length) → cs[off + i]? = some (.int .i64 (l[i] : Int))) ∧ sv.ownBlock ≠ some gv := fun h0 => by
    obtain ⟨gv, off, cs, fr, rfl, h2, h3, h4⟩ := hx h0
    exact ⟨gv, off, cs, fr, rfl, h2, h3, h4, ho (fun e => by subst e; simp at h0) gv off _ _ rfl⟩
  refine ⟨⟨a, c, rfl, hc, hn, fun h0 => ?_⟩, fun h0 gv' off' n' c' e => ?_⟩
  · obtain ⟨gv, off, cs, fr, rfl, h2, h3, h4, h5⟩ := key h0
    exact ⟨gv, off, cs, fr, rfl, h2, (hg.block gv (lt_of_heap h3) (fun e => h5 e.symm)).trans h3, h4⟩
  · obtain ⟨gv, off, cs, fr, rfl, h2, h3, h4, h5⟩ := key (by cases l with | nil => exact absurd rfl h0 | cons x l => simp)
    obtain rfl : gv = gv' := by simp at e; exact e.1.1
    intro e2
    have e3 : g = gv := by injection e2
    have := lt_of_heap h3
    rcases hat with q | q
    · exact h5 (by rw [q, e3])
    · omega
section
variable {M base : Nat} {w w1 : World} {sv fv : Value} {S : List Int} {vs : List Value} {R : Nat → Nat → Bool} {g cap : Nat}
/-- A set more. -/
theorem MkV.push1 (h : MkV M base w sv fv S vs R) (s : Int) (hg : w.grownBy w1 sv.ownBlock) (ho : w1.ownsRow base 3 1 (.slice (some ⟨g, 0, none⟩) (S.length + 1) cap) (S.length + 1) (cellI S ++ [.int .i64 s])) (hat : sv.ownBlock = some g ∨ w.heap.size ≤ g) (hbw : base ≤ w.heap.size) :
    MkV M base (w1.setCell ⟨M, 0, none⟩ (.slice (some ⟨g, 0, none⟩) (S.length + 1) cap)) (.slice (some ⟨g, 0, none⟩) (S.length + 1) cap) fv (S ++ [s]) vs R ∧ FrM base w sv (w1.setCell ⟨M, 0, none⟩ (.slice (some ⟨g, 0, none⟩) (S.length + 1) cap)) (.slice (some ⟨g, 0, none⟩) (S.length + 1) cap) := by
  have hMg : ∀ k, sv.ownBlock = some k → M ≠ k := fun k hk => by
    obtain ⟨cs, hc⟩ := own_typed h.sets hk
    exact blk_ne h.box hc (by decide)
  have hM1 : w1.heap[M]? = some (.cells #[sv, fv] 76 (0, 0)) := (hg.block M (lt_of_heap h.box) (fun e => hMg M e.symm rfl)).trans h.box
  obtain ⟨cg, hcg⟩ := own_typed ho (k := g) rfl
  have hO : OnlyB M w1 (w1.setCell ⟨M, 0, none⟩ (.slice (some ⟨g, 0, none⟩) (S.length + 1) cap)) := (OnlyB.refl _ _).set _ _
  have hf1 : w1.ownsRow base 27 1 fv vs.length vs := own_blk h.fol (fun k hk => hg.block k (h.fol.lt k hk).2 (fun e => by
    obtain ⟨cs, hc⟩ := own_typed h.fol hk
    obtain ⟨cs', hc'⟩ := own_typed h.sets e.symm
    exact blk_ne hc hc' (by decide) rfl))
  have hl : ∀ v l, LstO base w sv v l → LstO base (w1.setCell ⟨M, 0, none⟩ (.slice (some ⟨g, 0, none⟩) (S.length + 1) cap)) (.slice (some ⟨g, 0, none⟩) (S.length + 1) cap) v l := fun v l q => by
    have := lstO_grown (n := S.length + 1) (cap := cap) q hg hat
    exact ⟨this.1.only hO hM1 (by decide), this.2⟩
  have ec : cellI S ++ [.int .i64 s] = cellI (S ++ [s]) := by simp [cellI]
  refine ⟨⟨h.lo, by have := heap_setN (i := 0) hM1 (.slice (some ⟨g, 0, none⟩) (S.length + 1) cap); simpa using this, ?_, own_blk hf1 (fun k hk => hO.block k (fun e => ?_)), fun i hi => ?_⟩, ?_⟩
  · rw [ec] at ho
    rw [List.length_append, List.length_singleton]
    exact own_blk ho (fun k hk => hO.block k (by
      obtain ⟨cs, hc⟩ := own_typed ho hk
      exact blk_ne hc hM1 (by decide)))
  · obtain ⟨cs, hc⟩ := own_typed hf1 hk
    exact blk_ne hc hM1 (by decide) e
  · obtain ⟨l, q1, q2⟩ := h.lst i hi
    exact ⟨l, hl _ _ q1, q2⟩
  · refine ⟨hO.os.trans hg.os, hO.tape.trans hg.tape, hO.output.trans hg.output, by rw [hO.size]; exact hg.size, fun k hk => (hO.block k (by have := h.lo; omega)).trans (hg.block k (by omega) (fun e => by have := (h.sets.lt k e.symm).1; omega)), fun k cs t fr hk ht => ?_, fun v l q => hl v l q⟩
    have h1 : some k ≠ sv.ownBlock := fun e => by
      obtain ⟨cs', hc'⟩ := own_typed h.sets e.symm
      rw [hk] at hc'
      injection hc' with hc'
      injection hc' with _ hc' _
      exact ht (.inl hc')
    refine (hO.block k (fun e => ?_)).trans (hg.block k (lt_of_heap hk) h1)
    subst e
    rw [h.box] at hk
    injection hk with hk
    injection hk with _ hk _
    exact ht (.inr (.inr hk.symm))
/-- A list more, an empty one. -/
theorem MkV.push2 {v' : Value} (h : MkV M base w sv fv S vs R) (hg : w.grownBy w1 fv.ownBlock) (ho : w1.ownsRow base 27 1 v' (vs.length + 1) (vs ++ [.slice none 0 0])) (hR : ∀ y, R (vs.length + 1) y = false) (hbw : base ≤ w.heap.size) :
    MkV M base (w1.setCell ⟨M, 1, none⟩ v') sv v' S (vs ++ [.slice none 0 0]) R ∧ FrM base w sv (w1.setCell ⟨M, 1, none⟩ v') sv := by
  have hM1 : w1.heap[M]? = some (.cells #[sv, fv] 76 (0, 0)) := (hg.block M (lt_of_heap h.box) (fun e => by
    obtain ⟨cs, hc⟩ := own_typed h.fol e.symm
    exact blk_ne h.box hc (by decide) rfl)).trans h.box
  have hO : OnlyB M w1 (w1.setCell ⟨M, 1, none⟩ v') := (OnlyB.refl _ _).set _ _
  have hi1 : ∀ (k : Nat) (cs : Array Value) (fr : Nat × Nat), w.heap[k]? = some (.cells cs 3 fr) → w1.heap[k]? = w.heap[k]? := fun k cs fr hk => hg.block k (lt_of_heap hk) (fun e => by
    obtain ⟨cs', hc'⟩ := own_typed h.fol e.symm
    exact blk_ne hk hc' (by decide) rfl)
  have hl : ∀ v l, LstO base w sv v l → LstO base (w1.setCell ⟨M, 1, none⟩ v') sv v l := fun v l q => ⟨(q.1.to (fun k cs fr _ hk => hi1 k cs fr hk)).only hO hM1 (by decide), q.2⟩
  have hs1 : w1.ownsRow base 3 1 sv S.length (cellI S) := own_blk h.sets (fun k hk => by
    obtain ⟨cs, hc⟩ := own_typed h.sets hk
    exact hi1 k _ _ hc)
  refine ⟨⟨h.lo, by have := heap_setN (i := 1) hM1 v'; simpa using this, own_blk hs1 (fun k hk => hO.block k ?_), ?_, fun i hi => ?_⟩, ?_⟩
  · obtain ⟨cs, hc⟩ := own_typed hs1 hk
    exact blk_ne hc hM1 (by decide)
  · rw [List.length_append, List.length_singleton]
    exact own_blk ho (fun k hk => hO.block k (by
      obtain ⟨cs, hc⟩ := own_typed ho hk
      exact blk_ne hc hM1 (by decide)))
  · by_cases hiv : i < vs.length
    · obtain ⟨l, q1, q2⟩ := h.lst i hiv
      rw [List.getElem_append_left hiv]
      exact ⟨l, hl _ _ q1, q2⟩
    · have hie : i = vs.length := by simp at hi; omega
      subst hie
      rw [List.getElem_append_right (Nat.le_refl _)]
      refine ⟨[], by simpa using LstO.nil _ _ _, by simp, fun x hx => (by cases hx), fun y => ?_⟩
      rw [hR y]; simp
  · refine ⟨hO.os.trans hg.os, hO.tape.trans hg.tape, hO.output.trans hg.output, by rw [hO.size]; exact hg.size, fun k hk => (hO.block k (by have := h.lo; omega)).trans (hg.block k (by omega) (fun e => by have := (h.fol.lt k e.symm).1; omega)), fun k cs t fr hk ht => ?_, fun v l q => hl v l q⟩
    have h1 : some k ≠ fv.ownBlock := fun e => by
      obtain ⟨cs', hc'⟩ := own_typed h.fol e.symm
      rw [hk] at hc'
      injection hc' with hc'
      injection hc' with _ hc' _
      exact ht (.inr (.inl hc'))
    refine (hO.block k (fun e => ?_)).trans (hg.block k (lt_of_heap hk) h1)
    subst e
    rw [h.box] at hk
    injection hk with hk
    injection hk with _ hk _
    exact ht (.inr (.inr hk.symm))
end
theorem Tryd.infoLst : (Tryd.prog.info? 27).map (fun i => (i.zero, i.size, i.bytes)) = some (some (.slice none 0 0), 1, 24) := by kernel_rfl
theorem grown_of {w W w1 : World} {row : Option Nat} (h : Below w.heap.size w W) (g : W.grownBy w1 row) : w.grownBy w1 row :=
  ⟨g.os.trans h.os, g.tape.trans h.tape, g.output.trans h.output, Nat.le_trans h.size g.size, fun k hk hne => (g.block k (Nat.lt_of_lt_of_le hk h.size) hne).trans (h.block k hk)⟩

set_option maxRecDepth 100000 in
set_option maxHeartbeats 16000000 in
theorem rnode_set {M base : Nat} (s : Int) (za : Option Addr) (zl ca : Nat) (w : World) (sv fv : Value) (S : List Int) (L : List (List Nat × List Nat)) (hI : MkI M base w sv fv S (fol L)) (hbw : base ≤ w.heap.size) (hN : NtO S.length L) (hm : S.length + 1 ≤ 400) :
    Calls Tryd.prog 46 #[.pointer (some ⟨M, 0, none⟩), .agg #[.int .i64 1, .int .i64 s, .slice za zl ca]] w (EdgA M base w sv S L [s] (setP S.length)) := by
  obtain ⟨i0, hi0, hz0, hz1, hz2⟩ := info_parts Tryd.infoInt
  obtain ⟨iL, hiL, hzL0, hzL1, hzL2⟩ := info_parts Tryd.infoLst
  obtain ⟨W0, hW0⟩ : ∃ W, W = (w.alloc (.cells #[.int .i64 1, .int .i64 s, .slice za zl ca] 24)).alloc (.cells #[.bool false, .slice none 0 0, .slice none 0 0] 78) := ⟨_, rfl⟩
  obtain ⟨hE0, hE1, hB0, hs0⟩ := alloc2 hW0
  obtain ⟨vs, hvl, hV⟩ := hI.v
  obtain ⟨sa, sc, fa, fc, rfl, rfl⟩ := hI.fr
  obtain ⟨n, hn⟩ : ∃ n, n = S.length := ⟨_, rfl⟩
  have HN : Hid (n = S.length ∧ vs.length = n) := ⟨hn, by omega⟩
  have HV0 : Hid (MkV M base W0 (.slice sa n sc) (.slice fa n fc) S vs (fol L)) := by rw [hn]; exact hV.below hB0
  have HF0 : Hid (FrM base w (.slice sa n sc) W0 (.slice sa n sc)) := FrM.of _ hB0 hbw
  have HNT : Hid (NtO n L) := by rw [hn]; exact hN
  have HE0 : Hid (W0.heap[w.heap.size + 1]? = some (.cells #[.bool false, .slice none 0 0, .slice none 0 0] 78 (0, 0))) := hE1
  have HNB : Hid (W0.heap[w.heap.size]? = some (.cells #[.int .i64 1, .int .i64 s, .slice za zl ca] 24 (0, 0))) := hE0
  rw [← hn] at hm ⊢
  have HW0 : Hid (W0 = _) := hW0
  have m0 : W0.cell? ⟨M, 0, none⟩ = some (.slice sa n sc) := cell_in HV0.out.box 0
  have mf : W0.frozen? ⟨M, 0, none⟩ = false := by have := HV0.out.box; simp [World.frozen?, this]
  have n1 : W0.cell? ⟨w.heap.size, 1, none⟩ = some (.int .i64 s) := cell_in hE0 1
  have hMl : M < W0.heap.size := lt_of_heap HV0.out.box
  have HWS : Hid (W0.heap.size = w.heap.size + 2) := hs0
  have hwl : w.heap.size + 1 < W0.heap.size := by omega
  have HO0 : Hid (W0.ownsRow base 3 1 (.slice sa n sc) n (cellI S)) := by
    have := HV0.out.sets
    rw [← hn] at this
    exact this
  have HP1 : Hid (∀ w1 g cap, w1.ownsRow base 3 1 (.slice (some ⟨g, 0, none⟩) (n + 1) cap) (n + 1) (cellI S ++ [.int .i64 s]) → (W0.drew.alloc (.cells #[.int .i64 s] 3)).grownBy w1 (Value.slice sa n sc).ownBlock → ((Value.slice sa n sc).ownBlock = some g ∨ g = (W0.drew.alloc (.cells #[.int .i64 s] 3)).heap.size) → (w1.cell? ⟨M, 0, none⟩ = some (.slice sa n sc) ∧ w1.frozen? ⟨M, 0, none⟩ = false) ∧ MkV M base (w1.setCell ⟨M, 0, none⟩ (.slice (some ⟨g, 0, none⟩) (n + 1) cap)) (.slice (some ⟨g, 0, none⟩) (n + 1) cap) (.slice fa n fc) (S ++ [s]) vs (fol L) ∧ FrM base W0 (.slice sa n sc) (w1.setCell ⟨M, 0, none⟩ (.slice (some ⟨g, 0, none⟩) (n + 1) cap)) (.slice (some ⟨g, 0, none⟩) (n + 1) cap)) := fun w1 g cap ho hg hat => by
    have hb : Below W0.heap.size W0 (W0.drew.alloc (.cells #[.int .i64 s] 3)) := ((Below.refl _ _).drew).alloc (Nat.le_refl _) _
    have hg' := grown_of hb hg
    have hM : M ≠ (Value.slice sa n sc).ownBlock.getD M ∨ (Value.slice sa n sc).ownBlock ≠ some M := .inr (fun e => by
      obtain ⟨cs, hc⟩ := own_typed HV0.out.sets e
      exact blk_ne HV0.out.box hc (by decide) rfl)
    have hMb : w1.heap[M]? = some (.cells #[.slice sa n sc, .slice fa n fc] 76 (0, 0)) := (hg'.block M hMl (fun e => by
      obtain ⟨cs, hc⟩ := own_typed HV0.out.sets e.symm
      exact blk_ne HV0.out.box hc (by decide) rfl)).trans HV0.out.box
    rw [hn] at ho
    have := HV0.out.push1 s (g := g) (cap := cap) hg' ho (hat.imp id (fun e => by have := hb.size; omega)) (by have := hbw; omega)
    rw [← hn] at this
    exact ⟨⟨cell_in hMb 0, by simp [World.frozen?, hMb]⟩, this⟩
  clear hE0 hE1 hB0 hW0 hI hvl hV hn hN hs0
  go_enter Tryd.func46, Tryd.ntmps46
  go_wp2
  rw [← HW0.out]
  go_region_law (refine step_append_lies _ (by rfl) (.tmp 18) (.tmp 21) 27 (by rfl) base 3 i0 (.int .i64 0) 1 8 Tryd.underlying27 hi0 hz0 hz1 hz2 rfl (by decide) (.slice sa n sc) n (cellI S) (by rfl) (by exact (HO0.out.drew.alloc _)) ⟨W0.heap.size, 0, none⟩ 1 1 [.int .i64 s] (by rfl) rfl (by exact World.news_of_block (heap_new' _ _)) (by simp [Value.oneCell']) (by omega) (by unfold maxLen; omega) (by omega) (by simp; omega) _ rfl ?_; intro g cap w1 hown hgrow hat hlt; obtain ⟨⟨x0, x1⟩, x2, x3⟩ := HP1.out w1 g cap hown hgrow hat)
  all_goals (
    obtain ⟨w2, hw2⟩ : ∃ W, W = w1.setCell ⟨M, 0, none⟩ (.slice (some ⟨g, 0, none⟩) (n + 1) cap) := ⟨_, rfl⟩
    rw [← hw2] at x2 x3
    have HV2 : Hid (MkV M base w2 (.slice (some ⟨g, 0, none⟩) (n + 1) cap) (.slice fa n fc) (S ++ [s]) vs (fol L)) := x2
    have HF2 : Hid (FrM base W0 (.slice sa n sc) w2 (.slice (some ⟨g, 0, none⟩) (n + 1) cap)) := x3
    have HW2 : Hid (w2 = w1.setCell ⟨M, 0, none⟩ (.slice (some ⟨g, 0, none⟩) (n + 1) cap)) := hw2
    have y1 : w2.cell? ⟨M, 1, none⟩ = some (.slice fa n fc) := cell_in HV2.out.box 1
    have hMl2 : M < w2.heap.size := lt_of_heap HV2.out.box
    have HO2 : Hid (w2.ownsRow base 27 1 (.slice fa n fc) n vs) := by
      have := HV2.out.fol
      rw [HN.out.2] at this
      exact this
    have HP2 : Hid (∀ w3 v', w3.ownsRow base 27 1 v' (n + 1) (vs ++ [.slice none 0 0]) → (w2.alloc (.cells #[.slice none 0 0] 27)).grownBy w3 (Value.slice fa n fc).ownBlock → (w3.cell? ⟨M, 1, none⟩ = some (.slice fa n fc) ∧ w3.frozen? ⟨M, 1, none⟩ = false) ∧ MkI M base (w3.setCell ⟨M, 1, none⟩ v') (.slice (some ⟨g, 0, none⟩) (n + 1) cap) v' (S ++ [s]) (fol L) ∧ FrM base W0 (.slice sa n sc) (w3.setCell ⟨M, 1, none⟩ v') (.slice (some ⟨g, 0, none⟩) (n + 1) cap)) := fun w3 v' ho hg => by
      have hg' := grown_of (below_alloc w2 _) hg
      have hMb : w3.heap[M]? = some (.cells #[.slice (some ⟨g, 0, none⟩) (n + 1) cap, .slice fa n fc] 76 (0, 0)) := (hg'.block M hMl2 (fun e => by
        obtain ⟨cs, hc⟩ := own_typed HV2.out.fol e.symm
        exact blk_ne HV2.out.box hc (by decide) rfl)).trans HV2.out.box
      rw [← HN.out.2] at ho
      obtain ⟨r1, r2⟩ := HV2.out.push2 hg' ho (fun y => by
        rw [HN.out.2]
        cases hf : fol L (n + 1) y with
        | false => rfl
        | true =>
          obtain ⟨x, hx, h1, h2⟩ := fol_iff.1 hf
          have := (HNT.out x hx).1.2 _ h1
          omega) (by have := HF2.out.size; have := hbw; omega)
      exact ⟨⟨cell_in hMb 1, by simp [World.frozen?, hMb]⟩, r1.i (by have h1 := HN.out.1; have h2 := HN.out.2; simp; omega), HF2.out.trans r2⟩
    have hbw2 : base ≤ w2.heap.size := (by have := HF2.out.size; have := hbw; omega)
    clear hown hgrow hat x2 x3 hw2 m0 mf n1
    go_upto_region 4 with fail
    rw [← HW2.out]
    clear HW2
    go_upto_region 5 with (at_builtin; go_must (refine wpList_append_own _ rfl _ _ 28 rfl base 27 iL (.slice none 0 0) 1 24 Tryd.underlying28 hiL hzL0 hzL1 hzL2 rfl (by decide) _ _ _ rfl (HO2.out.alloc _) ⟨w2.heap.size, 0, none⟩ 1 1 [.slice none 0 0] rfl rfl (World.news_of_block (by exact heap_new' _ _)) (by simp [Value.oneCell']) (by unfold maxLen; omega) (by omega) (by simp; omega) ?_); intro v3 w3 ho3 hg3 _; obtain ⟨⟨z0, z1⟩, z2, z3⟩ := HP2.out w3 v3 ho3 hg3; obtain ⟨ta, tn, tc, rfl⟩ : ∃ a n c, v3 = .slice a n c := (by rcases ho3.2 with ⟨e, _⟩ | ⟨_, _, _, e, _⟩ <;> exact ⟨_, _, _, e⟩))
    obtain ⟨W4, hW4⟩ : ∃ W, W = w3.setCell ⟨M, 1, none⟩ (.slice ta tn tc) := ⟨_, rfl⟩
    have HI4 : Hid (MkI M base W4 (.slice (some ⟨g, 0, none⟩) (n + 1) cap) (.slice ta tn tc) (S ++ [s]) (fol L)) := (by rw [hW4]; exact z2)
    have HF4 : Hid (FrM base w (.slice sa n sc) W4 (.slice (some ⟨g, 0, none⟩) (n + 1) cap)) := HF0.out.trans (by rw [hW4]; exact z3)
    have hEB : EBox W4 (w.heap.size + 1) false (.slice none 0 0) (.slice none 0 0) := ((by rw [hW4]; exact z3 : FrM base W0 (.slice sa n sc) W4 (.slice (some ⟨g, 0, none⟩) (n + 1) cap)).typ _ _ _ _ HE0.out edge_not).trans HE0.out
    have HEB : Hid (EBox W4 (w.heap.size + 1) false (.slice none 0 0) (.slice none 0 0)) := hEB
    have hlt4 : w.heap.size + 1 < W4.heap.size := hEB.lt
    clear ho3 hg3 z2 z3 hEB y1
    rw [← hW4]
    have d0 : W4.cell? ⟨M, 0, none⟩ = some (.slice (some ⟨g, 0, none⟩) (n + 1) cap) := HI4.out.c0
    clear z0 z1 hW4
    obtain ⟨WL, hWL⟩ : ∃ W, W = ((W4.alloc (.cells #[.int .i64 ((n : Int) + 1)] 3)).alloc (.cells #[.int .i64 ((n : Int) + 1)] 3)) := ⟨_, rfl⟩
    obtain ⟨k0, k1, hBL, hsL⟩ := alloc2 hWL
    have hEL := HEB.out.below hBL
    obtain ⟨WS, hWS⟩ : ∃ W, W = ((WL.setCell ⟨w.heap.size + 1, 0, none⟩ (.bool false)).setCell ⟨w.heap.size + 1, 1, none⟩ (.slice (some ⟨W4.heap.size, 0, none⟩) 1 1)).setCell ⟨w.heap.size + 1, 2, none⟩ (.slice (some ⟨W4.heap.size + 1, 0, none⟩) 1 1) := ⟨_, rfl⟩
    have hOS : OnlyB (w.heap.size + 1) WL WS := (by rw [hWS]; exact (((OnlyB.refl _ _).set _ _).set _ _).set _ _)
    have HES : Hid (EBox WS (w.heap.size + 1) false (.slice (some ⟨W4.heap.size, 0, none⟩) 1 1) (.slice (some ⟨W4.heap.size + 1, 0, none⟩) 1 1)) := (by rw [hWS]; exact ((hEL.s0 _).s1 _).s2 _)
    have hbL : base ≤ W4.heap.size := (by have := HF4.out.size; have := hbw; omega)
    have one : ∀ b, W4.heap.size ≤ b → WL.heap[b]? = some (.cells #[.int .i64 ((n : Int) + 1)] 3 (0, 0)) → LstO base WL (.slice (some ⟨g, 0, none⟩) (n + 1) cap) (.slice (some ⟨b, 0, none⟩) 1 1) [n + 1] := fun b hb hc => ⟨⟨_, 1, rfl, Nat.le_refl _, fun e => (by cases e), fun _ => ⟨b, 0, _, _, rfl, by omega, hc, fun i hi => by
      have h0 : i = 0 := by simpa using hi
      subst h0; rfl⟩⟩, fun _ b' off' n' c' e => by
      obtain rfl : b = b' := by simp at e; exact e.1.1
      intro e2
      have := (HI4.out.sets.lt _ e2).2
      omega⟩
    have HL1 : Hid (LstO base WS (.slice (some ⟨g, 0, none⟩) (n + 1) cap) (.slice (some ⟨W4.heap.size, 0, none⟩) 1 1) [n + 1]) := (one _ (Nat.le_refl _) k0).only hOS hEL
    have HL2 : Hid (LstO base WS (.slice (some ⟨g, 0, none⟩) (n + 1) cap) (.slice (some ⟨W4.heap.size + 1, 0, none⟩) 1 1) [n + 1]) := (one _ (by omega) k1).only hOS hEL
    have HFL : Hid (FrM base w (.slice sa n sc) WS (.slice (some ⟨g, 0, none⟩) (n + 1) cap)) := (HF4.out.trans (FrM.of _ hBL (by omega))).only hOS (by omega) hbw hEL (by decide)
    have HIL : Hid (MkI M base WS (.slice (some ⟨g, 0, none⟩) (n + 1) cap) (.slice ta tn tc) (S ++ [s]) (fol L)) := (HI4.out.below hBL).only hOS hEL edge_not
    have e0 : WL.cell? ⟨w.heap.size + 1, 0, none⟩ = some (.bool false) := hEL.c0
    have e1 : WL.cell? ⟨w.heap.size + 1, 1, none⟩ = some (.slice none 0 0) := hEL.c1
    have e2 : WL.cell? ⟨w.heap.size + 1, 2, none⟩ = some (.slice none 0 0) := hEL.c2
    have f0 : WL.frozen? ⟨w.heap.size + 1, 0, none⟩ = false := hEL.nf 0
    have f1 : WL.frozen? ⟨w.heap.size + 1, 1, none⟩ = false := hEL.nf 1
    have f2 : WL.frozen? ⟨w.heap.size + 1, 2, none⟩ = false := hEL.nf 2
    have HWS : Hid (WS = _) := hWS
    rw [hWL] at e0 e1 e2 f0 f1 f2 HWS
    clear k0 k1 hBL hsL one hOS hWL hWS hEL
    go_wp2
    rw [← HWS.out]
    refine bodyPost_ret (results_cell_row rfl _ _ (w.heap.size + 1) 78 #[.bool false, .slice (some ⟨W4.heap.size, 0, none⟩) 1 1, .slice (some ⟨W4.heap.size + 1, 0, none⟩) 1 1] (0, 0) _ rfl ?_ Tryd.underlying78 rfl (by kernel_rfl)) rfl ?_
    · exact HES.out
    · have e : L ++ (setP n).notes = L := List.append_nil _
      have hI5 : MkI M base WS (.slice (some ⟨g, 0, none⟩) (n + 1) cap) (.slice ta tn tc) (S ++ [s]) (fol (L ++ (setP n).notes)) := (by rw [e]; exact HIL.out)
      exact ⟨_, _, _, _, rfl, hI5, HFL.out, HL1.out, HL2.out⟩)
end Go.Proofs.YtehkaiohmcenbaaDoor
