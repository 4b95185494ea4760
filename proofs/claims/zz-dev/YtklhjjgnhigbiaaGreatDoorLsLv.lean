/-
  least.parting.leave: a group leaves its part.
-/
import Derived.Test.YtklhjjgnhigbiaaGreatDoorLsPrt
namespace Go.Proofs.YtklhjjgnhigbiaaGreatDoor
open Go.RowKit Go.Shelf
set_option linter.unusedVariables false

theorem Tryz.infoRow13 : (Tryz.prog.info? 26).map (fun i => (i.zero, i.size, i.bytes)) = some (some (.slice none 0 0), 1, 24) := by kernel_rfl
/-- What a group's leaving leaves alone. -/
structure LvF (PB gp : Nat) (mv : Value) (rows : List Value) (w w' : World) : Prop where
  os : w'.os = w.os
  tape : w'.tape = w.tape
  output : w'.output = w.output
  size : w.heap.size ≤ w'.heap.size
  block : ∀ k, k < w.heap.size → k ≠ gp → k ≠ PB → mv.ownBlock ≠ some k → (∀ u ∈ rows, u.ownBlock ≠ some k) → w'.heap[k]? = w.heap[k]?
theorem LvF.of {PB gp : Nat} {mv : Value} {rows : List Value} {w w' : World} (h : Below w.heap.size w w') : LvF PB gp mv rows w w' := ⟨h.os, h.tape, h.output, h.size, fun k hk _ _ _ _ => h.block k hk⟩
/-- What a group's leaving leaves. -/
def LvA (PB gp n base gw : Nat) (iv mv gv : Value) (rows : List Value) (P' : Prt13) (w w' : World) : Prop := ∃ mv' rows', PStr w' PB gp n mv' iv gw ∧ RowN w' base gp n P'.p ∧ MbI w' base mv' rows' P'.B ∧ (∀ u ∈ rows', ∀ k, u.ownBlock = some k → (∃ u' ∈ rows, u'.ownBlock = some k) ∨ gv.ownBlock = some k) ∧ (∀ k, mv'.ownBlock = some k → mv.ownBlock = some k ∨ w.heap.size ≤ k) ∧ LvF PB gp mv rows w w'
theorem PStr.below {w w' : World} {PB gp n : Nat} {mv iv : Value} {gw : Nat} (h : PStr w PB gp n mv iv gw) (hb : Below w.heap.size w w') : PStr w' PB gp n mv iv gw := (hb.block _ (lt_of_heap h)).trans h
theorem LvA.same {PB gp n base gw : Nat} {iv mv gv : Value} {rows : List Value} {P : Prt13} {w w' : World} (hs : PStr w PB gp n mv iv gw) (hp : RowN w base gp n P.p) (hm : MbI w base mv rows P.B) (hb : Below w.heap.size w w') : LvA PB gp n base gw iv mv gv rows P w w' :=
  ⟨mv, rows, hs.below hb, hp.below hb, hm.below hb, fun u hu k e => .inl ⟨u, hu, e⟩, fun k e => .inl e, LvF.of hb⟩

theorem lv1_ent : ∀ args w, (callFunc 71 args).run Tryz.prog w = .ok (.enter 71 args) w := enters_of Tryz.func71 (by kernel_rfl) rfl
/-- As MbI, one row aside. -/
structure MbX (w : World) (base : Nat) (mv : Value) (rows : List Value) (B : List (List Nat)) (old : Nat) : Prop where
  arr : w.ownsRow base 26 1 mv B.length rows
  row : ∀ i, (h1 : i < rows.length) → (h2 : i < B.length) → i ≠ old → w.ownsRow base 3 1 rows[i] B[i].length (cellP B[i])
  inj : ∀ i j, (hi : i < rows.length) → (hj : j < rows.length) → ∀ k, rows[i].ownBlock = some k → rows[j].ownBlock = some k → i = j
theorem MbX.to {w w' : World} {base : Nat} {mv : Value} {rows : List Value} {B : List (List Nat)} {old : Nat} (h : MbX w base mv rows B old) (h1 : ∀ k, mv.ownBlock = some k → w'.heap[k]? = w.heap[k]?) (h2 : ∀ i, (h : i < rows.length) → i ≠ old → ∀ k, rows[i].ownBlock = some k → w'.heap[k]? = w.heap[k]?) : MbX w' base mv rows B old :=
  ⟨own_blk h.arr h1, fun i a b c => own_blk (h.row i a b c) (h2 i a c), h.inj⟩
/-- A row is put aside, and one more is there. -/
theorem MbX.fin {w w' : World} {base GM mc : Nat} {rows : List Value} {B : List (List Nat)} {old : Nat} (h : MbX w base (.slice (some ⟨GM, 0, none⟩) B.length mc) rows B old) (ho : old < B.length) {va vb : Value} {la lb : List Nat} (ha : w.ownsRow base 3 1 va la.length (cellP la)) (hb : w.ownsRow base 3 1 vb lb.length (cellP lb))
    (h1 : ∀ i, (q : i < rows.length) → i ≠ old → ∀ k, rows[i].ownBlock = some k → va.ownBlock ≠ some k ∧ vb.ownBlock ≠ some k) (h2 : ∀ k, va.ownBlock = some k → vb.ownBlock ≠ some k) (hg : ∀ k, k < w.heap.size → k ≠ GM → w'.heap[k]? = w.heap[k]?) {mv' : Value} (hm : w'.ownsRow base 26 1 mv' (B.length + 1) (rows.set old va ++ [vb])) : MbI w' base mv' (rows.set old va ++ [vb]) (B.set old la ++ [lb]) := by
  have hrl : rows.length = B.length := by have := h.arr.1; omega
  obtain ⟨cM, hcM⟩ := own_typed h.arr (k := GM) rfl
  have keep : ∀ {v : Value} {n : Nat} {xs : List Value}, w.ownsRow base 3 1 v n xs → w'.ownsRow base 3 1 v n xs := fun {v n xs} hv => own_blk hv (fun k e => hg k (hv.lt k e).2 (fun e2 => by
    subst e2
    obtain ⟨c2, hc2⟩ := own_typed hv e
    exact absurd (typ_ne hcM hc2) (by decide)))
  refine ⟨by rw [List.length_append, List.length_set]; exact hm, fun i a b => ?_, fun i j hi hj k ei ej => ?_⟩
  · by_cases q : i < rows.length
    · have q2 : i < B.length := by omega
      by_cases e : i = old
      · subst e
        have e1 : (rows.set i va ++ [vb])[i] = va := by rw [List.getElem_append_left (by simpa using q)]; simp
        have e2 : (B.set i la ++ [lb])[i] = la := by rw [List.getElem_append_left (by simpa using q2)]; simp
        rw [e1, e2]
        exact keep ha
      · have e' : ¬ old = i := fun x => e x.symm
        have e1 : (rows.set old va ++ [vb])[i] = rows[i] := by rw [List.getElem_append_left (by simpa using q)]; simp [e']
        have e2 : (B.set old la ++ [lb])[i] = B[i] := by rw [List.getElem_append_left (by simpa using q2)]; simp [e']
        rw [e1, e2]
        exact keep (h.row i q q2 e)
    · have e : i = rows.length := by simp at a; omega
      subst e
      have e1 : (rows.set old va ++ [vb])[rows.length] = vb := by rw [List.getElem_append_right (by simp)]; simp
      have e2 : (B.set old la ++ [lb])[rows.length] = lb := by rw [List.getElem_append_right (by simp; omega)]; simp [hrl]
      rw [e1, e2]
      exact keep hb
  · have val : ∀ i, (a : i < (rows.set old va ++ [vb]).length) → (i = old ∧ (rows.set old va ++ [vb])[i] = va) ∨ (i = rows.length ∧ (rows.set old va ++ [vb])[i] = vb) ∨ (i ≠ old ∧ ∃ q : i < rows.length, (rows.set old va ++ [vb])[i] = rows[i]) := fun i a => by
      by_cases q : i < rows.length
      · by_cases e : i = old
        · subst e
          exact .inl ⟨rfl, by rw [List.getElem_append_left (by simpa using q)]; simp⟩
        · have e' : ¬ old = i := fun x => e x.symm
          exact .inr (.inr ⟨e, q, by rw [List.getElem_append_left (by simpa using q)]; simp [e']⟩)
      · have e : i = rows.length := by simp at a; omega
        subst e
        exact .inr (.inl ⟨rfl, by rw [List.getElem_append_right (by simp)]; simp⟩)
    rcases val i hi with ⟨p1, p2⟩ | ⟨p1, p2⟩ | ⟨p1, p3, p2⟩ <;> rcases val j hj with ⟨q1, q2⟩ | ⟨q1, q2⟩ | ⟨q1, q3, q2⟩ <;> rw [p2] at ei <;> rw [q2] at ej
    · rw [p1, q1]
    · exact absurd ej (h2 k ei)
    · exact absurd ei (h1 j q3 q1 k ej).1
    · exact absurd ei (h2 k ej)
    · rw [p1, q1]
    · exact absurd ei (h1 j q3 q1 k ej).2
    · exact absurd ej (h1 i p3 p1 k ei).1
    · exact absurd ej (h1 i p3 p1 k ei).2
    · exact h.inj i j p3 q3 k ei ej

/-- Behind the last append. -/
theorem lv_fin {PB gp n base gw GM mc : Nat} {iv gv : Value} {rows : List Value} {P : Prt13} {old : Nat} {va vb : Value} {la lb : List Nat} {p' : Nat → Nat} {w w6 W W' w8 : World} {g' cap' : Nat}
    (hPS : PStr w6 PB gp n (.slice (some ⟨GM, 0, none⟩) P.B.length mc) iv gw) (hR : RowN w6 base gp n p') (hX : MbX w6 base (.slice (some ⟨GM, 0, none⟩) P.B.length mc) rows P.B old) (ho : old < P.B.length)
    (ha : w6.ownsRow base 3 1 va la.length (cellP la)) (hb : w6.ownsRow base 3 1 vb lb.length (cellP lb))
    (h1 : ∀ i, (q : i < rows.length) → i ≠ old → ∀ k, rows[i].ownBlock = some k → va.ownBlock ≠ some k ∧ vb.ownBlock ≠ some k) (h2 : ∀ k, va.ownBlock = some k → vb.ownBlock ≠ some k)
    (h3 : ∀ k, va.ownBlock = some k ∨ vb.ownBlock = some k → (∃ u' ∈ rows, u'.ownBlock = some k) ∨ gv.ownBlock = some k)
    (hF : LvF PB gp (.slice (some ⟨GM, 0, none⟩) P.B.length mc) rows w w6) (hty : PB ≠ gp ∧ GM ≠ gp ∧ GM ≠ PB)
    (hW : W = w6.setCell ⟨GM, old, none⟩ va) (hW' : Below W.heap.size W W') (hg : W'.grownBy w8 (some GM)) (hm : w8.ownsRow base 26 1 (.slice (some ⟨g', 0, none⟩) (P.B.length + 1) cap') (P.B.length + 1) (rows.set old va ++ [vb])) (hat : g' = GM ∨ w.heap.size ≤ g') :
    (w8.cell? ⟨PB, 1, none⟩ = some (.slice (some ⟨GM, 0, none⟩) P.B.length mc) ∧ w8.frozen? ⟨PB, 1, none⟩ = false ∧ PB < w8.heap.size) ∧ LvA PB gp n base gw iv (.slice (some ⟨GM, 0, none⟩) P.B.length mc) gv rows ⟨p', P.B.set old la ++ [lb]⟩ w (w8.setCell ⟨PB, 1, none⟩ (.slice (some ⟨g', 0, none⟩) (P.B.length + 1) cap')) := by
  have hO : OnlyB GM w6 W := by rw [hW]; exact (OnlyB.refl _ _).set _ _
  have keep : ∀ k, k < w6.heap.size → k ≠ GM → w8.heap[k]? = w6.heap[k]? := fun k a b => (hg.block k (by have := hW'.size; have := hO.size; omega) (fun e => b (by injection e))).trans ((hW'.block k (by have := hO.size; omega)).trans (hO.block k b))
  have hP8 : w8.heap[PB]? = some (.cells #[.slice (some ⟨gp, 0, none⟩) n n, .slice (some ⟨GM, 0, none⟩) P.B.length mc, iv, .slice (some ⟨gw, 0, none⟩) n n] 97 (0, 0)) := (keep PB (lt_of_heap hPS) (Ne.symm hty.2.2)).trans hPS
  have hR8 : RowN w8 base gp n p' := hR.blk (keep gp hR.lt.1 (Ne.symm hty.2.1))
  have hM8 := hX.fin ho ha hb h1 h2 keep hm
  have hO9 : OnlyB PB w8 (w8.setCell ⟨PB, 1, none⟩ (.slice (some ⟨g', 0, none⟩) (P.B.length + 1) cap')) := (OnlyB.refl _ _).set _ _
  have hne : ∀ {u : Value} {e : TypeId} {nn : Nat} {xs : List Value} {k : Nat}, w8.ownsRow base e 1 u nn xs → e ≠ 97 → u.ownBlock = some k → k ≠ PB := fun {u e nn xs k} hu he ek q => by
    obtain ⟨c, hc⟩ := own_typed hu ek
    rw [q] at hc
    exact he (typ_ne hc hP8)
  refine ⟨⟨cell_in hP8 1, by simp [World.frozen?, hP8], lt_of_heap hP8⟩, ?_⟩
  have h9 := heap_setN (i := 1) hP8 (.slice (some ⟨g', 0, none⟩) (P.B.length + 1) cap')
  refine ⟨.slice (some ⟨g', 0, none⟩) (P.B.length + 1) cap', rows.set old va ++ [vb], ?_, hR8.blk (hO9.block gp (Ne.symm hty.1)), hM8.to (fun k e => hO9.block k (hne hm (by decide) e)) (fun u hu k e => ?_), fun u hu k e => ?_, fun k e => ?_, ⟨?_, ?_, ?_, ?_, fun k a b c d e => ?_⟩⟩
  · unfold PStr
    rw [h9]
    simp
  · obtain ⟨i, hi, rfl⟩ := List.mem_iff_getElem.1 hu
    exact hO9.block k (hne (hM8.row i hi (by rw [← hM8.len]; exact hi)) (by decide) e)
  · rcases List.mem_append.1 hu with q | q
    · rcases List.mem_or_eq_of_mem_set q with r | r
      · exact .inl ⟨u, r, e⟩
      · rw [r] at e
        exact h3 k (.inl e)
    · rw [List.mem_singleton.1 q] at e
      exact h3 k (.inr e)
  · have e2 : g' = k := by injection e
    subst e2
    rcases hat with q | q
    · exact .inl (by rw [q]; rfl)
    · exact .inr q
  · exact hO9.os.trans (hg.os.trans (hW'.os.trans (hO.os.trans hF.os)))
  · exact hO9.tape.trans (hg.tape.trans (hW'.tape.trans (hO.tape.trans hF.tape)))
  · exact hO9.output.trans (hg.output.trans (hW'.output.trans (hO.output.trans hF.output)))
  · rw [hO9.size]
    have := hg.size
    have := hW'.size
    have := hO.size
    have := hF.size
    omega
  · exact (hO9.block k c).trans ((keep k (Nat.lt_of_lt_of_le a hF.size) (fun q => d (by rw [q]; rfl))).trans (hF.block k a b c d e))

set_option maxRecDepth 100000 in
set_option maxHeartbeats 16000000 in
theorem leave_any13 (PB gp n : Nat) (mv iv : Value) (gw base : Nat) (gv : Value) (P : Prt13) (g : List Nat) (rows : List Value) (w : World) (hs : PStr w PB gp n mv iv gw) (hp : RowN w base gp n P.p) (hm : MbI w base mv rows P.B) (hok : P.Ok n) (hg : g.Nodup) (hgm : ∀ s, s ∈ g → s < n ∧ P.p s = P.p (g.getD 0 0)) (hgv : w.ownsRow base 3 1 gv g.length (cellP g)) (hg1 : gv.ownBlock ≠ some gp) (hg2 : ∀ u ∈ rows, ∀ k, u.ownBlock = some k → gv.ownBlock ≠ some k) (hr1 : ∀ u ∈ rows, u.ownBlock ≠ some gp) (hn : n ≤ 5000) (hbw : base ≤ w.heap.size) :
    Calls Tryz.prog 51 #[.pointer (some ⟨PB, 0, none⟩), gv] w fun e w' => e = .returned (.tuple #[]) ∧ LvA PB gp n base gw iv mv gv rows (leaveP P g) w w' := by
  obtain ⟨iR, hiR, hzR0, hzR1, hzR2⟩ := info_parts Tryz.infoRow13
  have HS : Hid (PStr w PB gp n mv iv gw) := hs
  have HP : Hid (RowN w base gp n P.p) := hp
  have HM : Hid (MbI w base mv rows P.B) := hm
  have HOK : Hid (P.Ok n ∧ g.Nodup ∧ ∀ s, s ∈ g → s < n ∧ P.p s = P.p (g.getD 0 0)) := ⟨hok, hg, hgm⟩
  have HGV : Hid (w.ownsRow base 3 1 gv g.length (cellP g)) := hgv
  have HNE : Hid (gv.ownBlock ≠ some gp ∧ (∀ u ∈ rows, ∀ k, u.ownBlock = some k → gv.ownBlock ≠ some k) ∧ ∀ u ∈ rows, u.ownBlock ≠ some gp) := ⟨hg1, hg2, hr1⟩
  have HGL : Hid (g.length ≤ n) := nodup_len hg (fun x hx => (hgm x hx).1)
  obtain ⟨ga, gn, gc, rfl⟩ := own_any hgv
  have hgn : gn = g.length := by
    rcases hgv.2 with ⟨e, h0⟩ | ⟨g', cap, cur, e, _⟩
    · simp at e; omega
    · simp at e; exact e.2.1
  have HGN : Hid (gn = g.length) := hgn
  obtain ⟨W0, hW0⟩ : ∃ W, W = w.alloc (.cells #[.pointer (some ⟨PB, 0, none⟩)] 91) := ⟨_, rfl⟩
  have hb0 : Below w.heap.size w W0 := by rw [hW0]; exact below_alloc _ _
  have hx0 : W0.heap[w.heap.size]? = some (.cells #[.pointer (some ⟨PB, 0, none⟩)] 91) := by rw [hW0]; exact heap_new' _ _
  have HW0 : Hid (W0 = _) := hW0
  have HB0 : Hid (Below w.heap.size w W0 ∧ W0.heap[w.heap.size]? = some (.cells #[.pointer (some ⟨PB, 0, none⟩)] 91) ∧ W0.heap.size = w.heap.size + 1) := ⟨hb0, hx0, by rw [hW0]; simp⟩
  clear hs hp hm hok hg hgm hg1 hg2 hr1 hb0 hx0 hW0
  by_cases hg0 : g = []
  case pos =>
    have HE : Hid (leaveP P g = P) := by
      show _ = _
      rw [hg0]
      unfold leaveP
      simp
    have hgn0 : gn = 0 := by rw [hgn, hg0]; rfl
    subst hgn0
    clear hgn hg0 hgv
    go_enter Tryz.func51, Tryz.ntmps51
    go_upto_region 1 with fail
    rw [← HW0.out]
    go_cut [30] from 7 to 31 (fun s wx => s = .bool true ∧ Hid (Below W0.heap.size W0 wx))
    case first =>
      go_region
      all_goals (
        go_wp2
        go_meet
        exact ⟨rfl, by first | exact (Below.refl _ _).drew | exact below_drewN' (Below.refl _ _) _⟩)
    case rest =>
    obtain ⟨rfl, HBc⟩ := hcut
    go_wp2
    (try simp only [Exit.inBlock, Exit.then])
    refine bodyPost_ret (results_none rfl _ _ _) rfl ?_
    refine ⟨rfl, ?_⟩
    rw [HE.out]
    exact LvA.same HS.out HP.out HM.out (below_after HB0.out.1 HBc.out)
  case neg =>
  have hlg : 0 < g.length := List.length_pos_iff.2 hg0
  obtain ⟨s0, hs0⟩ : ∃ s, s = g.getD 0 0 := ⟨_, rfl⟩
  have hs0g : s0 ∈ g := by rw [hs0, List.getD_eq_getElem?_getD, List.getElem?_eq_getElem hlg]; exact List.getElem_mem _
  obtain ⟨old, hold⟩ : ∃ o, o = P.p s0 := ⟨_, rfl⟩
  have hsn := (HOK.out.2.2 s0 hs0g).1
  have hol : old < P.B.length := by rw [hold]; exact HOK.out.1.lt s0 hsn
  obtain ⟨all, hall⟩ : ∃ a, a = P.B.getD old [] := ⟨_, rfl⟩
  obtain ⟨ma, mn, mc, rfl⟩ := own_any HM.out.arr
  obtain ⟨GM, hGM, hmn⟩ : ∃ GM, ma = some ⟨GM, 0, none⟩ ∧ mn = P.B.length := by
    rcases HM.out.arr.2 with ⟨e, h0⟩ | ⟨g', cap, cur, e, _⟩
    · omega
    · simp at e; exact ⟨g', e.1, e.2.1⟩
  subst hGM
  have hor : old < rows.length := by rw [HM.out.len]; exact hol
  obtain ⟨ra, rn, rc, hrow⟩ := own_any (HM.out.row old hor hol)
  have hBo : P.B[old] = all := by rw [hall, List.getD_eq_getElem?_getD, List.getElem?_eq_getElem hol]; rfl
  have hrw := HM.out.row old hor hol
  rw [hrow, hBo] at hrw
  have hall0 : all ≠ [] := by rw [hall]; exact HOK.out.1.ne old hol
  have hal : 0 < all.length := List.length_pos_iff.2 hall0
  obtain ⟨GR, hGR, hrn⟩ : ∃ GR, ra = some ⟨GR, 0, none⟩ ∧ rn = all.length := by
    rcases hrw.2 with ⟨e, h0⟩ | ⟨g', cap, cur, e, _⟩
    · omega
    · simp at e; exact ⟨g', e.1, e.2.1⟩
  subst hGR
  obtain ⟨GG, hGG⟩ : ∃ GG, ga = some ⟨GG, 0, none⟩ := by
    rcases hgv.2 with ⟨e, h0⟩ | ⟨g', cap, cur, e, _⟩
    · omega
    · simp at e; exact ⟨g', e.1⟩
  subst hGG
  have HO : Hid (s0 = g.getD 0 0 ∧ s0 ∈ g ∧ old = P.p s0 ∧ old < P.B.length ∧ all = P.B.getD old [] ∧ 0 < g.length ∧ 0 < all.length ∧ s0 < n) := ⟨hs0, hs0g, hold, hol, hall, hlg, hal, hsn⟩
  have HRW : Hid (w.ownsRow base 3 1 (.slice (some ⟨GR, 0, none⟩) rn rc) all.length (cellP all) ∧ rows[old]? = some (.slice (some ⟨GR, 0, none⟩) rn rc) ∧ rn = all.length ∧ mn = P.B.length) := ⟨hrw, by rw [List.getElem?_eq_getElem hor, hrow], hrn, hmn⟩
  have HNG : Hid (GG ≠ gp ∧ GG ≠ GR ∧ GR ≠ gp) := ⟨fun e => HNE.out.1 (by rw [← e]; rfl), fun e => HNE.out.2.1 _ (List.getElem_mem hor) GR (by rw [hrow]; rfl) (by rw [← e]; rfl), fun e => HNE.out.2.2 _ (List.getElem_mem hor) (by rw [hrow, ← e]; rfl)⟩
  -- what the regions read
  have HFW : Hid (∀ W, Below w.heap.size w W → W.cell? ⟨PB, 0, none⟩ = some (.slice (some ⟨gp, 0, none⟩) n n) ∧ W.cell? ⟨PB, 1, none⟩ = some (.slice (some ⟨GM, 0, none⟩) mn mc) ∧ PB < W.heap.size ∧ W.cell? ⟨GG, 0, none⟩ = some (.int .i64 (s0 : Int)) ∧ GG < W.heap.size ∧ W.cell? ⟨gp, s0, none⟩ = some (.int .i64 (old : Int)) ∧ gp < W.heap.size ∧ W.cell? ⟨GM, old, none⟩ = some (.slice (some ⟨GR, 0, none⟩) rn rc) ∧ GM < W.heap.size) := fun W hb => by
    have k1 := HS.out.below hb
    have k2 := HP.out.below hb
    have k3 := HM.out.below hb
    have k4 := ownsRow_below hgv hb
    have p0 := cell_in k1 0
    have p1 := cell_in k1 1
    simp at p0 p1
    have g0 := k4.cells (g := GG) rfl 0 (.int .i64 (s0 : Int)) (by
      rw [List.getElem?_eq_getElem (by rw [cellP_length]; exact hlg)]
      simp [cellP, hs0, List.getD_eq_getElem?_getD, List.getElem?_eq_getElem hlg])
    rw [add_lit', Nat.zero_add] at g0
    have q0 := k2.at hsn
    rw [← hold] at q0
    have m0 := k3.arr.cells (g := GM) rfl old (.slice (some ⟨GR, 0, none⟩) rn rc) (by rw [List.getElem?_eq_getElem hor, hrow])
    rw [add_lit', Nat.zero_add] at m0
    exact ⟨p0, p1, lt_of_heap k1, g0, (k4.lt GG rfl).2, q0, k2.lt.1, m0, (k3.arr.lt GM rfl).2⟩
  obtain ⟨p0, p1, pl, g0, ggl, q0, ql, m0, ml⟩ := HFW.out W0 HB0.out.1
  have b0 := cell_in HB0.out.2.1 0
  have bl := lt_of_heap HB0.out.2.1
  simp at b0
  have hs00 : (0 : Int) ≤ (s0 : Int) := by omega
  have hs01 : (s0 : Int) < (n : Int) := by omega
  have ho0 : (0 : Int) ≤ (old : Int) := by omega
  have ho1 : (old : Int) < (mn : Int) := by omega
  have hgn1 : (0 : Int) < (gn : Int) := by omega
  have hgn2 : ((gn : Int) == 0) = false := by simp; omega
  by_cases hgl : gn = rn
  case pos =>
    have HE : Hid (leaveP P g = P) := by
      show _ = _
      unfold leaveP
      simp only [← hs0, ← hold, ← hall]
      rw [if_pos (.inr (by omega))]
    subst hgl
    have hgg : ((gn : Int) == (gn : Int)) = true := by simp
    clear hrw hgv hall hBo hrow hmn hrn hol hor hs0 hs0g hold hlg hal hall0 hg0 hgn hsn
    go_enter Tryz.func51, Tryz.ntmps51
    go_upto_region 1 with fail
    rw [← HW0.out]
    go_cut [30] from 7 to 31 (fun s wx => s = .bool true ∧ Hid (Below W0.heap.size W0 wx))
    case first =>
      go_region
      all_goals (
        go_wp2
        go_meet
        exact ⟨rfl, by first | exact (Below.refl _ _).drew | exact below_drewN' (Below.refl _ _) _⟩)
    case rest =>
    obtain ⟨rfl, HBc⟩ := hcut
    go_wp2
    (try simp only [Exit.inBlock, Exit.then])
    refine bodyPost_ret (results_none rfl _ _ _) rfl ?_
    refine ⟨rfl, ?_⟩
    rw [HE.out]
    exact LvA.same HS.out HP.out HM.out (below_after HB0.out.1 HBc.out)
  case neg =>
  have hgg : ((gn : Int) == (rn : Int)) = false := by simp; omega
  clear hrw hgv hall hBo hrow hmn hrn hol hor hs0 hs0g hold hlg hal hall0 hg0 hgn hsn
  go_enter Tryz.func51, Tryz.ntmps51
  go_upto_region 1 with fail
  rw [← HW0.out]
  go_cut [30] from 7 to 31 (fun s wx => s = .bool false ∧ Hid (Below W0.heap.size W0 wx))
  case first =>
    go_region
    all_goals (
      go_wp2
      go_meet
      exact ⟨rfl, by first | exact (Below.refl _ _).drew | exact below_drewN' (Below.refl _ _) _⟩)
  case rest =>
  obtain ⟨rfl, HBc⟩ := hcut
  obtain ⟨wx, hwxe⟩ : ∃ W, W = wc := ⟨_, rfl⟩
  rw [← hwxe] at HBc ⊢
  clear hwxe
  have HB1 : Hid (Below w.heap.size w wx) := below_after HB0.out.1 HBc.out
  clear p0 p1 pl g0 ggl q0 ql m0 ml b0 bl hgg
  obtain ⟨p0, p1, pl, g0, ggl, q0, ql, m0, ml⟩ := HFW.out wx HB1.out
  have bx := (HBc.out.block _ (lt_of_heap HB0.out.2.1)).trans HB0.out.2.1
  have b0 := cell_in bx 0
  have bl := lt_of_heap bx
  simp at b0
  go_upto_region 2 with fail
  go_cut [4, 5] from 31 to 45 (fun s4 s5 wy => s4 = .int .i64 (old : Int) ∧ ∃ ba, s5 = .pointer (some ⟨ba, 0, none⟩) ∧ Hid (wy.heap[ba]? = some (.cells #[.int .i64 (mn : Int)] 3 (0, 0)) ∧ wx.heap.size ≤ ba ∧ Below wx.heap.size wx wy))
  case first =>
    go_region
    all_goals (
      go_wp2
      go_meet
      exact ⟨rfl, wx.heap.size, rfl, heap_new' wx _, Nat.le_refl _, (below_alloc _ _).drew⟩)
  case rest =>
  obtain ⟨rfl, ba, rfl, HBA⟩ := hcut
  obtain ⟨w2, hw2⟩ : ∃ W, W = wc := ⟨_, rfl⟩
  rw [← hw2] at HBA ⊢
  clear hw2 p0 p1 pl g0 ggl q0 ql m0 ml bx b0 bl
  have hwx : w.heap.size < wx.heap.size := by have := HB0.out.2.2; have := HBc.out.size; omega
  have HB2 : Hid (Below w.heap.size w w2) := below_after HB1.out HBA.out.2.2
  have HBX : Hid (w2.heap[w.heap.size]? = some (.cells #[.pointer (some ⟨PB, 0, none⟩)] 91 (0, 0)) ∧ w2.heap[ba]? = some (.cells #[.int .i64 (mn : Int)] 3 (0, 0)) ∧ w.heap.size < ba) := ⟨(HBA.out.2.2.block _ hwx).trans ((HBc.out.block _ (lt_of_heap HB0.out.2.1)).trans HB0.out.2.1), HBA.out.1, by have := HBA.out.2.1; omega⟩
  have HAN : Hid (all.length ≤ n ∧ ∀ y ∈ all, y < n ∧ P.p y = old) := by
    have h1 : ∀ y ∈ all, y < n ∧ P.p y = old := fun y hy => by
      have := HO.out.2.2.2.2.1
      rw [this] at hy
      exact (HOK.out.1.mem old y HO.out.2.2.2.1).1 hy
    exact ⟨nodup_len (by have := HOK.out.1.nd old HO.out.2.2.2.1; rw [← HO.out.2.2.2.2.1] at this; exact this) (fun x hx => (h1 x hx).1), h1⟩
  have HTY : Hid (PB ≠ gp ∧ PB ≠ GR ∧ GM ≠ gp ∧ GM ≠ PB ∧ GR < w.heap.size ∧ GM < w.heap.size ∧ gp < w.heap.size ∧ PB < w.heap.size) := by
    obtain ⟨c1, t1⟩ := HP.out.typed
    obtain ⟨c2, t2⟩ := own_typed HRW.out.1 (k := GR) rfl
    obtain ⟨c3, t3⟩ := own_typed HM.out.arr (k := GM) rfl
    have t4 := HS.out
    unfold PStr at t4
    refine ⟨fun e => ?_, fun e => ?_, fun e => ?_, fun e => ?_, lt_of_heap t2, lt_of_heap t3, lt_of_heap t1, lt_of_heap t4⟩
    · rw [e] at t4
      exact absurd (typ_ne t4 t1) (by decide)
    · rw [e] at t4
      exact absurd (typ_ne t4 t2) (by decide)
    · rw [e] at t3
      exact absurd (typ_ne t3 t1) (by decide)
    · rw [e] at t3
      exact absurd (typ_ne t3 t4) (by decide)
  -- put of the group
  have hput := put_any13 PB gp n (.slice (some ⟨GM, 0, none⟩) mn mc) iv gw base base P.p (.slice (some ⟨GG, 0, none⟩) gn gc) g mn w2 (HS.out.below HB2.out) (HP.out.below HB2.out) (ownsRow_below HGV.out HB2.out) (fun e => HNG.out.1 (by injection e)) (fun y hy => (HOK.out.2.2 y hy).1) (by omega) (by have := HGL.out; omega)
  have x0 := cell_in HBX.out.1 0
  have xl := lt_of_heap HBX.out.1
  have y0 := cell_in HBX.out.2.1 0
  have yl := lt_of_heap HBX.out.2.1
  simp at x0 y0
  go_wp2_with fail
  refine hput.mono ?_
  rintro e w3 ⟨rfl, hr3, ho3⟩
  have HR3 : Hid (RowN w3 base gp n (putP P.p g mn)) := hr3
  have HO3 : Hid (OnlyB gp w2 w3) := ho3
  clear hput hr3 ho3 x0 xl y0 yl
  have HBX3 : Hid (w3.heap[w.heap.size]? = some (.cells #[.pointer (some ⟨PB, 0, none⟩)] 91 (0, 0)) ∧ w3.heap[ba]? = some (.cells #[.int .i64 (mn : Int)] 3 (0, 0)) ∧ PStr w3 PB gp n (.slice (some ⟨GM, 0, none⟩) mn mc) iv gw ∧ w3.cell? ⟨GM, old, none⟩ = some (.slice (some ⟨GR, 0, none⟩) rn rc) ∧ GM < w3.heap.size) := by
    have h1 := HTY.out
    have h2 := HBX.out.2.2
    obtain ⟨_, _, _, _, _, _, _, m0, ml⟩ := HFW.out w2 HB2.out
    refine ⟨(HO3.out.block _ (by omega)).trans HBX.out.1, (HO3.out.block _ (by omega)).trans HBX.out.2.1, (HO3.out.block _ (by omega)).trans (HS.out.below HB2.out), (World.cell?_of_block (a := ⟨GM, old, none⟩) (HO3.out.block GM (by omega))).trans m0, by rw [HO3.out.size]; exact ml⟩
  have HRW3 : Hid (w3.ownsRow base 3 1 (.slice (some ⟨GR, 0, none⟩) rn rc) all.length (cellP all)) := own_blk (ownsRow_below HRW.out.1 HB2.out) (fun k e => HO3.out.block k (fun e2 => HNG.out.2.2 ((by injection e : GR = k).trans e2)))
  have hprd : PrdG 71 #[.pointer (some ⟨w.heap.size, 0, none⟩), .pointer (some ⟨ba, 0, none⟩)] GR w3 (fun s => decide (putP P.p g mn s = mn)) all := by
    refine ⟨lv1_ent, fun y hy W hW => ?_⟩
    have h1 := HTY.out
    have h2 := HBX.out.2.2
    exact leaf_any PB gp n (.slice (some ⟨GM, 0, none⟩) mn mc) iv gw base w.heap.size ba (putP P.p g mn) y mn W ((hW.block _ (by omega)).trans HBX3.out.2.2.1) (HR3.out.blk (hW.block _ (fun e => HNG.out.2.2 e.symm))) ((hW.block _ (by omega)).trans HBX3.out.1) ((hW.block _ (by omega)).trans HBX3.out.2.1) (HAN.out.2 y hy).1
  have hdel := del13 71 #[.pointer (some ⟨w.heap.size, 0, none⟩), .pointer (some ⟨ba, 0, none⟩)] GR w3 (fun s => decide (putP P.p g mn s = mn)) all (.slice (some ⟨GR, 0, none⟩) rn rc) w3 base hprd (OnlyB.refl _ _) rfl HRW3.out (by have := HAN.out.1; omega)
  have HRST : Hid (all.filter (fun s => !decide (putP P.p g mn s = mn)) = all.filter (fun s => !decide (s ∈ g))) := by
    show _ = _
    refine List.filter_congr (fun y hy => ?_)
    have h1 := (HAN.out.2 y hy).2
    have h2 := HO.out.2.2.2.1
    have h3 := HRW.out.2.2.2
    unfold putP
    by_cases q : y ∈ g
    · simp [q]
    · have : ¬ P.p y = mn := by omega
      simp [q, this]
  rw [HRST.out] at hdel
  obtain ⟨rest, hrest⟩ : ∃ r, r = all.filter (fun s => !decide (s ∈ g)) := ⟨_, rfl⟩
  have HRS : Hid (rest = all.filter (fun s => !decide (s ∈ g))) := hrest
  rw [← hrest] at hdel
  have x0 := cell_in HBX3.out.1 0
  have xl := lt_of_heap HBX3.out.1
  have y0 := cell_in HBX3.out.2.2.1 1
  have yl := lt_of_heap HBX3.out.2.2.1
  have z0 := HBX3.out.2.2.2.1
  have zl := HBX3.out.2.2.2.2
  simp at x0 y0
  clear hprd hrest
  go_wp2_with fail
  refine hdel.mono ?_
  rintro e w4 ⟨rv, rfl, hr4, hG4, ho4⟩
  obtain ⟨va4, vn4, vc4, rfl⟩ := own_any hr4
  obtain rfl : va4 = some ⟨GR, 0, none⟩ := by
    rcases hr4.2 with ⟨e, h0⟩ | ⟨g', cap, cur, e, _⟩
    · rw [e] at hG4; cases hG4
    · simp at e
      rw [e.1] at hG4
      have : g' = GR := by injection hG4
      rw [e.1, this]
  have hvn4 : vn4 = rest.length := by
    rcases hr4.2 with ⟨e, h0⟩ | ⟨g', cap, cur, e, _⟩
    · rw [e] at hG4; cases hG4
    · simp at e; exact e.2.1
  have HR4 : Hid (w4.ownsRow base 3 1 (.slice (some ⟨GR, 0, none⟩) vn4 vc4) rest.length (cellP rest) ∧ vn4 = rest.length ∧ OnlyB GR w3 w4) := ⟨hr4, hvn4, ho4⟩
  have HB4 : Hid (w4.heap[w.heap.size]? = some (.cells #[.pointer (some ⟨PB, 0, none⟩)] 91 (0, 0)) ∧ w4.heap[ba]? = some (.cells #[.int .i64 (mn : Int)] 3 (0, 0)) ∧ PStr w4 PB gp n (.slice (some ⟨GM, 0, none⟩) mn mc) iv gw ∧ RowN w4 base gp n (putP P.p g mn) ∧ MbX w4 base (.slice (some ⟨GM, 0, none⟩) mn mc) rows P.B old ∧ w4.ownsRow base 3 1 (.slice (some ⟨GG, 0, none⟩) gn gc) g.length (cellP g)) := by
    have h1 := HTY.out
    have h2 := HBX.out.2.2
    have hMX : MbX w base (.slice (some ⟨GM, 0, none⟩) mn mc) rows P.B old := ⟨HM.out.arr, fun i a b _ => HM.out.row i a b, HM.out.inj⟩
    have keep : ∀ k, k < w.heap.size → k ≠ gp → k ≠ GR → w4.heap[k]? = w.heap[k]? := fun k a b c => (ho4.block k c).trans ((HO3.out.block k b).trans (HB2.out.block k a))
    refine ⟨(ho4.block _ (by omega)).trans HBX3.out.1, (ho4.block _ (by omega)).trans HBX3.out.2.1, (ho4.block _ (by omega)).trans HBX3.out.2.2.1, HR3.out.blk (ho4.block _ (fun e => HNG.out.2.2 e.symm)), hMX.to (fun k e => ?_) (fun i a b k e => ?_), own_blk HGV.out (fun k e => ?_)⟩
    · have e2 : GM = k := by injection e
      subst e2
      refine keep GM h1.2.2.2.2.2.1 h1.2.2.1 (fun e3 => ?_)
      obtain ⟨c2, t2⟩ := own_typed HRW.out.1 (k := GR) rfl
      obtain ⟨c3, t3⟩ := own_typed HM.out.arr (k := GM) rfl
      rw [e3] at t3
      exact absurd (typ_ne t3 t2) (by decide)
    · have hl := (HM.out.row i a (by rw [← HM.out.len]; exact a)).lt k e
      refine keep k hl.2 (fun e3 => HNE.out.2.2 _ (List.getElem_mem a) (by rw [e, e3])) (fun e3 => b ?_)
      have hor := (List.getElem?_eq_some_iff.1 HRW.out.2.1).1
      have hoe := (List.getElem?_eq_some_iff.1 HRW.out.2.1).2
      exact HM.out.inj i old a hor k e (by rw [hoe, e3]; rfl)
    · have e2 : GG = k := by injection e
      subst e2
      exact keep GG (HGV.out.lt GG rfl).2 HNG.out.1 HNG.out.2.1
  have hszn : w3.heap.size = w4.heap.size := ho4.size.symm
  have HSZ : Hid (w.heap.size < w4.heap.size ∧ w2.heap.size = w4.heap.size) := by
    have h1 := HO3.out.size
    have h2 := lt_of_heap HB4.out.1
    exact ⟨h2, by omega⟩
  have HF4 : Hid (LvF PB gp (.slice (some ⟨GM, 0, none⟩) mn mc) rows w w4) := by
    have hGR : ∀ k, (∀ u ∈ rows, u.ownBlock ≠ some k) → k ≠ GR := fun k h e => by
      have hor := (List.getElem?_eq_some_iff.1 HRW.out.2.1)
      obtain ⟨hor, hoe⟩ := hor
      exact h _ (List.getElem_mem hor) (by rw [hoe, e]; rfl)
    exact ⟨ho4.os.trans (HO3.out.os.trans HB2.out.os), ho4.tape.trans (HO3.out.tape.trans HB2.out.tape), ho4.output.trans (HO3.out.output.trans HB2.out.output), Nat.le_of_lt HSZ.out.1, fun k a b c d e => (ho4.block k (hGR k e)).trans ((HO3.out.block k b).trans (HB2.out.block k a))⟩
  clear hdel hr4 hG4 hvn4 ho4 hszn x0 xl y0 yl z0 zl
  have HLV : Hid (leaveP P g = if rest.length < g.length then ⟨putP (putP (putP P.p g P.B.length) rest P.B.length) g old, P.B.set old g ++ [rest]⟩ else ⟨putP P.p g P.B.length, P.B.set old rest ++ [g]⟩) := by
    have h1 := HO.out
    have hne : ¬ g.length = all.length := fun e => hgl (by have := HGN.out; have := HRW.out.2.2.1; omega)
    unfold Hid leaveP
    simp only [← h1.1, ← h1.2.2.1, ← h1.2.2.2.2.1, ← HRS.out]
    rw [if_neg (by omega)]
  have HIN : Hid (∀ i, (q : i < rows.length) → i ≠ old → ∀ k, rows[i].ownBlock = some k → k ≠ GR ∧ k ≠ GG) := fun i q hi k e => by
    obtain ⟨hor, hoe⟩ := List.getElem?_eq_some_iff.1 HRW.out.2.1
    exact ⟨fun e2 => hi (HM.out.inj i old q hor k e (by rw [hoe, e2]; rfl)), fun e2 => HNE.out.2.1 _ (List.getElem_mem q) k e (by rw [e2]; rfl)⟩
  have HGM : Hid (∃ u' ∈ rows, u'.ownBlock = some GR) := by
    obtain ⟨hor, hoe⟩ := List.getElem?_eq_some_iff.1 HRW.out.2.1
    exact ⟨_, List.getElem_mem hor, by rw [hoe]; rfl⟩
  by_cases hlt : vn4 < gn
  case pos =>
    have HPE : Hid (leaveP P g = ⟨putP (putP (putP P.p g P.B.length) rest P.B.length) g old, P.B.set old g ++ [rest]⟩) := by
      have h1 := HLV.out
      rwa [if_pos (by have := HR4.out.2.1; have := HGN.out; omega)] at h1
    have hltb : decide ((vn4 : Int) < (gn : Int)) = true := by simp; omega
    have HRA : Hid ((∀ y ∈ rest, y < n) ∧ rest.length ≤ 100000) := by
      have h1 : rest.length ≤ all.length := by rw [HRS.out]; exact List.length_filter_le _ _
      refine ⟨fun y hy => ?_, by have := HAN.out.1; omega⟩
      rw [HRS.out] at hy
      exact (HAN.out.2 y (List.mem_filter.1 hy).1).1
    have hp1 := put_any13 PB gp n (.slice (some ⟨GM, 0, none⟩) mn mc) iv gw base base (putP P.p g mn) (.slice (some ⟨GR, 0, none⟩) vn4 vc4) rest mn w4 HB4.out.2.2.1 HB4.out.2.2.2.1 HR4.out.1 (fun e => HNG.out.2.2 (by injection e)) HRA.out.1 (by omega) HRA.out.2
    have x0 := cell_in HB4.out.1 0
    have xl := lt_of_heap HB4.out.1
    have y0 := cell_in HB4.out.2.1 0
    have yl := lt_of_heap HB4.out.2.1
    simp at x0 y0
    go_upto_region 7 with fail
    go_wp2_with fail
    refine hp1.mono ?_
    rintro e w5 ⟨rfl, hr5, ho5⟩
    have HR5 : Hid (RowN w5 base gp n (putP (putP P.p g mn) rest mn) ∧ OnlyB gp w4 w5) := ⟨hr5, ho5⟩
    clear hp1 x0 xl y0 yl hr5 ho5
    have HX5 : Hid (w5.heap[w.heap.size]? = some (.cells #[.pointer (some ⟨PB, 0, none⟩)] 91 (0, 0)) ∧ w5.heap[ba]? = some (.cells #[.int .i64 (mn : Int)] 3 (0, 0)) ∧ PStr w5 PB gp n (.slice (some ⟨GM, 0, none⟩) mn mc) iv gw ∧ w5.ownsRow base 3 1 (.slice (some ⟨GG, 0, none⟩) gn gc) g.length (cellP g)) := by
      have h1 := HTY.out
      have h2 := HBX.out.2.2
      exact ⟨(HR5.out.2.block _ (by omega)).trans HB4.out.1, (HR5.out.2.block _ (by omega)).trans HB4.out.2.1, (HR5.out.2.block _ (by omega)).trans HB4.out.2.2.1, own_blk HB4.out.2.2.2.2.2 (fun k e => HR5.out.2.block k (fun e2 => HNG.out.1 ((show GG = k by injection e).trans e2)))⟩
    have hp2 := put_any13 PB gp n (.slice (some ⟨GM, 0, none⟩) mn mc) iv gw base base (putP (putP P.p g mn) rest mn) (.slice (some ⟨GG, 0, none⟩) gn gc) g old w5 HX5.out.2.2.1 HR5.out.1 HX5.out.2.2.2 (fun e => HNG.out.1 (by injection e)) (fun y hy => (HOK.out.2.2 y hy).1) (by omega) (by have := HGL.out; omega)
    have x0 := cell_in HX5.out.1 0
    have xl := lt_of_heap HX5.out.1
    simp at x0
    go_wp2_with fail
    refine hp2.mono ?_
    rintro e w6 ⟨rfl, hr6, ho6⟩
    have HR6 : Hid (RowN w6 base gp n (putP (putP (putP P.p g mn) rest mn) g old) ∧ OnlyB gp w4 w6) := ⟨hr6, HR5.out.2.trans ho6⟩
    clear hp2 x0 xl hr6 ho6
    have HB6 : Hid (w6.heap[w.heap.size]? = some (.cells #[.pointer (some ⟨PB, 0, none⟩)] 91 (0, 0)) ∧ w6.heap[ba]? = some (.cells #[.int .i64 (mn : Int)] 3 (0, 0)) ∧ PStr w6 PB gp n (.slice (some ⟨GM, 0, none⟩) mn mc) iv gw ∧ RowN w6 base gp n (putP (putP (putP P.p g mn) rest mn) g old) ∧ MbX w6 base (.slice (some ⟨GM, 0, none⟩) mn mc) rows P.B old ∧ w6.ownsRow base 3 1 (.slice (some ⟨GG, 0, none⟩) gn gc) g.length (cellP g) ∧ w6.ownsRow base 3 1 (.slice (some ⟨GR, 0, none⟩) vn4 vc4) rest.length (cellP rest)) := by
      have h1 := HTY.out
      have h2 := HBX.out.2.2
      have ho := HR6.out.2
      refine ⟨(ho.block _ (by omega)).trans HB4.out.1, (ho.block _ (by omega)).trans HB4.out.2.1, (ho.block _ (by omega)).trans HB4.out.2.2.1, HR6.out.1, HB4.out.2.2.2.2.1.to (fun k e => ho.block k (fun e2 => h1.2.2.1 ((show GM = k by injection e).trans e2))) (fun i a b k e => ho.block k (fun e2 => HNE.out.2.2 _ (List.getElem_mem a) (by rw [e, e2]))), own_blk HB4.out.2.2.2.2.2 (fun k e => ho.block k (fun e2 => HNG.out.1 ((show GG = k by injection e).trans e2))), own_blk HR4.out.1 (fun k e => ho.block k (fun e2 => HNG.out.2.2 ((show GR = k by injection e).trans e2)))⟩
    have HF6 : Hid (LvF PB gp (.slice (some ⟨GM, 0, none⟩) mn mc) rows w w6) := by
      have ho := HR6.out.2
      have h := HF4.out
      exact ⟨ho.os.trans h.os, ho.tape.trans h.tape, ho.output.trans h.output, by rw [ho.size]; exact h.size, fun k a b c d e => (ho.block k b).trans (h.block k a b c d e)⟩
    have HSZ6 : w.heap.size < w6.heap.size := by rw [HR6.out.2.size]; exact HSZ.out.1
    have x0 := cell_in HB6.out.1 0
    have xl := lt_of_heap HB6.out.1
    have y0 := cell_in HB6.out.2.2.1 1
    have yl := lt_of_heap HB6.out.2.2.1
    have hX4 := HB6.out.2.2.2.2.1
    have z0 := hX4.arr.cells (g := GM) rfl old (.slice (some ⟨GR, 0, none⟩) rn rc) HRW.out.2.1
    rw [add_lit', Nat.zero_add] at z0
    have zl := (hX4.arr.lt GM rfl).2
    have zf : w6.frozen? ⟨GM, old, none⟩ = false := by
      obtain ⟨c, hc⟩ := own_typed hX4.arr (k := GM) rfl
      simp [World.frozen?, hc]
    simp at x0 y0
    clear hX4
    obtain ⟨w7, hw7⟩ : ∃ W, W = w6.setCell ⟨GM, old, none⟩ (.slice (some ⟨GG, 0, none⟩) gn gc) := ⟨_, rfl⟩
    have hO7 : OnlyB GM w6 w7 := by rw [hw7]; exact (OnlyB.refl _ _).set _ _
    have HW7 : Hid (w7 = w6.setCell ⟨GM, old, none⟩ (.slice (some ⟨GG, 0, none⟩) gn gc) ∧ OnlyB GM w6 w7) := ⟨hw7, hO7⟩
    have ho0' : (0 : Int) ≤ (old : Int) := ho0
    go_upto_region 10 with fail
    rw [← hw7]
    have r0 : w7.cell? ⟨w.heap.size, 0, none⟩ = some (.pointer (some ⟨PB, 0, none⟩)) := (World.cell?_of_block (a := ⟨w.heap.size, 0, none⟩) (hO7.block w.heap.size (by have := HTY.out; omega))).trans x0
    have r1 : w7.cell? ⟨PB, 1, none⟩ = some (.slice (some ⟨GM, 0, none⟩) mn mc) := (World.cell?_of_block (a := ⟨PB, 1, none⟩) (hO7.block PB (by have := HTY.out; omega))).trans y0
    have rl : w.heap.size < w7.heap.size := by rw [hO7.size]; exact xl
    have rl' : PB < w7.heap.size := by rw [hO7.size]; exact yl
    have HARR : Hid (w7.ownsRow base 26 1 (.slice (some ⟨GM, 0, none⟩) mn mc) mn (rows.set old (.slice (some ⟨GG, 0, none⟩) gn gc)) ∧ base ≤ w7.heap.size ∧ mn ≤ 5000) := by
      have h1 := HB6.out.2.2.2.2.1.arr
      rw [← HRW.out.2.2.2] at h1
      have := own_set (i := old) h1 (.slice (some ⟨GG, 0, none⟩) gn gc)
      rw [← hw7] at this
      exact ⟨this, by rw [hO7.size]; have := HSZ6; omega, by rw [HRW.out.2.2.2]; exact Nat.le_trans HOK.out.1.few hn⟩
    have HFN : Hid (∀ W' w8 g' cap', Below w7.heap.size w7 W' → W'.grownBy w8 (some GM) → w8.ownsRow base 26 1 (.slice (some ⟨g', 0, none⟩) (mn + 1) cap') (mn + 1) (rows.set old (.slice (some ⟨GG, 0, none⟩) gn gc) ++ [.slice (some ⟨GR, 0, none⟩) vn4 vc4]) → (g' = GM ∨ w.heap.size ≤ g') → (w8.cell? ⟨w.heap.size, 0, none⟩ = some (.pointer (some ⟨PB, 0, none⟩)) ∧ w.heap.size < w8.heap.size) ∧ (w8.cell? ⟨PB, 1, none⟩ = some (.slice (some ⟨GM, 0, none⟩) mn mc) ∧ w8.frozen? ⟨PB, 1, none⟩ = false ∧ PB < w8.heap.size) ∧ Hid (LvA PB gp n base gw iv (.slice (some ⟨GM, 0, none⟩) mn mc) (.slice (some ⟨GG, 0, none⟩) gn gc) rows (leaveP P g) w (w8.setCell ⟨PB, 1, none⟩ (.slice (some ⟨g', 0, none⟩) (mn + 1) cap')))) := fun W' w8 g' cap' hb hg hm hat => by
      have hmm := HRW.out.2.2.2
      have h4 := HB6.out
      have hF := HF6.out
      rw [hmm] at h4 hm hF ⊢
      rw [HPE.out]
      have hty := HTY.out
      have hs7 : w.heap.size < w7.heap.size := by rw [HW7.out.2.size]; exact HSZ6
      refine ⟨⟨(World.cell?_of_block (a := ⟨w.heap.size, 0, none⟩) ((hg.block w.heap.size (Nat.lt_of_lt_of_le hs7 hb.size) (fun e => by injection e with e; omega)).trans (hb.block _ hs7))).trans r0, Nat.lt_of_lt_of_le hs7 (Nat.le_trans hb.size hg.size)⟩, ?_⟩
      exact lv_fin (la := g) (lb := rest) h4.2.2.1 h4.2.2.2.1 h4.2.2.2.2.1 HO.out.2.2.2.1 h4.2.2.2.2.2.1 h4.2.2.2.2.2.2 (fun i q hi k e => ⟨fun e2 => (HIN.out i q hi k e).2 (by injection e2 with e2; exact e2.symm), fun e2 => (HIN.out i q hi k e).1 (by injection e2 with e2; exact e2.symm)⟩) (fun k e e2 => HNG.out.2.1 ((show GG = k by injection e).trans (show GR = k by injection e2).symm)) (fun k e => by
        rcases e with e | e
        · exact .inr e
        · exact .inl (by rw [← e]; exact HGM.out)) hF ⟨hty.1, hty.2.2.1, hty.2.2.2.1⟩ HW7.out.1 hb hg hm hat
    clear x0 xl y0 yl z0 zl zf hw7 hO7 hltb
    go_wp2
    go_region_law (refine step_append_lies _ (by rfl) (.tmp 84) (.tmp 86) 27 (by rfl) base 26 iR (.slice none 0 0) 1 24 Tryz.underlying27 hiR hzR0 hzR1 hzR2 rfl (by decide) (.slice (some ⟨GM, 0, none⟩) mn mc) mn (rows.set old (.slice (some ⟨GG, 0, none⟩) gn gc)) (by rfl) (by exact (HARR.out.1.drew).alloc _) ⟨w7.drew.heap.size, 0, none⟩ 1 1 [.slice (some ⟨GR, 0, none⟩) vn4 vc4] (by rfl) rfl (by exact World.news_of_block (heap_new' w7.drew _)) (by simp [Value.oneCell']) (by omega) (by have := HARR.out.2.2; unfold maxLen; omega) (by have := HARR.out.2.2; omega) (by have := HARR.out.2.1; simp at this ⊢; omega) (w7.drew.heap.size + 1) (by simp) ?_; intro gL capL w8 hownL hgrowL hatL hltL; obtain ⟨⟨t3, t4⟩, ⟨t0, t1, t2⟩, HZ⟩ := HFN.out _ _ _ _ (((Below.refl _ _).drew).trans ((below_alloc _ _).mono (by simp))) hgrowL hownL (by
      rcases hatL with h | h
      · exact .inl (by injection h with h; exact h.symm)
      · right
        have := rl
        simp at h
        omega))
    all_goals (
      go_wp2
      go_end0
      exact ⟨rfl, HZ.out⟩)
  case neg =>
    have HPE : Hid (leaveP P g = ⟨putP P.p g P.B.length, P.B.set old rest ++ [g]⟩) := by
      have h1 := HLV.out
      rwa [if_neg (by have := HR4.out.2.1; have := HGN.out; omega)] at h1
    have hltb : decide ((vn4 : Int) < (gn : Int)) = false := by simp; omega
    have x0 := cell_in HB4.out.1 0
    have xl := lt_of_heap HB4.out.1
    have y0 := cell_in HB4.out.2.2.1 1
    have yl := lt_of_heap HB4.out.2.2.1
    have hX4 := HB4.out.2.2.2.2.1
    have z0 := hX4.arr.cells (g := GM) rfl old (.slice (some ⟨GR, 0, none⟩) rn rc) HRW.out.2.1
    rw [add_lit', Nat.zero_add] at z0
    have zl := (hX4.arr.lt GM rfl).2
    have zf : w4.frozen? ⟨GM, old, none⟩ = false := by
      obtain ⟨c, hc⟩ := own_typed hX4.arr (k := GM) rfl
      simp [World.frozen?, hc]
    simp at x0 y0
    clear hX4
    obtain ⟨w7, hw7⟩ : ∃ W, W = w4.setCell ⟨GM, old, none⟩ (.slice (some ⟨GR, 0, none⟩) vn4 vc4) := ⟨_, rfl⟩
    have hO7 : OnlyB GM w4 w7 := by rw [hw7]; exact (OnlyB.refl _ _).set _ _
    have HW7 : Hid (w7 = w4.setCell ⟨GM, old, none⟩ (.slice (some ⟨GR, 0, none⟩) vn4 vc4) ∧ OnlyB GM w4 w7) := ⟨hw7, hO7⟩
    have ho0' : (0 : Int) ≤ (old : Int) := ho0
    go_upto_region 10 with fail
    rw [← hw7]
    have r0 : w7.cell? ⟨w.heap.size, 0, none⟩ = some (.pointer (some ⟨PB, 0, none⟩)) := (World.cell?_of_block (a := ⟨w.heap.size, 0, none⟩) (hO7.block w.heap.size (by have := HTY.out; omega))).trans x0
    have r1 : w7.cell? ⟨PB, 1, none⟩ = some (.slice (some ⟨GM, 0, none⟩) mn mc) := (World.cell?_of_block (a := ⟨PB, 1, none⟩) (hO7.block PB (by have := HTY.out; omega))).trans y0
    have rl : w.heap.size < w7.heap.size := by rw [hO7.size]; exact xl
    have rl' : PB < w7.heap.size := by rw [hO7.size]; exact yl
    have HARR : Hid (w7.ownsRow base 26 1 (.slice (some ⟨GM, 0, none⟩) mn mc) mn (rows.set old (.slice (some ⟨GR, 0, none⟩) vn4 vc4)) ∧ base ≤ w7.heap.size ∧ mn ≤ 5000) := by
      have h1 := HB4.out.2.2.2.2.1.arr
      rw [← HRW.out.2.2.2] at h1
      have := own_set (i := old) h1 (.slice (some ⟨GR, 0, none⟩) vn4 vc4)
      rw [← hw7] at this
      exact ⟨this, by rw [hO7.size]; have := HSZ.out.1; omega, by rw [HRW.out.2.2.2]; exact Nat.le_trans HOK.out.1.few hn⟩
    have HFN : Hid (∀ W' w8 g' cap', Below w7.heap.size w7 W' → W'.grownBy w8 (some GM) → w8.ownsRow base 26 1 (.slice (some ⟨g', 0, none⟩) (mn + 1) cap') (mn + 1) (rows.set old (.slice (some ⟨GR, 0, none⟩) vn4 vc4) ++ [.slice (some ⟨GG, 0, none⟩) gn gc]) → (g' = GM ∨ w.heap.size ≤ g') → (w8.cell? ⟨w.heap.size, 0, none⟩ = some (.pointer (some ⟨PB, 0, none⟩)) ∧ w.heap.size < w8.heap.size) ∧ (w8.cell? ⟨PB, 1, none⟩ = some (.slice (some ⟨GM, 0, none⟩) mn mc) ∧ w8.frozen? ⟨PB, 1, none⟩ = false ∧ PB < w8.heap.size) ∧ Hid (LvA PB gp n base gw iv (.slice (some ⟨GM, 0, none⟩) mn mc) (.slice (some ⟨GG, 0, none⟩) gn gc) rows (leaveP P g) w (w8.setCell ⟨PB, 1, none⟩ (.slice (some ⟨g', 0, none⟩) (mn + 1) cap')))) := fun W' w8 g' cap' hb hg hm hat => by
      have hmm := HRW.out.2.2.2
      have h4 := HB4.out
      have hF := HF4.out
      rw [hmm] at h4 hm hF ⊢
      rw [HPE.out]
      have hty := HTY.out
      have hs7 : w.heap.size < w7.heap.size := by rw [HW7.out.2.size]; exact HSZ.out.1
      refine ⟨⟨(World.cell?_of_block (a := ⟨w.heap.size, 0, none⟩) ((hg.block w.heap.size (Nat.lt_of_lt_of_le hs7 hb.size) (fun e => by injection e with e; omega)).trans (hb.block _ hs7))).trans r0, Nat.lt_of_lt_of_le hs7 (Nat.le_trans hb.size hg.size)⟩, ?_⟩
      exact lv_fin (la := rest) (lb := g) h4.2.2.1 (by have := h4.2.2.2.1; exact this) h4.2.2.2.2.1 HO.out.2.2.2.1 HR4.out.1 h4.2.2.2.2.2 (fun i q hi k e => ⟨fun e2 => (HIN.out i q hi k e).1 (by injection e2 with e2; exact e2.symm), fun e2 => (HIN.out i q hi k e).2 (by injection e2 with e2; exact e2.symm)⟩) (fun k e e2 => HNG.out.2.1 ((show GG = k by injection e2).trans (show GR = k by injection e).symm)) (fun k e => by
        rcases e with e | e
        · exact .inl (by rw [← e]; exact HGM.out)
        · exact .inr e) hF ⟨hty.1, hty.2.2.1, hty.2.2.2.1⟩ HW7.out.1 hb hg hm hat
    clear x0 xl y0 yl z0 zl zf hw7 hO7 hltb
    go_wp2
    go_region_law (refine step_append_lies _ (by rfl) (.tmp 84) (.tmp 86) 27 (by rfl) base 26 iR (.slice none 0 0) 1 24 Tryz.underlying27 hiR hzR0 hzR1 hzR2 rfl (by decide) (.slice (some ⟨GM, 0, none⟩) mn mc) mn (rows.set old (.slice (some ⟨GR, 0, none⟩) vn4 vc4)) (by rfl) (by exact (HARR.out.1.drew).alloc _) ⟨w7.drew.heap.size, 0, none⟩ 1 1 [.slice (some ⟨GG, 0, none⟩) gn gc] (by rfl) rfl (by exact World.news_of_block (heap_new' w7.drew _)) (by simp [Value.oneCell']) (by omega) (by have := HARR.out.2.2; unfold maxLen; omega) (by have := HARR.out.2.2; omega) (by have := HARR.out.2.1; simp at this ⊢; omega) (w7.drew.heap.size + 1) (by simp) ?_; intro gL capL w8 hownL hgrowL hatL hltL; obtain ⟨⟨t3, t4⟩, ⟨t0, t1, t2⟩, HZ⟩ := HFN.out _ _ _ _ (((Below.refl _ _).drew).trans ((below_alloc _ _).mono (by simp))) hgrowL hownL (by
      rcases hatL with h | h
      · exact .inl (by injection h with h; exact h.symm)
      · right
        have := rl
        simp at h
        omega))
    all_goals (
      go_wp2
      go_end0
      exact ⟨rfl, HZ.out⟩)
end Go.Proofs.YtklhjjgnhigbiaaGreatDoor
